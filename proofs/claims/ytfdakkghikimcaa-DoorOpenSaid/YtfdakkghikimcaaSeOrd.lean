/- Series in plain words: the same readings from behind, each twice. No condition but those written. -/
import Derived.Test.YtfdakkghikimcaaSeSet
namespace Go.Proofs.Ytfdakkghikimcaa.Se

def twice (l : List Rd) : List Rd := l.flatMap fun x => [x, x]
theorem twice_mem (l : List Rd) (x : Rd) : x ∈ twice l ↔ x ∈ l := by
  simp [twice]
theorem twice_next {l : List Rd} {k : Nat} {x : Rd} (hx : l[k]? = some x) : twice (l.take (k + 1)) = (twice (l.take k) ++ [x]) ++ [x] := by
  rw [List.take_add_one, hx, Option.toList_some]
  simp [twice]
theorem order_like (l : List Rd) : Like (puts (twice l.reverse)) (puts l) :=
  puts_like fun x => by rw [twice_mem, List.mem_reverse]
theorem rev_at {l : List Rd} {k : Nat} (hk : k < l.length) : l.reverse[k]? = l[l.length - 1 - k]? := by
  rw [List.getElem?_reverse hk]
/-- A reading that was put is there, with its tenths, or greater ones. -/
theorem is_there {l : List Rd} {z : Rd} (hz : z ∈ l) (hr : rightB z = true) : ∃ (j : Nat) (y : Rd), j < (sortL (puts l)).length ∧ (sortL (puts l))[j]? = some y ∧ y.min = z.min ∧ y.seq = z.seq ∧ z.ten ≤ y.ten := by
  obtain ⟨y, hy, ho, hle⟩ := (puts_spec l).2.2 z hz hr
  obtain ⟨j, hj⟩ := List.mem_iff_getElem?.1 ((mem_sort _ y).2 hy)
  exact ⟨j, y, (List.getElem?_eq_some_iff.1 hj).1, hj, ho.1, ho.2, hle⟩
/-- What is there was put. -/
theorem was_put {l : List Rd} {j : Nat} {y : Rd} (h : (sortL (puts l))[j]? = some y) : ∃ i, i < l.length ∧ l[i]? = some y := by
  have hy := (mem_sort _ y).1 (List.mem_of_getElem? h)
  obtain ⟨i, hi⟩ := List.mem_iff_getElem?.1 (((puts_spec l).2.1 y).1 hy).2.1
  exact ⟨i, (List.getElem?_eq_some_iff.1 hi).1, hi⟩
theorem in_row {l : List Rd} {j : Nat} {x y : Rd} (hx : (sortL (puts l))[j]? = some x) (hy : (sortL (puts l))[j + 1]? = some y) : x.min < y.min ∨ (x.min = y.min ∧ x.seq < y.seq) :=
  sorted_at (sorted_sort (puts_spec l).1) hx hy (by omega)
end Go.Proofs.Ytfdakkghikimcaa.Se
