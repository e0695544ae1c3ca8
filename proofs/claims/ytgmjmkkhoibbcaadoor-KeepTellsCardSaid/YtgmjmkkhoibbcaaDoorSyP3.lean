/- Walks over package stays: which stay has a minute (a labelled loop), its zone. Condition: the list reads as stays. -/
import Derived.Test.YtgmjmkkhoibbcaaDoorSyP2
namespace Go.Proofs.YtgmjmkkhoibbcaaDoor
open Go.RowKit

namespace Sy
/-- Which one has a minute. -/
def Placed (S : List Sy) (m r : Int) : Prop := (r = -1 ∧ S.find? (has m) = none) ∨ ∃ (k : Nat) (x : Sy), r = k ∧ S[k]? = some x ∧ S.find? (has m) = some x
def PlaceEnd (S : List Sy) (m : Int) (w : World) (e : Ending) (w' : World) : Prop := ∃ r : Int, Placed S m r ∧ e = .returned (.int .i64 r) ∧ Below w.heap.size w w'
/-- None of the first ones has it. -/
def Nones (S : List Sy) (m : Int) (k : Nat) : Prop := ∀ i s, i < k → S[i]? = some s → has m s = false
theorem find_at {S : List Sy} {m : Int} {k : Nat} {x : Sy} (h : Nones S m k) (hx : S[k]? = some x) (hh : has m x = true) : S.find? (has m) = some x := by
  have hk := (List.getElem?_eq_some_iff.1 hx)
  obtain ⟨hlt, e⟩ := hk
  rw [List.find?_eq_some_iff_append]
  refine ⟨hh, S.take k, S.drop (k + 1), ?_, fun a ha => ?_⟩
  · rw [← e, ← List.drop_eq_getElem_cons hlt, List.take_append_drop]
  · obtain ⟨i, hi⟩ := List.mem_iff_getElem?.1 ha
    have hik : i < k := by
      have := (List.getElem?_eq_some_iff.1 hi).1
      rw [List.length_take] at this
      omega
    rw [List.getElem?_take_of_lt hik] at hi
    simp [h i a hik hi]
theorem find_no {S : List Sy} {m : Int} (h : Nones S m S.length) : S.find? (has m) = none := by
  rw [List.find?_eq_none]
  intro s hs
  obtain ⟨i, hi⟩ := List.mem_iff_getElem?.1 hs
  simp [h i s (List.getElem?_eq_some_iff.1 hi).1 hi]
theorem nones_next {S : List Sy} {m : Int} {k : Nat} {x : Sy} (h : Nones S m k) (hx : S[k]? = some x) (hh : has m x = false) : Nones S m (k + 1) := fun i s hi hs => by
  by_cases hlt : i < k
  · exact h i s hlt hs
  · obtain rfl : i = k := by omega
    rw [hx] at hs
    rw [← Option.some.inj hs]
    exact hh
theorem has_no {m : Int} {s : Sy} (h : ¬ (s.frm ≤ m ∧ (s.to = -1 ∨ m < s.to))) : has m s = false := by
  cases hb : has m s
  · rfl
  · exact absurd (has_iff.1 hb) h
theorem nones_rest {S : List Sy} (hR : Right S) {m : Int} {k : Nat} {x : Sy} (h : Nones S m k) (hx : S[k]? = some x) (hm : m < x.frm) : Nones S m S.length := fun i s _ hs => by
  by_cases hlt : i < k
  · exact h i s hlt hs
  · have := rights_le hR hx (i - k) s (by rw [show k + (i - k) = i by omega]; exact hs)
    exact has_no (fun hh => by omega)
end Sy
end Go.Proofs.YtgmjmkkhoibbcaaDoor
