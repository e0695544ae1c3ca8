/- A walk over layer 15's second law: the place of a lot. No condition but those written. -/
import Derived.Test.YtclpdemhfbjliaaFfL2
import Derived.Test.YtclpdemhfbjliaaFfOut
namespace Go.Proofs.Ytclpdemhfbjliaa
open Go.RowKit Lo

namespace Ff
/-- Up to a place there is none of a number. -/
def NoId (l : List Lt) (id : Int) (k : Nat) : Prop := ∀ (j : Nat) (x : Lt), j < k → l[j]? = some x → x.id ≠ id
/-- What the search for a number tells. -/
def PlaceEnd (w : World) (l : List Lt) (id : Int) (e : Ending) (w' : World) : Prop := ∃ b : Int, e = .returned (.int .i64 b) ∧ ((b = -1 ∧ NoId l id l.length) ∨ ∃ (i : Nat) (x : Lt), b = (i : Nat) ∧ l[i]? = some x ∧ x.id = id) ∧ Below w.heap.size w w'
theorem noid_next {l : List Lt} {id : Int} {k : Nat} {x : Lt} (h : NoId l id k) (hx : l[k]? = some x) (hn : x.id ≠ id) : NoId l id (k + 1) := fun j y hj hy => by
  by_cases e : j = k
  · subst e
    rw [hx] at hy
    rw [← Option.some.inj hy]
    exact hn
  · exact h j y (by omega) hy
set_option maxRecDepth 100000 in
set_option maxHeartbeats 8000000 in
theorem place_any (p : Option Addr) (n c : Nat) (L : List Lv) (id : Int) (w : World) (hA : Rw 8 lcells w p n L) (hn : n ≤ 1000000) :
    Calls Try.prog 11 #[.slice p n c, .int .i64 id] w (PlaceEnd w (lts L) id) := by
  have hn' : (n : Int) ≤ 1000000 := by omega
  have HA := Lib.hid hA
  have HN := Lib.hid hA.1
  have HS := Lib.hid (show (lts L).length = n by unfold lts; rw [List.length_map]; exact hA.1)
  have N0 := Lib.hid (show NoId (lts L) id 0 from fun j x h => by omega)
  clear hA
  go_enter Try.func11, Try.ntmps11
  go_wp2_with fail
  go_loop [5] (fun i => ∃ k : Nat, k ≤ n ∧ i = .int .i64 k ∧ Hid (NoId (lts L) id k)) (fun i => n - (RowKit.intOf i).toNat)
  case atStart => exact ⟨0, Nat.zero_le _, rfl, N0⟩
  case round =>
    clear N0
    obtain ⟨k, hk, rfl, NK⟩ := hrel
    by_cases hlt : k < n
    · have hk3 : (k : Int) < (n : Int) := by omega
      obtain ⟨y, hy⟩ : ∃ y, L[k]? = some y := ⟨_, List.getElem?_eq_getElem (by rw [HN.out]; exact hlt)⟩
      obtain ⟨b, o, rfl, e0, j1, j2, j3⟩ := lv_at HA.out hy
      have HY := Lib.hid (lts_at hy)
      obtain ⟨yi, hyi⟩ : ∃ t, y.x.id = t := ⟨_, rfl⟩
      rw [hyi] at e0
      have HYI := Lib.hid hyi
      clear hy j1 j2 j3 hyi
      by_cases h1 : yi = id
      · subst h1
        have t1 : (yi == yi) = true := by simp
        go_wp2
        go_ret
        exact ⟨k, rfl, .inr ⟨k, y.x, rfl, HY.out, HYI.out⟩, Below.refl _ _⟩
      · have t1 : (yi == id) = false := by simp [h1]
        have NN := Lib.hid (noid_next NK.out HY.out (by rw [HYI.out]; exact h1))
        clear h1
        go_wp2
        go_round
        case rel => exact ⟨k + 1, by omega, by go_num, NN⟩
        case measure => simp [RowKit.intOf]; omega
    · obtain rfl : k = n := by omega
      go_wp2
      go_ret
      exact ⟨-1, rfl, .inl ⟨rfl, by rw [HS.out]; exact NK.out⟩, Below.refl _ _⟩
/-- Numbers differ up to a place, and units are as they may be. -/
structure Fine (l : List Lt) (k : Nat) : Prop where
  dif : Dif (l.take k)
  good : ∀ x ∈ l.take k, 1 ≤ x.units ∧ x.units ≤ 1048576
theorem fine_zero (l : List Lt) : Fine l 0 := ⟨by simp [Dif], fun x hx => by simp at hx⟩
theorem fine_next {l : List Lt} {k : Nat} {x : Lt} (h : Fine l k) (hx : l[k]? = some x) (hn : NoId l x.id k) (hu : 1 ≤ x.units ∧ x.units ≤ 1048576) : Fine l (k + 1) := by
  have e : l.take (k + 1) = l.take k ++ [x] := by
    rw [List.take_add_one, hx]
    rfl
  refine ⟨?_, fun y hy => ?_⟩
  · rw [e]
    refine List.pairwise_append.2 ⟨h.dif, List.pairwise_singleton _ _, fun a ha b hb => ?_⟩
    rw [List.mem_singleton.1 hb]
    obtain ⟨j, hj⟩ := List.mem_iff_getElem?.1 ha
    rw [List.getElem?_take] at hj
    by_cases hjk : j < k
    · rw [if_pos hjk] at hj
      exact hn j a hjk hj
    · rw [if_neg hjk] at hj
      cases hj
  · rw [e] at hy
    rcases List.mem_append.1 hy with hy | hy
    · exact h.good y hy
    · rw [List.mem_singleton.1 hy]
      exact hu
theorem all_next {l : List Lt} {p : Int} {k : Nat} {x : Lt} (hx : l[k]? = some x) : allP (l.take (k + 1)) p = allP (l.take k) p + if x.product = p then x.units else 0 := by
  unfold allP unitsL
  rw [List.take_add_one, hx, List.filter_append, List.map_append, List.sum_append]
  by_cases h : x.product = p <;> simp [h]
theorem all_bd : ∀ {l : List Lt} {p : Int}, (∀ x ∈ l, 1 ≤ x.units ∧ x.units ≤ 1048576) → 0 ≤ allP l p ∧ allP l p ≤ l.length * 1048576
  | [], p, _ => by simp [allP, unitsL]
  | x :: l, p, h => by
    have h1 := all_bd (l := l) (p := p) (fun y hy => h y (List.mem_cons_of_mem _ hy))
    have h2 := h x (by simp)
    unfold allP unitsL at *
    rw [List.filter_cons, List.length_cons]
    by_cases hp : x.product = p
    · rw [if_pos (by simp [hp]), List.map_cons, List.sum_cons]
      omega
    · rw [if_neg (by simp [hp])]
      omega
theorem sum_next {T : List (Int × Int)} {k : Nat} {t : Int × Int} (h : T[k]? = some t) (id : Int) : sumT id (T.take (k + 1)) = sumT id (T.take k) + if t.1 = id then t.2 else 0 := by
  rw [List.take_add_one, h, sumT_app]
  show sumT id (T.take k) + ((if t.1 = id then t.2 else 0) + 0) = _
  omega
end Ff
end Go.Proofs.Ytclpdemhfbjliaa
