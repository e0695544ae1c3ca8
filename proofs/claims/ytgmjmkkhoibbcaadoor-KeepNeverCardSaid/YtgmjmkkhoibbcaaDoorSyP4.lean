/- Walks over package stays: slices.Clone of stays, the stays up to a minute. Conditions: the list reads as stays, its slice's length is at most its capacity. -/
import Derived.Test.YtgmjmkkhoibbcaaDoorSyP3
import Derived.Test.YtgmjmkkhoibbcaaDoorSl
namespace Go.Proofs.YtgmjmkkhoibbcaaDoor
open Go.RowKit

namespace Sy
theorem info : (Tryd.prog.info? 58).map (fun i => (i.zero, i.size, i.bytes)) = some (some (.agg #[.int .i64 0, .int .i64 0, .int .i64 0]), 3, 24) := by kernel_rfl
theorem scells_one (x : Sy) : ∀ u ∈ scells x, u.oneCell' = true := fun u hu => by
  simp only [scells, List.mem_cons, List.not_mem_nil, or_false] at hu
  rcases hu with rfl | rfl | rfl <;> rfl
set_option maxRecDepth 100000 in
set_option maxHeartbeats 4000000 in
theorem clone_any (q : Option Addr) (n c : Nat) (S : List Sy) (w : World) (h : Rw 3 scells w q n S) (hL : S.length ≤ 1000000) :
    Calls Tryd.prog 32 #[.slice q n c] w fun e w' => ∃ v, e = .returned v ∧ w'.ownsRow w.heap.size 58 3 v S.length (S.flatMap scells) ∧ Below w.heap.size w w' := by
  have qe : ∀ (w : World) (a : Option Addr) (n c n' c' : Nat), (binOp .eql 25 (.slice a n c) (.slice none n' c')).run Tryd.prog w = .ok (.bool a.isNone) w := fun w a n c n' c' => Lib.run_eql_slice_nil w _ _ a n c n' c' Tryd.underlying25
  cases q with
  | none =>
    have hS : S = [] := by
      rcases Nat.eq_zero_or_pos n with h0 | h0
      · exact List.eq_nil_of_length_eq_zero (h.1.trans h0)
      · obtain ⟨_, _, e, _⟩ := h.2 h0
        cases e
    subst hS
    go_enter Tryd.func32, Tryd.ntmps32
    go_wp2
    go_ret
    exact ⟨_, rfl, World.ownsRow_nil _ _ _ _, Below.refl _ _⟩
  | some a =>
    obtain ⟨i0, hi, hz0, hz1, hz2⟩ := info_parts info
    have hn := h.1
    have hl : (S.flatMap scells).length = n * 3 := by rw [flat_len scells_len, hn]
    have hc : ∀ j u, (S.flatMap scells)[j]? = some u → w.cell? (a.add j) = some u := fun j u hj => by
      have hlt := (List.getElem?_eq_some_iff.1 hj).1
      obtain ⟨b, o, e, _⟩ := h.2 (by omega)
      cases e
      rw [add_none]
      exact rw_cells scells_len h j u hj
    have HC := Lib.hid hc
    have H1 := Lib.hid (show ∀ u ∈ S.flatMap scells, u.oneCell' = true from fun u hu => by
      obtain ⟨y, _, hu⟩ := List.mem_flatMap.1 hu
      exact scells_one y u hu)
    subst hn
    clear hc h
    go_enter Tryd.func32, Tryd.ntmps32
    go_wp2_with (at_builtin; refine wpList_append_own _ rfl _ _ 25 rfl w.heap.size 58 i0 _ 3 24 Tryd.underlying25 hi hz0 hz1 hz2 rfl (by decide) _ _ _ rfl (World.ownsRow_made w #[] 0 (Nat.le_refl _) (Nat.zero_le _) (by simp)) a S.length c (S.flatMap scells) rfl ?qc1 ?qc2 ?qc3 ?qc4 ?qc5 ?qc6 ?_)
    case qc1 => exact hl
    case qc2 =>
      intro j u hj
      exact Lib.cell?_alloc_some _ (HC.out j u hj)
    case qc3 => exact H1.out
    case qc4 => unfold maxLen; omega
    case qc5 => omega
    case qc6 => simp
    intro v' w1 hown hgrow hnil
    go_wp2
    go_ret
    refine ⟨v', rfl, by simpa using hown, ?_⟩
    exact ((Below.refl _ w).alloc (Nat.le_refl _) _).grown hgrow (by simp) (by intro k hk; simp [Value.ownBlock] at hk; omega)
/-- What stays up to a minute are, as the program finds them. -/
theorem upto_found {S : List Sy} (h : Right S) (m : Int) {k : Nat} (hk : k ≤ S.length) (hlt : ∀ i s, i < k → S[i]? = some s → s.frm < m) (h0 : ∀ s, S[k]? = some s → m ≤ s.frm) : uptoS S m = cutL S k m := by
  rw [upto_stop h m hk h0, upto_take h m k hk hlt]
theorem cut_zero (S : List Sy) (m : Int) : cutL S 0 m = [] := by
  rw [cutL, dif_neg (by omega)]
theorem cut_some {S : List Sy} {j : Nat} {x : Sy} (m : Int) (hx : S[j]? = some x) : cutL S (j + 1) m = (S.take (j + 1)).set j (cut m x) := by
  obtain ⟨hlt, e⟩ := List.getElem?_eq_some_iff.1 hx
  rw [cutL, dif_pos ⟨by omega, by omega⟩]
  have e2 : j + 1 - 1 = j := rfl
  simp only [e2]
  rw [e, List.take_add_one, hx, Option.toList_some, List.set_append_right _ _ (by rw [List.length_take]; omega), List.length_take, show j - min j S.length = 0 by omega]
  rfl
theorem cut_same {S : List Sy} {j : Nat} {x : Sy} (m : Int) (hx : S[j]? = some x) (hc : ¬ (x.to = -1 ∨ m < x.to)) : cutL S (j + 1) m = S.take (j + 1) := by
  have h1 : (S.take (j + 1))[j]? = some x := by rw [List.getElem?_take_of_lt (by omega)]; exact hx
  obtain ⟨hlt, e⟩ := List.getElem?_eq_some_iff.1 h1
  rw [cut_some m hx, cut, if_neg hc, ← e, List.set_getElem_self]
theorem own_base {w : World} {B B' : Nat} {e : TypeId} {k n : Nat} {v : Value} {xs : List Value} (h : w.ownsRow B e k v n xs) (hB : B' ≤ B) : w.ownsRow B' e k v n xs := by
  refine ⟨h.1, ?_⟩
  rcases h.2 with h0 | ⟨g, cap, cur, h1, hb, h2⟩
  · exact .inl h0
  · exact .inr ⟨g, cap, cur, h1, Nat.le_trans hB hb, h2⟩
/-- The first ones begin ahead of a minute. -/
def Firsts (S : List Sy) (m : Int) (k : Nat) : Prop := ∀ i s, i < k → S[i]? = some s → s.frm < m
theorem firsts_next {S : List Sy} {m : Int} {k : Nat} {x : Sy} (h : Firsts S m k) (hx : S[k]? = some x) (hh : x.frm < m) : Firsts S m (k + 1) := fun i s hi hs => by
  by_cases hlt : i < k
  · exact h i s hlt hs
  · obtain rfl : i = k := by omega
    rw [hx] at hs
    rw [← Option.some.inj hs]
    exact hh
end Sy
end Go.Proofs.YtgmjmkkhoibbcaaDoor
