/- Walks over package stays: slices.Clone of stays, the stays up to a minute. Conditions: the list reads as stays, its slice's length is at most its capacity. -/
import Derived.Test.YtdnjmcfnngkhlaaSyP3
import Derived.Test.YtdnjmcfnngkhlaaSl
namespace Go.Proofs.Ytdnjmcfnngkhlaa
open Go.RowKit

namespace Sy
theorem info : (Try.prog.info? 33).map (fun i => (i.zero, i.size, i.bytes)) = some (some (.agg #[.int .i64 0, .int .i64 0, .int .i64 0]), 3, 24) := by kernel_rfl
theorem scells_one (x : Sy) : ∀ u ∈ scells x, u.oneCell' = true := fun u hu => by
  simp only [scells, List.mem_cons, List.not_mem_nil, or_false] at hu
  rcases hu with rfl | rfl | rfl <;> rfl
set_option maxRecDepth 100000 in
set_option maxHeartbeats 4000000 in
theorem clone_any (q : Option Addr) (n c : Nat) (S : List Sy) (w : World) (h : Rw 3 scells w q n S) (hL : S.length ≤ 1000000) :
    Calls Try.prog 16 #[.slice q n c] w fun e w' => ∃ v, e = .returned v ∧ w'.ownsRow w.heap.size 33 3 v S.length (S.flatMap scells) ∧ Below w.heap.size w w' := by
  have qe : ∀ (w : World) (a : Option Addr) (n c n' c' : Nat), (binOp .eql 25 (.slice a n c) (.slice none n' c')).run Try.prog w = .ok (.bool a.isNone) w := fun w a n c n' c' => Lib.run_eql_slice_nil w _ _ a n c n' c' Try.underlying25
  cases q with
  | none =>
    have hS : S = [] := by
      rcases Nat.eq_zero_or_pos n with h0 | h0
      · exact List.eq_nil_of_length_eq_zero (h.1.trans h0)
      · obtain ⟨_, _, e, _⟩ := h.2 h0
        cases e
    subst hS
    go_enter Try.func16, Try.ntmps16
    go_wp2
    go_ret
    exact ⟨_, rfl, World.ownsRow_nil _ _ _ _, Below.refl _ _⟩
  | some a =>
    obtain ⟨i0, hi, hz0, hz1, hz2⟩ := info_parts info
    have hn := h.1
    have hl : (S.flatMap scells).length = n * 3 := by rw [flat_len scells_len, hn]
    have hc : ∀ j u, (S.flatMap scells)[j]? = some u → w.cell? (a.add j) = some u := fun j u hj => by
      have hlt := (List.getElem?_eq_some_iff.1 hj).1
      obtain ⟨b, o, e, _⟩ := h.2 (by omega)
      cases e
      rw [add_none]
      exact rw_cells scells_len h j u hj
    have HC := Lib.hid hc
    have H1 := Lib.hid (show ∀ u ∈ S.flatMap scells, u.oneCell' = true from fun u hu => by
      obtain ⟨y, _, hu⟩ := List.mem_flatMap.1 hu
      exact scells_one y u hu)
    subst hn
    clear hc h
    go_enter Try.func16, Try.ntmps16
    go_wp2_with (at_builtin; refine wpList_append_own _ rfl _ _ 25 rfl w.heap.size 33 i0 _ 3 24 Try.underlying25 hi hz0 hz1 hz2 rfl (by decide) _ _ _ rfl (World.ownsRow_made w #[] 0 (Nat.le_refl _) (Nat.zero_le _) (by simp)) a S.length c (S.flatMap scells) rfl ?qc1 ?qc2 ?qc3 ?qc4 ?qc5 ?qc6 ?_)
    case qc1 => exact hl
    case qc2 =>
      intro j u hj
      exact Lib.cell?_alloc_some _ (HC.out j u hj)
    case qc3 => exact H1.out
    case qc4 => unfold maxLen; omega
    case qc5 => omega
    case qc6 => simp
    intro v' w1 hown hgrow hnil
    go_wp2
    go_ret
    refine ⟨v', rfl, by simpa using hown, ?_⟩
    exact ((Below.refl _ w).alloc (Nat.le_refl _) _).grown hgrow (by simp) (by intro k hk; simp [Value.ownBlock] at hk; omega)
/-- What stays up to a minute are, as the program finds them. -/
theorem upto_found {S : List Sy} (h : Right S) (m : Int) {k : Nat} (hk : k ≤ S.length) (hlt : ∀ i s, i < k → S[i]? = some s → s.frm < m) (h0 : ∀ s, S[k]? = some s → m ≤ s.frm) : uptoS S m = cutL S k m := by
  rw [upto_stop h m hk h0, upto_take h m k hk hlt]
theorem cut_zero (S : List Sy) (m : Int) : cutL S 0 m = [] := by
  rw [cutL, dif_neg (by omega)]
theorem cut_some {S : List Sy} {j : Nat} {x : Sy} (m : Int) (hx : S[j]? = some x) : cutL S (j + 1) m = (S.take (j + 1)).set j (cut m x) := by
  obtain ⟨hlt, e⟩ := List.getElem?_eq_some_iff.1 hx
  rw [cutL, dif_pos ⟨by omega, by omega⟩]
  have e2 : j + 1 - 1 = j := rfl
  simp only [e2]
  rw [e, List.take_add_one, hx, Option.toList_some, List.set_append_right _ _ (by rw [List.length_take]; omega), List.length_take, show j - min j S.length = 0 by omega]
  rfl
theorem cut_same {S : List Sy} {j : Nat} {x : Sy} (m : Int) (hx : S[j]? = some x) (hc : ¬ (x.to = -1 ∨ m < x.to)) : cutL S (j + 1) m = S.take (j + 1) := by
  have h1 : (S.take (j + 1))[j]? = some x := by rw [List.getElem?_take_of_lt (by omega)]; exact hx
  obtain ⟨hlt, e⟩ := List.getElem?_eq_some_iff.1 h1
  rw [cut_some m hx, cut, if_neg hc, ← e, List.set_getElem_self]
theorem own_base {w : World} {B B' : Nat} {e : TypeId} {k n : Nat} {v : Value} {xs : List Value} (h : w.ownsRow B e k v n xs) (hB : B' ≤ B) : w.ownsRow B' e k v n xs := by
  refine ⟨h.1, ?_⟩
  rcases h.2 with h0 | ⟨g, cap, cur, h1, hb, h2⟩
  · exact .inl h0
  · exact .inr ⟨g, cap, cur, h1, Nat.le_trans hB hb, h2⟩
/-- The first ones begin ahead of a minute. -/
def Firsts (S : List Sy) (m : Int) (k : Nat) : Prop := ∀ i s, i < k → S[i]? = some s → s.frm < m
theorem firsts_next {S : List Sy} {m : Int} {k : Nat} {x : Sy} (h : Firsts S m k) (hx : S[k]? = some x) (hh : x.frm < m) : Firsts S m (k + 1) := fun i s hi hs => by
  by_cases hlt : i < k
  · exact h i s hlt hs
  · obtain rfl : i = k := by omega
    rw [hx] at hs
    rw [← Option.some.inj hs]
    exact hh
set_option maxRecDepth 100000 in
set_option maxHeartbeats 8000000 in
theorem pupto_any (p : Option Addr) (n c : Nat) (S : List Sy) (m : Int) (w : World) (h : Rw 3 scells w p n S) (hn : n ≤ 1000000) (hnc : n ≤ c) :
    Calls Try.prog 11 #[.slice p n c, .int .i64 m] w (UptoEnd (uptoV S m) w) := by
  have hn' : (n : Int) ≤ 1000000 := by omega
  have H := Lib.hid h
  have HN := Lib.hid h.1
  have CR := Lib.hid (pright_any p n c S w h hn)
  by_cases hR : Right S
  · have HB := Lib.hid (right_yes hR)
    have HU : Hid (uptoV S m = uptoS S m) := Lib.hid (by unfold uptoV; rw [if_pos HB.out])
    have HR := Lib.hid hR
    rw [HU.out]
    clear h hR HU
    go_enter Try.func11, Try.ntmps11
    go_wp2_with fail
    refine CR.out.mono ?_
    rintro e w1 ⟨rfl, hb⟩
    rw [HB.out]
    have B1 := Lib.hid hb
    have H1 := Lib.hid (H.out.keep scells_len hb)
    clear hb CR H
    go_wp2
    go_loop [5] (fun i => ∃ k : Nat, k ≤ n ∧ i = .int .i64 k ∧ Hid (Firsts S m k)) (fun i => n - (intOf i).toNat)
    case atStart => exact ⟨0, Nat.zero_le _, rfl, Lib.hid (fun i s hi => by omega)⟩
    case round =>
      obtain ⟨k, hk, rfl, HF⟩ := hrel
      by_cases hgo : ∃ x, S[k]? = some x ∧ x.frm < m
      · obtain ⟨x, hx, hf⟩ := hgo
        have hk3 : (k : Int) < (n : Int) := by have := (List.getElem?_eq_some_iff.1 hx).1; have := HN.out; omega
        have hk4 : k < n := by omega
        obtain ⟨b, o, rfl, e0, e1, e2⟩ := rw_at H1.out hx
        have F1 := Lib.hid (firsts_next HF.out hx hf)
        have gk : decide (k < n) = true := by simp; omega
        clear hx e0 e2
        go_wp2
        go_round
        case rel => exact ⟨k + 1, by omega, by go_num, F1⟩
        case measure => simp [intOf]; omega
      · have HE : Hid (uptoS S m = cutL S k m) := Lib.hid (upto_found HR.out m (by have := HN.out; omega) HF.out (fun s hs => by
          by_cases h : s.frm < m
          · exact absurd ⟨s, hs, h⟩ hgo
          · omega))
        have HT := Lib.hid (fun W (hW : Rw 3 scells W p n S) => clone_any p k c (S.take k) W (hW.take k hk) (by rw [List.length_take]; omega))
        have hkc : (k : Int) ≤ (c : Int) := by omega
        have hkl : (S.take k).length = k := by rw [List.length_take, HN.out]; omega
        have HK := Lib.hid hkl
        have hstop : (k : Int) < (n : Int) → ∃ x, S[k]? = some x ∧ ¬ x.frm < m := fun hl => by
          have hl' : k < S.length := by have := HN.out; omega
          exact ⟨_, List.getElem?_eq_getElem hl', fun hf => hgo ⟨_, List.getElem?_eq_getElem hl', hf⟩⟩
        clear hgo hkl
        by_cases hlt : (k : Int) < (n : Int)
        · obtain ⟨x0, hx0, hf⟩ := hstop hlt
          obtain ⟨b, o, rfl, _, e1, _⟩ := rw_at H1.out hx0
          have gk : decide (k < n) = true := by simp; omega
          clear hstop hx0
          go_wp2_with fail
          refine (HT.out _ H1.out).mono ?_
          rintro e w2 ⟨v, rfl, ho, hb⟩
          have B2 := Lib.hid (B1.out.trans (hb.mono B1.out.size))
          have hz := B1.out.size
          clear hb HT
          rcases Nat.eq_zero_or_pos k with hk0 | hk0
          · subst hk0
            have HO := Lib.hid ho
            have HC := Lib.hid (cut_zero S m)
            obtain ⟨q, d, rfl⟩ := own_slice ho
            clear ho
            go_wp2
            go_ret
            refine ⟨_, rfl, ?_, B2.out⟩
            rw [HE.out, HC.out]
            exact own_base HO.out hz
          · obtain ⟨x, hx⟩ : ∃ x, S[k - 1]? = some x := ⟨_, List.getElem?_eq_getElem (by have := HN.out; omega)⟩
            obtain ⟨b2, c2, rfl, hB2, hlt2, hnc2⟩ := own_some ho (by rw [HK.out]; exact hk0)
            have hx2 : (S.take k)[k - 1]? = some x := by rw [List.getElem?_take_of_lt (by omega)]; exact hx
            have f1 : w2.cell? ⟨b2, (k - 1) * 3 + 2, none⟩ = some (.int .i64 x.to) := row_cell scells_len ho rfl hx2 (i := 2) (by decide)
            have fz : w2.frozen? ⟨b2, (k - 1) * 3 + 2, none⟩ = false := by
              obtain ⟨cur, HG, _⟩ := lies_own ho
              exact HG.frozen _
            have gz : decide (0 < k) = true := by simp; omega
            have hw2 : IntKind.i64.wrap ((k : Int) - 1) = ((k - 1 : Nat) : Int) := by rw [show (k : Int) - 1 = ((k - 1 : Nat) : Int) by omega]; exact IntWalk.i64_in _ (by omega)
            have hw3 : (k : Int) - 1 = ((k - 1 : Nat) : Int) := by omega
            have hj3 : ((k - 1 : Nat) : Int) < (k : Int) := by omega
            have hj4 : (((S.take k).length : Nat) : Int) = (k : Int) := by rw [HK.out]
            have HO := Lib.hid (own_base ho hz)
            have HS := Lib.hid (row_store (x' := ⟨x.zone, x.frm, m⟩) scells_len (own_base ho hz) hx2 (i := 2) (by decide) (u := .int .i64 m) rfl)
            have HX : Hid (S[k - 1]? = some x) := Lib.hid hx
            have HB2 := Lib.hid (Nat.le_trans hz hB2)
            have HKJ : Hid (k - 1 + 1 = k) := Lib.hid (by omega)
            rw [HK.out]
            clear ho hx hx2 hB2 hlt2
            obtain ⟨j, hj⟩ : ∃ j, k - 1 = j := ⟨_, rfl⟩
            rw [hj] at hw2 hw3 hj3 f1 fz HS HX HKJ
            clear hj
            by_cases hc : x.to = -1 ∨ m < x.to
            · have HC : Hid (cutL S k m = (S.take k).set j ⟨x.zone, x.frm, m⟩) := Lib.hid (by rw [← HKJ.out, cut_some m HX.out, cut, if_pos hc])
              have HL : Hid ((cutL S k m).length = (S.take k).length) := Lib.hid (by rw [HC.out, List.length_set])
              by_cases ht : x.to = -1
              · have te : (x.to == -1) = true := by simp [ht]
                clear hc ht
                go_wp2
                go_ret
                refine ⟨_, rfl, ?_, B2.out.setCell HB2.out _⟩
                rw [HE.out, HL.out, HC.out, HK.out]
                have h1 := HS.out
                rw [HK.out] at h1
                exact h1
              · have te : (x.to == -1) = false := by simp [ht]
                have tm : m < x.to := by omega
                clear hc ht
                go_wp2
                go_ret
                refine ⟨_, rfl, ?_, B2.out.setCell HB2.out _⟩
                rw [HE.out, HL.out, HC.out, HK.out]
                have h1 := HS.out
                rw [HK.out] at h1
                exact h1
            · have te : (x.to == -1) = false := by simp; omega
              have tm : ¬ m < x.to := by omega
              have HC : Hid (cutL S k m = S.take k) := Lib.hid (by
                have := cut_same m HX.out hc
                rwa [HKJ.out] at this)
              clear hc
              go_wp2
              go_ret
              refine ⟨_, rfl, ?_, B2.out⟩
              rw [HE.out, HC.out, HK.out]
              have h1 := HO.out
              rw [HK.out] at h1
              exact h1
        · have gk : decide (k < n) = false := by simp; omega
          clear hstop
          go_wp2_with fail
          refine (HT.out _ H1.out).mono ?_
          rintro e w2 ⟨v, rfl, ho, hb⟩
          have B2 := Lib.hid (B1.out.trans (hb.mono B1.out.size))
          have hz := B1.out.size
          clear hb HT
          rcases Nat.eq_zero_or_pos k with hk0 | hk0
          · subst hk0
            have HO := Lib.hid ho
            have HC := Lib.hid (cut_zero S m)
            obtain ⟨q, d, rfl⟩ := own_slice ho
            clear ho
            go_wp2
            go_ret
            refine ⟨_, rfl, ?_, B2.out⟩
            rw [HE.out, HC.out]
            exact own_base HO.out hz
          · obtain ⟨x, hx⟩ : ∃ x, S[k - 1]? = some x := ⟨_, List.getElem?_eq_getElem (by have := HN.out; omega)⟩
            obtain ⟨b2, c2, rfl, hB2, hlt2, hnc2⟩ := own_some ho (by rw [HK.out]; exact hk0)
            have hx2 : (S.take k)[k - 1]? = some x := by rw [List.getElem?_take_of_lt (by omega)]; exact hx
            have f1 : w2.cell? ⟨b2, (k - 1) * 3 + 2, none⟩ = some (.int .i64 x.to) := row_cell scells_len ho rfl hx2 (i := 2) (by decide)
            have fz : w2.frozen? ⟨b2, (k - 1) * 3 + 2, none⟩ = false := by
              obtain ⟨cur, HG, _⟩ := lies_own ho
              exact HG.frozen _
            have gz : decide (0 < k) = true := by simp; omega
            have hw2 : IntKind.i64.wrap ((k : Int) - 1) = ((k - 1 : Nat) : Int) := by rw [show (k : Int) - 1 = ((k - 1 : Nat) : Int) by omega]; exact IntWalk.i64_in _ (by omega)
            have hw3 : (k : Int) - 1 = ((k - 1 : Nat) : Int) := by omega
            have hj3 : ((k - 1 : Nat) : Int) < (k : Int) := by omega
            have hj4 : (((S.take k).length : Nat) : Int) = (k : Int) := by rw [HK.out]
            have HO := Lib.hid (own_base ho hz)
            have HS := Lib.hid (row_store (x' := ⟨x.zone, x.frm, m⟩) scells_len (own_base ho hz) hx2 (i := 2) (by decide) (u := .int .i64 m) rfl)
            have HX : Hid (S[k - 1]? = some x) := Lib.hid hx
            have HB2 := Lib.hid (Nat.le_trans hz hB2)
            have HKJ : Hid (k - 1 + 1 = k) := Lib.hid (by omega)
            rw [HK.out]
            clear ho hx hx2 hB2 hlt2
            obtain ⟨j, hj⟩ : ∃ j, k - 1 = j := ⟨_, rfl⟩
            rw [hj] at hw2 hw3 hj3 f1 fz HS HX HKJ
            clear hj
            by_cases hc : x.to = -1 ∨ m < x.to
            · have HC : Hid (cutL S k m = (S.take k).set j ⟨x.zone, x.frm, m⟩) := Lib.hid (by rw [← HKJ.out, cut_some m HX.out, cut, if_pos hc])
              have HL : Hid ((cutL S k m).length = (S.take k).length) := Lib.hid (by rw [HC.out, List.length_set])
              by_cases ht : x.to = -1
              · have te : (x.to == -1) = true := by simp [ht]
                clear hc ht
                go_wp2
                go_ret
                refine ⟨_, rfl, ?_, B2.out.setCell HB2.out _⟩
                rw [HE.out, HL.out, HC.out, HK.out]
                have h1 := HS.out
                rw [HK.out] at h1
                exact h1
              · have te : (x.to == -1) = false := by simp [ht]
                have tm : m < x.to := by omega
                clear hc ht
                go_wp2
                go_ret
                refine ⟨_, rfl, ?_, B2.out.setCell HB2.out _⟩
                rw [HE.out, HL.out, HC.out, HK.out]
                have h1 := HS.out
                rw [HK.out] at h1
                exact h1
            · have te : (x.to == -1) = false := by simp; omega
              have tm : ¬ m < x.to := by omega
              have HC : Hid (cutL S k m = S.take k) := Lib.hid (by
                have := cut_same m HX.out hc
                rwa [HKJ.out] at this)
              clear hc
              go_wp2
              go_ret
              refine ⟨_, rfl, ?_, B2.out⟩
              rw [HE.out, HC.out, HK.out]
              have h1 := HO.out
              rw [HK.out] at h1
              exact h1
  · have HB := Lib.hid (right_no hR)
    have HU : Hid (uptoV S m = []) := Lib.hid (by unfold uptoV; rw [if_neg (by rw [HB.out]; decide)])
    rw [HU.out]
    clear h hR HU
    go_enter Try.func11, Try.ntmps11
    go_wp2_with fail
    refine CR.out.mono ?_
    rintro e w1 ⟨rfl, hb⟩
    rw [HB.out]
    have B1 := Lib.hid hb
    clear hb CR H
    go_wp2
    go_ret
    exact ⟨_, rfl, World.ownsRow_nil _ _ _ _, B1.out⟩
end Sy
end Go.Proofs.Ytdnjmcfnngkhlaa
