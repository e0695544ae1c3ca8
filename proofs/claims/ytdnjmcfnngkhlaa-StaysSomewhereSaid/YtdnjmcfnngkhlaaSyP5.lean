/- Walks over package stays: how many minutes, whether two lists are one. Conditions: the lists read as stays; the slice's length is at most its capacity. -/
import Derived.Test.YtdnjmcfnngkhlaaSyP4
namespace Go.Proofs.Ytdnjmcfnngkhlaa
open Go.RowKit

namespace Sy
theorem uptoV_mem {S : List Sy} {m : Int} {s : Sy} (h : s ∈ uptoV S m) : 0 ≤ s.frm ∧ s.frm < s.to ∧ s.to ≤ m := by
  unfold uptoV at h
  by_cases hR : Right S
  · rw [if_pos (right_yes hR)] at h
    obtain ⟨i, hi⟩ := List.mem_iff_getElem?.1 h
    have h1 := upto_shut hR m i s hi
    have h2 := upto_to h
    exact ⟨h1.2.1, h1.2.2.1, h2.1⟩
  · rw [if_neg (by rw [right_no hR]; decide)] at h
    cases h
theorem sum_V (S : List Sy) (m : Int) : sumS (uptoV S m) = minutesV S m := by
  unfold uptoV minutesV
  by_cases hR : Right S
  · rw [if_pos (right_yes hR), if_pos (right_yes hR), sum_upto]
  · rw [if_neg (by rw [right_no hR]; decide), if_neg (by rw [right_no hR]; decide)]
    rfl
theorem sum_bd (S : List Sy) {m : Int} (hm : m ≤ 9223372036854775807) (k : Nat) : 0 ≤ sumS ((uptoV S m).take k) ∧ sumS ((uptoV S m).take k) ≤ 9223372036854775807 := by
  unfold uptoV
  by_cases hR : Right S
  · rw [if_pos (right_yes hR)]
    have := sum_part hR m k
    omega
  · rw [if_neg (by rw [right_no hR]; decide), List.take_nil]
    decide
theorem sum_next {U : List Sy} {k : Nat} {x : Sy} (hx : U[k]? = some x) : sumS (U.take (k + 1)) = sumS (U.take k) + (x.to - x.frm) := by
  rw [List.take_add_one, hx, Option.toList_some, sum_snoc]
set_option maxRecDepth 100000 in
set_option maxHeartbeats 8000000 in
theorem pminutes_any (p : Option Addr) (n c : Nat) (S : List Sy) (m : Int) (w : World) (h : Rw 3 scells w p n S) (hn : n ≤ 1000000) (hnc : n ≤ c) (hm : m ≤ 9223372036854775807) :
    Calls Try.prog 9 #[.slice p n c, .int .i64 m] w fun e w' => e = .returned (.int .i64 (minutesV S m)) ∧ Below w.heap.size w w' := by
  have CU := Lib.hid (pupto_any p n c S m w h hn hnc)
  have HL : Hid ((uptoV S m).length ≤ 1000000) := Lib.hid (by
    unfold uptoV
    split
    · have := upto_len S m
      have := h.1
      omega
    · exact Nat.zero_le _)
  have HS := Lib.hid (sum_V S m)
  have HB := Lib.hid (sum_bd S hm)
  have HM := Lib.hid (fun s (hs : s ∈ uptoV S m) => uptoV_mem hs)
  rw [← HS.out]
  clear h
  generalize uptoV S m = U at *
  clear HS
  go_enter Try.func9, Try.ntmps9
  go_wp2_with fail
  refine CU.out.mono ?_
  rintro e w1 ⟨v, rfl, ho, hb⟩
  obtain ⟨q, d, rfl, _, hrw⟩ := rw_own scells_len ho
  have H := Lib.hid hrw
  have B0 := Lib.hid hb
  have hl : (U.length : Int) ≤ 1000000 := by have := HL.out; omega
  clear ho hb hrw CU
  go_wp2_with fail
  go_loopw [5, 12] (fun vs i wr => ∃ (k : Nat) (t : Int), k ≤ U.length ∧ i = .int .i64 k ∧ vs = .int .i64 t ∧ Hid (t = sumS (U.take k)) ∧ Hid (Below w.heap.size w wr) ∧ Hid (Below w1.heap.size w1 wr)) (fun _ i _ => U.length - (intOf i).toNat)
  case atStart => exact ⟨0, 0, Nat.zero_le _, rfl, rfl, Lib.hid rfl, B0, Lib.hid (Below.refl _ _)⟩
  case round =>
    obtain ⟨k, t, hk, rfl, rfl, HT, HB1, HB2⟩ := hrel
    by_cases hlt : k < U.length
    · obtain ⟨x, hx⟩ : ∃ x, U[k]? = some x := ⟨_, List.getElem?_eq_getElem hlt⟩
      obtain ⟨b, o, rfl, e0, e1, e2⟩ := rw_at (H.out.keep scells_len HB2.out) hx
      have hk3 : (k : Int) < (U.length : Int) := by omega
      have B1 := Lib.hid (HB1.out.alloc (HB1.out.size) (.cells (scells x).toArray 33))
      have B2 := Lib.hid (HB2.out.alloc (HB2.out.size) (.cells (scells x).toArray 33))
      have hT := sum_next hx
      have b0 := HB.out k
      have b1 := HB.out (k + 1)
      have hx3 := HM.out x (List.mem_of_getElem? hx)
      rw [← HT.out] at hT b0
      rw [hT] at b1
      obtain ⟨x0, x1, x2⟩ := hx3
      obtain ⟨b00, b01⟩ := b0
      obtain ⟨b10, b11⟩ := b1
      have x3 : x.to ≤ 9223372036854775807 := by omega
      have x4 : 0 ≤ x.to - x.frm := by omega
      have HT2 := Lib.hid hT.symm
      clear hx hT
      go_wp2
      go_roundw
      case rel => exact ⟨k + 1, _, by omega, by go_num, rfl, HT2, B1, B2⟩
      case measure => simp [intOf]; omega
    · obtain rfl : k = U.length := by omega
      have HE : Hid (t = sumS U) := Lib.hid (by rw [HT.out, List.take_of_length_le (Nat.le_refl _)])
      go_wp2
      go_ret
      exact ⟨by rw [← HE.out]; rfl, HB1.out⟩
theorem takes {α : Type} {l l2 : List α} {k : Nat} {x : α} (h : l.take k = l2.take k) (hx : l[k]? = some x) (hy : l2[k]? = some x) : l.take (k + 1) = l2.take (k + 1) := by
  rw [List.take_add_one, List.take_add_one, h, hx, hy]
theorem nots {α : Type} [DecidableEq α] {l l2 : List α} {k : Nat} {x y : α} (hx : l[k]? = some x) (hy : l2[k]? = some y) (h : x ≠ y) : decide (l = l2) = false := by
  rw [decide_eq_false_iff_not]
  rintro rfl
  rw [hx] at hy
  exact h (Option.some.inj hy)
theorem peq_other (p q : Option Addr) (n m c d : Nat) (w : World) (h : ¬ n = m) :
    Calls Try.prog 15 #[.slice p n c, .slice q m d] w fun e w' => e = .returned (.bool false) ∧ w = w' := by
  have h1 : ((n : Int) != (m : Int)) = true := by simp; omega
  go_enter Try.func15, Try.ntmps15
  go_wp2
  go_ret
  exact ⟨rfl, rfl⟩
theorem peq_nil (p q : Option Addr) (c d : Nat) (w : World) : Calls Try.prog 15 #[.slice p 0 c, .slice q 0 d] w fun e w' => e = .returned (.bool true) ∧ w = w' := by
  go_enter Try.func15, Try.ntmps15
  go_wp2
  go_loop [13] (fun i => i = .int .i64 0) (fun i => 0)
  case atStart => rfl
  case round =>
    obtain rfl := hrel
    go_wp2
    go_ret
    exact ⟨rfl, rfl⟩
set_option maxRecDepth 100000 in
set_option maxHeartbeats 2000000 in
theorem peq_some (b o b2 o2 n c d : Nat) (l l2 : List Sy) (w : World) (hn : l.length = n) (hn2 : l2.length = n) (hbig : n ≤ 1000000)
    (hc : ∀ j x, l[j]? = some x → ∀ i, i < 3 → w.cell? ⟨b, o + j * 3 + i, none⟩ = (scells x)[i]?) (hc2 : ∀ j x, l2[j]? = some x → ∀ i, i < 3 → w.cell? ⟨b2, o2 + j * 3 + i, none⟩ = (scells x)[i]?) :
    Calls Try.prog 15 #[.slice (some ⟨b, o, none⟩) n c, .slice (some ⟨b2, o2, none⟩) n d] w fun e w' => e = .returned (.bool (decide (l = l2))) ∧ ∃ m, w' = w.drewN m := by
  have hbig' : (n : Int) ≤ 1000000 := by omega
  have HC := Lib.hid hc
  have HC2 := Lib.hid hc2
  have HN := Lib.hid hn
  have HN2 := Lib.hid hn2
  clear hc hc2 hn hn2
  go_enter Try.func15, Try.ntmps15
  go_wp2
  go_loopw [13] (fun i wr => ∃ k m : Nat, k ≤ n ∧ i = .int .i64 k ∧ wr = w.drewN m ∧ Hid (l.take k = l2.take k)) (fun i _ => n - (intOf i).toNat)
  case atStart => exact ⟨0, 0, Nat.zero_le _, rfl, rfl, Lib.hid (by simp)⟩
  case round =>
    obtain ⟨k, m, hk, rfl, rfl, HT⟩ := hrel
    by_cases hlt : k < n
    · obtain ⟨x, hx⟩ : ∃ x, l[k]? = some x := ⟨_, List.getElem?_eq_getElem (by rw [HN.out]; exact hlt)⟩
      obtain ⟨y, hy⟩ : ∃ y, l2[k]? = some y := ⟨_, List.getElem?_eq_getElem (by rw [HN2.out]; exact hlt)⟩
      have e0 : w.cell? ⟨b, o + k * 3, none⟩ = some (.int .i64 x.zone) := HC.out k x hx 0 (by decide)
      have e1 : w.cell? ⟨b, o + k * 3 + 1, none⟩ = some (.int .i64 x.frm) := HC.out k x hx 1 (by decide)
      have e2 : w.cell? ⟨b, o + k * 3 + 2, none⟩ = some (.int .i64 x.to) := HC.out k x hx 2 (by decide)
      have f0 : w.cell? ⟨b2, o2 + k * 3, none⟩ = some (.int .i64 y.zone) := HC2.out k y hy 0 (by decide)
      have f1 : w.cell? ⟨b2, o2 + k * 3 + 1, none⟩ = some (.int .i64 y.frm) := HC2.out k y hy 1 (by decide)
      have f2 : w.cell? ⟨b2, o2 + k * 3 + 2, none⟩ = some (.int .i64 y.to) := HC2.out k y hy 2 (by decide)
      have hk3 : (k : Int) < (n : Int) := by omega
      by_cases h : x = y
      · subst h
        have HT2 := Lib.hid (takes HT.out hx hy)
        clear hx hy
        go_wp2_with fail
        go_quiet (fail)
        go_wp2
        go_roundw
        case rel => exact ⟨k + 1, _, by omega, by go_num, rfl, HT2⟩
        case measure => simp [intOf]; omega
      · have HE := Lib.hid (nots hx hy h)
        have hor : x.zone ≠ y.zone ∨ (x.zone = y.zone ∧ x.frm ≠ y.frm) ∨ (x.zone = y.zone ∧ x.frm = y.frm ∧ x.to ≠ y.to) := by
          by_cases h1 : x.zone = y.zone
          · by_cases h2 : x.frm = y.frm
            · refine .inr (.inr ⟨h1, h2, fun h3 => h ?_⟩)
              cases x
              cases y
              simp only at h1 h2 h3
              rw [h1, h2, h3]
            · exact .inr (.inl ⟨h1, h2⟩)
          · exact .inl h1
        clear hx hy h
        obtain ⟨xm, xs, xt⟩ := x
        obtain ⟨ym, ys, yt⟩ := y
        simp only at hor e0 e1 e2 f0 f1 f2
        rcases hor with h1 | ⟨rfl, h2⟩ | ⟨rfl, rfl, h3⟩
        · have t1 : (xm == ym) = false := by simp [h1]
          clear h1
          go_wp2_with fail
          go_quiet (fail)
          go_wp2
          go_ret
          exact ⟨by rw [HE.out]; rfl, _, World.drewN_drewN _ _ _⟩
        · have t1 : (xs == ys) = false := by simp [h2]
          clear h2
          go_wp2_with fail
          go_quiet (fail)
          go_wp2
          go_ret
          exact ⟨by rw [HE.out]; rfl, _, World.drewN_drewN _ _ _⟩
        · have t1 : (xt == yt) = false := by simp [h3]
          clear h3
          go_wp2_with fail
          go_quiet (fail)
          go_wp2
          go_ret
          exact ⟨by rw [HE.out]; rfl, _, World.drewN_drewN _ _ _⟩
    · obtain rfl : k = n := by omega
      have HE := Lib.hid (show decide (l = l2) = true by
        rw [decide_eq_true_eq]
        have := HT.out
        rwa [List.take_of_length_le (by rw [HN.out]; exact Nat.le_refl _), List.take_of_length_le (by rw [HN2.out]; exact Nat.le_refl _)] at this)
      go_wp2
      go_ret
      exact ⟨by rw [HE.out]; rfl, _, rfl⟩
theorem peq_any (p q : Option Addr) (n m c d : Nat) (l l2 : List Sy) (w : World) (hn : n ≤ 1000000) (h : Rw 3 scells w p n l) (h2 : Rw 3 scells w q m l2) :
    Calls Try.prog 15 #[.slice p n c, .slice q m d] w fun e w' => e = .returned (.bool (decide (l = l2))) ∧ ∃ m, w' = w.drewN m := by
  by_cases hm : n = m
  · subst hm
    by_cases h0 : 0 < n
    · obtain ⟨b, o, rfl, hc⟩ := h.2 h0
      obtain ⟨b2, o2, rfl, hc2⟩ := h2.2 h0
      exact peq_some b o b2 o2 n c d l l2 w h.1 h2.1 hn hc hc2
    · obtain rfl : n = 0 := by omega
      have e1 := List.eq_nil_of_length_eq_zero h.1
      have e2 := List.eq_nil_of_length_eq_zero h2.1
      subst e1 e2
      exact (peq_nil p q c d w).mono fun e w' ⟨he, hw⟩ => ⟨by rw [he]; rfl, 0, hw.symm⟩
  · have e : decide (l = l2) = false := by
      rw [decide_eq_false_iff_not]
      rintro rfl
      exact hm (h.1.symm.trans h2.1)
    rw [e]
    exact (peq_other p q n m c d w hm).mono fun e w' ⟨he, hw⟩ => ⟨he, 0, hw.symm⟩
theorem psame_any (p q : Option Addr) (n m c d : Nat) (l l2 : List Sy) (w : World) (hn : n ≤ 1000000) (h : Rw 3 scells w p n l) (h2 : Rw 3 scells w q m l2) :
    Calls Try.prog 10 #[.slice p n c, .slice q m d] w fun e w' => e = .returned (.bool (decide (l = l2))) ∧ Below w.heap.size w w' := by
  have C := Lib.hid (peq_any p q n m c d l l2 w hn h h2)
  clear h h2
  generalize decide (l = l2) = z at *
  go_enter Try.func10, Try.ntmps10
  go_wp2_with fail
  refine C.out.mono ?_
  rintro e w1 ⟨rfl, k, rfl⟩
  go_wp2
  go_ret
  exact ⟨rfl, below_drewN (Below.refl _ _) k⟩
end Sy
end Go.Proofs.Ytdnjmcfnngkhlaa
