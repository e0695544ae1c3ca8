/- Walks over the document's answer of layer 16: the order with an ID; whether two lists are one. No condition but those written. -/
import Derived.Test.YtpkniomjohjbiaaOrMem
import Derived.BigQuiet
import Derived.Deep.QuietTactic
import Derived.WalkSpells
import Derived.WalkKit
namespace Go.Proofs.Ytpkniomjohjbiaa
open Go.RowKit

namespace Or
set_option maxRecDepth 100000 in
set_option maxHeartbeats 8000000 in
theorem r16order_any (p : Option Addr) (n c : Nat) (l : List Od) (id : Int) (w : World) (h : Rw 4 ocells w p n l) (hL : n ≤ 1000000) :
    Calls Try.prog 17 #[.slice p n c, .int .i64 id] w fun e w' =>
      e = .returned (.tuple #[oval (orderF l id).1, .int .i64 (orderF l id).2]) ∧ Below w.heap.size w w' := by
  have B1 := Lib.hid (alloc_below w (.cells #[.int .i64 0, .int .i64 0, .int .i64 0, .int .i64 0] 40))
  have X1 := Lib.hid (Lies.new w 40 #[.int .i64 0, .int .i64 0, .int .i64 0, .int .i64 0])
  have H := Lib.hid (h.keep ocells_len B1.out)
  obtain ⟨w1, hw1⟩ : ∃ w1, w.alloc (.cells #[.int .i64 0, .int .i64 0, .int .i64 0, .int .i64 0] 40) = w1 := ⟨_, rfl⟩
  rw [hw1] at B1 X1 H
  have HN := Lib.hid h.1
  have hL' : (n : Int) ≤ 1000000 := by omega
  have FK := Lib.hid (fun k y (hh : NoId l id k) (hy : l[k]? = some y) (he : y.id = id) => getF_of hh hy he)
  have FN := Lib.hid (fun k y (hh : NoId l id k) (hy : l[k]? = some y) (he : y.id ≠ id) => noid_next hh hy he)
  have FE := Lib.hid (fun (hh : NoId l id n) => (getF_past (by rw [HN.out]; exact hh) : getF id l = none))
  clear h hL
  have r0 : w1.cell? ⟨w.heap.size, 0, none⟩ = some (.int .i64 0) := X1.out.cell 0
  have g0 := X1.out.frozen 0
  have r1 : w1.cell? ⟨w.heap.size, 1, none⟩ = some (.int .i64 0) := X1.out.cell 1
  have g1 := X1.out.frozen 1
  have r2 : w1.cell? ⟨w.heap.size, 2, none⟩ = some (.int .i64 0) := X1.out.cell 2
  have g2 := X1.out.frozen 2
  have r3 : w1.cell? ⟨w.heap.size, 3, none⟩ = some (.int .i64 0) := X1.out.cell 3
  have g3 := X1.out.frozen 3
  go_enter Try.func17, Try.ntmps17
  go_wp2
  clear hw1
  go_loop [6] (fun i => ∃ k : Nat, k ≤ n ∧ i = .int .i64 k ∧ Hid (NoId l id k)) (fun i => n - (RowKit.intOf i).toNat)
  case atStart => exact ⟨0, Nat.zero_le _, rfl, Lib.hid (noid_zero l id)⟩
  case round =>
    obtain ⟨k, hk, rfl, HH⟩ := hrel
    by_cases hlt : k < n
    · have hk3 : (k : Int) < (n : Int) := by omega
      obtain ⟨y, hy⟩ : ∃ y, l[k]? = some y := ⟨_, List.getElem?_eq_getElem (by rw [HN.out]; exact hlt)⟩
      obtain ⟨b, o, rfl, e0, e1, e2, e3⟩ := od_at H.out hy
      have HK := Lib.hid (fun he => FK.out k y HH.out hy he)
      have HX := Lib.hid (fun he => FN.out k y HH.out hy he)
      clear hy
      obtain ⟨ka, kb, kc, kd⟩ := y
      simp only at HK HX e0 e1 e2 e3
      by_cases ha : ka = id
      · subst ha
        have HE := Lib.hid (HK.out rfl)
        clear HK HX
        go_wp2
        refine bodyPost_ret (v := .tuple #[oval ⟨ka, kb, kc, kd⟩, .int .i64 0]) (by simp [results, Try.results17, go_sem, oval, r0, r1, r2, r3]) rfl ⟨by unfold orderF; rw [HE.out], ?_⟩
        iterate 4 refine Below.setCell ?_ (show w.heap.size ≤ _ from Nat.le_refl _) _
        exact B1.out
      · have ha2 : (ka == id) = false := by simp [ha]
        have HH2 := Lib.hid (HX.out ha)
        clear HK HX ha
        go_wp2
        go_round
        case rel => exact ⟨k + 1, by omega, by go_num, HH2⟩
        case measure => simp [RowKit.intOf]; omega
    · obtain rfl : k = n := by omega
      have HE := Lib.hid (FE.out HH.out)
      go_wp2
      refine bodyPost_ret (v := .tuple #[oval od0, .int .i64 5]) (by simp [results, Try.results17, go_sem, oval, od0, r0, r1, r2, r3]) rfl ⟨by unfold orderF; rw [HE.out], ?_⟩
      iterate 4 refine Below.setCell ?_ (show w.heap.size ≤ _ from Nat.le_refl _) _
      exact B1.out
theorem r16takes {l l2 : List Od} {k : Nat} {x : Od} (h : l.take k = l2.take k) (hx : l[k]? = some x) (hy : l2[k]? = some x) : l.take (k + 1) = l2.take (k + 1) := by
  rw [List.take_add_one, List.take_add_one, h, hx, hy]
theorem r16nots {l l2 : List Od} {k : Nat} {x y : Od} (hx : l[k]? = some x) (hy : l2[k]? = some y) (h : x ≠ y) : decide (l = l2) = false := by
  rw [decide_eq_false_iff_not]
  rintro rfl
  rw [hx] at hy
  exact h (Option.some.inj hy)
theorem r16same_other (p q : Option Addr) (n m c d : Nat) (w : World) (h : ¬ n = m) :
    Calls Try.prog 14 #[.slice p n c, .slice q m d] w fun e w' => e = .returned (.bool false) ∧ w = w' := by
  have h' : ¬ (n : Int) = (m : Int) := by omega
  have h1 : ((n : Int) != (m : Int)) = true := by simp; omega
  go_enter Try.func14, Try.ntmps14
  go_wp2
  go_ret
  exact ⟨rfl, rfl⟩
theorem r16same_nil (p q : Option Addr) (c d : Nat) (w : World) : Calls Try.prog 14 #[.slice p 0 c, .slice q 0 d] w fun e w' => e = .returned (.bool true) ∧ w = w' := by
  go_enter Try.func14, Try.ntmps14
  go_wp2
  go_loop [5] (fun i => i = .int .i64 0) (fun i => 0)
  case atStart => rfl
  case round =>
    obtain rfl := hrel
    go_wp2
    go_ret
    exact ⟨rfl, rfl⟩
set_option maxRecDepth 100000 in
set_option maxHeartbeats 8000000 in
theorem r16same_some (b o b2 o2 n c d : Nat) (l l2 : List Od) (w : World) (hn : l.length = n) (hn2 : l2.length = n) (hbig : n ≤ 9223372036854775807)
    (hc : ∀ j x, l[j]? = some x → ∀ i, i < 4 → w.cell? ⟨b, o + j * 4 + i, none⟩ = (ocells x)[i]?) (hc2 : ∀ j x, l2[j]? = some x → ∀ i, i < 4 → w.cell? ⟨b2, o2 + j * 4 + i, none⟩ = (ocells x)[i]?) :
    Calls Try.prog 14 #[.slice (some ⟨b, o, none⟩) n c, .slice (some ⟨b2, o2, none⟩) n d] w fun e w' => e = .returned (.bool (decide (l = l2))) ∧ ∃ m, w' = w.drewN m := by
  have HC := Lib.hid hc
  have HC2 := Lib.hid hc2
  have HN := Lib.hid hn
  have HN2 := Lib.hid hn2
  clear hc hc2 hn hn2
  go_enter Try.func14, Try.ntmps14
  go_wp2
  go_loopw [5] (fun i wr => ∃ k m : Nat, k ≤ n ∧ i = .int .i64 k ∧ wr = w.drewN m ∧ Hid (l.take k = l2.take k)) (fun i _ => n - (RowKit.intOf i).toNat)
  case atStart => exact ⟨0, 0, Nat.zero_le _, rfl, rfl, Lib.hid (by simp)⟩
  case round =>
    obtain ⟨k, m, hk, rfl, rfl, HT⟩ := hrel
    by_cases hlt : k < n
    · obtain ⟨x, hx⟩ : ∃ x, l[k]? = some x := ⟨_, List.getElem?_eq_getElem (by rw [HN.out]; exact hlt)⟩
      obtain ⟨y, hy⟩ : ∃ y, l2[k]? = some y := ⟨_, List.getElem?_eq_getElem (by rw [HN2.out]; exact hlt)⟩
      have hk3 : (k : Int) < (n : Int) := by omega
      by_cases h : x = y
      · subst h
        have HT2 := Lib.hid (r16takes HT.out hx hy)
        have P1 := Lib.hid (HC.out k x hx)
        have P2 := Lib.hid (HC2.out k x hy)
        clear hx hy
        obtain ⟨ka, kb, kc, kd⟩ := x
        have e0 : w.cell? ⟨b, o + k * 4, none⟩ = some (.int .i64 ka) := P1.out 0 (by decide)
        have e1 : w.cell? ⟨b, o + k * 4 + 1, none⟩ = some (.int .i64 kb) := P1.out 1 (by decide)
        have e2 : w.cell? ⟨b, o + k * 4 + 2, none⟩ = some (.int .i64 kc) := P1.out 2 (by decide)
        have e3 : w.cell? ⟨b, o + k * 4 + 3, none⟩ = some (.int .i64 kd) := P1.out 3 (by decide)
        have f0 : w.cell? ⟨b2, o2 + k * 4, none⟩ = some (.int .i64 ka) := P2.out 0 (by decide)
        have f1 : w.cell? ⟨b2, o2 + k * 4 + 1, none⟩ = some (.int .i64 kb) := P2.out 1 (by decide)
        have f2 : w.cell? ⟨b2, o2 + k * 4 + 2, none⟩ = some (.int .i64 kc) := P2.out 2 (by decide)
        have f3 : w.cell? ⟨b2, o2 + k * 4 + 3, none⟩ = some (.int .i64 kd) := P2.out 3 (by decide)
        clear HC HC2
        go_wp2_with fail
        go_quiet (fail)
        go_wp2
        go_roundw
        case rel => exact ⟨k + 1, _, by omega, by go_num, rfl, HT2⟩
        case measure => simp [RowKit.intOf]; omega
      · have HE := Lib.hid (r16nots hx hy h)
        have P1 := Lib.hid (HC.out k x hx)
        have P2 := Lib.hid (HC2.out k y hy)
        clear hx hy HC HC2
        obtain ⟨ka, kb, kc, kd⟩ := x
        obtain ⟨ka2, kb2, kc2, kd2⟩ := y
        have hor : (ka ≠ ka2) ∨ (ka = ka2 ∧ kb ≠ kb2) ∨ (ka = ka2 ∧ kb = kb2 ∧ kc ≠ kc2) ∨ (ka = ka2 ∧ kb = kb2 ∧ kc = kc2 ∧ kd ≠ kd2) := by
          by_cases h0 : ka = ka2
          case neg => exact .inl (h0)
          by_cases h1 : kb = kb2
          case neg => exact .inr (.inl (⟨h0, h1⟩))
          by_cases h2 : kc = kc2
          case neg => exact .inr (.inr (.inl (⟨h0, h1, h2⟩)))
          by_cases h3 : kd = kd2
          case neg => exact .inr (.inr (.inr (⟨h0, h1, h2, h3⟩)))
          exact absurd (od_ext ⟨h0, h1, h2, h3⟩) h
        clear h
        rcases hor with h1 | ⟨rfl, h1⟩ | ⟨rfl, rfl, h1⟩ | ⟨rfl, rfl, rfl, h1⟩
        · have t1 : (ka == ka2) = false := by simp [h1]
          clear h1
          have e0 : w.cell? ⟨b, o + k * 4, none⟩ = some (.int .i64 ka) := P1.out 0 (by decide)
          have e1 : w.cell? ⟨b, o + k * 4 + 1, none⟩ = some (.int .i64 kb) := P1.out 1 (by decide)
          have e2 : w.cell? ⟨b, o + k * 4 + 2, none⟩ = some (.int .i64 kc) := P1.out 2 (by decide)
          have e3 : w.cell? ⟨b, o + k * 4 + 3, none⟩ = some (.int .i64 kd) := P1.out 3 (by decide)
          have f0 : w.cell? ⟨b2, o2 + k * 4, none⟩ = some (.int .i64 ka2) := P2.out 0 (by decide)
          have f1 : w.cell? ⟨b2, o2 + k * 4 + 1, none⟩ = some (.int .i64 kb2) := P2.out 1 (by decide)
          have f2 : w.cell? ⟨b2, o2 + k * 4 + 2, none⟩ = some (.int .i64 kc2) := P2.out 2 (by decide)
          have f3 : w.cell? ⟨b2, o2 + k * 4 + 3, none⟩ = some (.int .i64 kd2) := P2.out 3 (by decide)
          go_wp2_with fail
          go_quiet (fail)
          go_wp2
          go_ret
          exact ⟨by rw [HE.out]; rfl, _, World.drewN_drewN _ _ _⟩
        · have t1 : (kb == kb2) = false := by simp [h1]
          clear h1
          have e0 : w.cell? ⟨b, o + k * 4, none⟩ = some (.int .i64 ka) := P1.out 0 (by decide)
          have e1 : w.cell? ⟨b, o + k * 4 + 1, none⟩ = some (.int .i64 kb) := P1.out 1 (by decide)
          have e2 : w.cell? ⟨b, o + k * 4 + 2, none⟩ = some (.int .i64 kc) := P1.out 2 (by decide)
          have e3 : w.cell? ⟨b, o + k * 4 + 3, none⟩ = some (.int .i64 kd) := P1.out 3 (by decide)
          have f0 : w.cell? ⟨b2, o2 + k * 4, none⟩ = some (.int .i64 ka) := P2.out 0 (by decide)
          have f1 : w.cell? ⟨b2, o2 + k * 4 + 1, none⟩ = some (.int .i64 kb2) := P2.out 1 (by decide)
          have f2 : w.cell? ⟨b2, o2 + k * 4 + 2, none⟩ = some (.int .i64 kc2) := P2.out 2 (by decide)
          have f3 : w.cell? ⟨b2, o2 + k * 4 + 3, none⟩ = some (.int .i64 kd2) := P2.out 3 (by decide)
          go_wp2_with fail
          go_quiet (fail)
          go_wp2
          go_ret
          exact ⟨by rw [HE.out]; rfl, _, World.drewN_drewN _ _ _⟩
        · have t1 : (kc == kc2) = false := by simp [h1]
          clear h1
          have e0 : w.cell? ⟨b, o + k * 4, none⟩ = some (.int .i64 ka) := P1.out 0 (by decide)
          have e1 : w.cell? ⟨b, o + k * 4 + 1, none⟩ = some (.int .i64 kb) := P1.out 1 (by decide)
          have e2 : w.cell? ⟨b, o + k * 4 + 2, none⟩ = some (.int .i64 kc) := P1.out 2 (by decide)
          have e3 : w.cell? ⟨b, o + k * 4 + 3, none⟩ = some (.int .i64 kd) := P1.out 3 (by decide)
          have f0 : w.cell? ⟨b2, o2 + k * 4, none⟩ = some (.int .i64 ka) := P2.out 0 (by decide)
          have f1 : w.cell? ⟨b2, o2 + k * 4 + 1, none⟩ = some (.int .i64 kb) := P2.out 1 (by decide)
          have f2 : w.cell? ⟨b2, o2 + k * 4 + 2, none⟩ = some (.int .i64 kc2) := P2.out 2 (by decide)
          have f3 : w.cell? ⟨b2, o2 + k * 4 + 3, none⟩ = some (.int .i64 kd2) := P2.out 3 (by decide)
          go_wp2_with fail
          go_quiet (fail)
          go_wp2
          go_ret
          exact ⟨by rw [HE.out]; rfl, _, World.drewN_drewN _ _ _⟩
        · have t1 : (kd == kd2) = false := by simp [h1]
          clear h1
          have e0 : w.cell? ⟨b, o + k * 4, none⟩ = some (.int .i64 ka) := P1.out 0 (by decide)
          have e1 : w.cell? ⟨b, o + k * 4 + 1, none⟩ = some (.int .i64 kb) := P1.out 1 (by decide)
          have e2 : w.cell? ⟨b, o + k * 4 + 2, none⟩ = some (.int .i64 kc) := P1.out 2 (by decide)
          have e3 : w.cell? ⟨b, o + k * 4 + 3, none⟩ = some (.int .i64 kd) := P1.out 3 (by decide)
          have f0 : w.cell? ⟨b2, o2 + k * 4, none⟩ = some (.int .i64 ka) := P2.out 0 (by decide)
          have f1 : w.cell? ⟨b2, o2 + k * 4 + 1, none⟩ = some (.int .i64 kb) := P2.out 1 (by decide)
          have f2 : w.cell? ⟨b2, o2 + k * 4 + 2, none⟩ = some (.int .i64 kc) := P2.out 2 (by decide)
          have f3 : w.cell? ⟨b2, o2 + k * 4 + 3, none⟩ = some (.int .i64 kd2) := P2.out 3 (by decide)
          go_wp2_with fail
          go_quiet (fail)
          go_wp2
          go_ret
          exact ⟨by rw [HE.out]; rfl, _, World.drewN_drewN _ _ _⟩
    · obtain rfl : k = n := by omega
      have HE := Lib.hid (show decide (l = l2) = true by
        rw [decide_eq_true_eq]
        have := HT.out
        rwa [List.take_of_length_le (by rw [HN.out]; exact Nat.le_refl _), List.take_of_length_le (by rw [HN2.out]; exact Nat.le_refl _)] at this)
      go_wp2
      go_ret
      exact ⟨by rw [HE.out]; rfl, _, rfl⟩
theorem r16same_any (p q : Option Addr) (n m c d : Nat) (l l2 : List Od) (w : World) (hn : n ≤ 9223372036854775807) (h : Rw 4 ocells w p n l) (h2 : Rw 4 ocells w q m l2) :
    Calls Try.prog 14 #[.slice p n c, .slice q m d] w fun e w' => e = .returned (.bool (decide (l = l2))) ∧ ∃ m, w' = w.drewN m := by
  by_cases hm : n = m
  · subst hm
    by_cases h0 : 0 < n
    · obtain ⟨b, o, rfl, hc⟩ := h.2 h0
      obtain ⟨b2, o2, rfl, hc2⟩ := h2.2 h0
      exact r16same_some b o b2 o2 n c d l l2 w h.1 h2.1 hn hc hc2
    · obtain rfl : n = 0 := by omega
      have e1 := List.eq_nil_of_length_eq_zero h.1
      have e2 := List.eq_nil_of_length_eq_zero h2.1
      subst e1 e2
      exact (r16same_nil p q c d w).mono fun e w' ⟨he, hw⟩ => ⟨by rw [he]; rfl, 0, hw.symm⟩
  · have e : decide (l = l2) = false := by
      rw [decide_eq_false_iff_not]
      rintro rfl
      exact hm (h.1.symm.trans h2.1)
    rw [e]
    exact (r16same_other p q n m c d w hm).mono fun e w' ⟨he, hw⟩ => ⟨he, 0, hw.symm⟩
end Or
end Go.Proofs.Ytpkniomjohjbiaa
