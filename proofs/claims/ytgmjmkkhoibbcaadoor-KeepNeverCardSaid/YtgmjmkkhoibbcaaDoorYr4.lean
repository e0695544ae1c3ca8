/- Walks over the document's answer of layer 9: whether stays are the same. No condition but those written. -/
import Derived.Test.YtgmjmkkhoibbcaaDoorSyFace
import Derived.BigQuiet
import Derived.Deep.QuietTactic
namespace Go.Proofs.YtgmjmkkhoibbcaaDoor
open Go.RowKit

namespace Sy
theorem sy_ext {a b : Sy} (h : a.zone = b.zone ∧ a.frm = b.frm ∧ a.to = b.to) : a = b := by
  obtain ⟨a1, a2, a3⟩ := a
  obtain ⟨b1, b2, b3⟩ := b
  obtain ⟨rfl, rfl, rfl⟩ := h
  rfl
theorem r9takes {l l2 : List Sy} {k : Nat} {x : Sy} (h : l.take k = l2.take k) (hx : l[k]? = some x) (hy : l2[k]? = some x) : l.take (k + 1) = l2.take (k + 1) := by
  rw [List.take_add_one, List.take_add_one, h, hx, hy]
theorem r9nots {l l2 : List Sy} {k : Nat} {x y : Sy} (hx : l[k]? = some x) (hy : l2[k]? = some y) (h : x ≠ y) : decide (l = l2) = false := by
  rw [decide_eq_false_iff_not]
  rintro rfl
  rw [hx] at hy
  exact h (Option.some.inj hy)
theorem r9same_other (p q : Option Addr) (n m c d : Nat) (w : World) (h : ¬ n = m) :
    Calls Tryd.prog 38 #[.slice p n c, .slice q m d] w fun e w' => e = .returned (.bool false) ∧ w = w' := by
  have h' : ¬ (n : Int) = (m : Int) := by omega
  have h1 : ((n : Int) != (m : Int)) = true := by simp; omega
  go_enter Tryd.func38, Tryd.ntmps38
  go_wp2
  go_ret
  exact ⟨rfl, rfl⟩
theorem r9same_nil (p q : Option Addr) (c d : Nat) (w : World) : Calls Tryd.prog 38 #[.slice p 0 c, .slice q 0 d] w fun e w' => e = .returned (.bool true) ∧ w = w' := by
  go_enter Tryd.func38, Tryd.ntmps38
  go_wp2
  go_loop [5] (fun i => i = .int .i64 0) (fun i => 0)
  case atStart => rfl
  case round =>
    obtain rfl := hrel
    go_wp2
    go_ret
    exact ⟨rfl, rfl⟩
set_option maxRecDepth 100000 in
set_option maxHeartbeats 8000000 in
theorem r9same_some (b o b2 o2 n c d : Nat) (l l2 : List Sy) (w : World) (hn : l.length = n) (hn2 : l2.length = n) (hbig : n ≤ 9223372036854775807)
    (hc : ∀ j x, l[j]? = some x → ∀ i, i < 3 → w.cell? ⟨b, o + j * 3 + i, none⟩ = (scells x)[i]?) (hc2 : ∀ j x, l2[j]? = some x → ∀ i, i < 3 → w.cell? ⟨b2, o2 + j * 3 + i, none⟩ = (scells x)[i]?) :
    Calls Tryd.prog 38 #[.slice (some ⟨b, o, none⟩) n c, .slice (some ⟨b2, o2, none⟩) n d] w fun e w' => e = .returned (.bool (decide (l = l2))) ∧ ∃ m, w' = w.drewN m := by
  have HC := Lib.hid hc
  have HC2 := Lib.hid hc2
  have HN := Lib.hid hn
  have HN2 := Lib.hid hn2
  clear hc hc2 hn hn2
  go_enter Tryd.func38, Tryd.ntmps38
  go_wp2
  go_loopw [5] (fun i wr => ∃ k m : Nat, k ≤ n ∧ i = .int .i64 k ∧ wr = w.drewN m ∧ Hid (l.take k = l2.take k)) (fun i _ => n - (RowKit.intOf i).toNat)
  case atStart => exact ⟨0, 0, Nat.zero_le _, rfl, rfl, Lib.hid (by simp)⟩
  case round =>
    obtain ⟨k, m, hk, rfl, rfl, HT⟩ := hrel
    by_cases hlt : k < n
    · obtain ⟨x, hx⟩ : ∃ x, l[k]? = some x := ⟨_, List.getElem?_eq_getElem (by rw [HN.out]; exact hlt)⟩
      obtain ⟨y, hy⟩ : ∃ y, l2[k]? = some y := ⟨_, List.getElem?_eq_getElem (by rw [HN2.out]; exact hlt)⟩
      have hk3 : (k : Int) < (n : Int) := by omega
      by_cases h : x = y
      · subst h
        have HT2 := Lib.hid (r9takes HT.out hx hy)
        have P1 := Lib.hid (HC.out k x hx)
        have P2 := Lib.hid (HC2.out k x hy)
        clear hx hy
        obtain ⟨ka, kb, kc⟩ := x
        have e0 : w.cell? ⟨b, o + k * 3, none⟩ = some (.int .i64 ka) := P1.out 0 (by decide)
        have e1 : w.cell? ⟨b, o + k * 3 + 1, none⟩ = some (.int .i64 kb) := P1.out 1 (by decide)
        have e2 : w.cell? ⟨b, o + k * 3 + 2, none⟩ = some (.int .i64 kc) := P1.out 2 (by decide)
        have f0 : w.cell? ⟨b2, o2 + k * 3, none⟩ = some (.int .i64 ka) := P2.out 0 (by decide)
        have f1 : w.cell? ⟨b2, o2 + k * 3 + 1, none⟩ = some (.int .i64 kb) := P2.out 1 (by decide)
        have f2 : w.cell? ⟨b2, o2 + k * 3 + 2, none⟩ = some (.int .i64 kc) := P2.out 2 (by decide)
        clear HC HC2
        go_wp2_with fail
        go_quiet (fail)
        go_wp2
        go_roundw
        case rel => exact ⟨k + 1, _, by omega, by go_num, rfl, HT2⟩
        case measure => simp [RowKit.intOf]; omega
      · have HE := Lib.hid (r9nots hx hy h)
        have P1 := Lib.hid (HC.out k x hx)
        have P2 := Lib.hid (HC2.out k y hy)
        clear hx hy HC HC2
        obtain ⟨ka, kb, kc⟩ := x
        obtain ⟨ka2, kb2, kc2⟩ := y
        have hor : (ka ≠ ka2) ∨ (ka = ka2 ∧ kb ≠ kb2) ∨ (ka = ka2 ∧ kb = kb2 ∧ kc ≠ kc2) := by
          by_cases h0 : ka = ka2
          case neg => exact .inl h0
          by_cases h1 : kb = kb2
          case neg => exact .inr (.inl ⟨h0, h1⟩)
          by_cases h2 : kc = kc2
          case neg => exact .inr (.inr (⟨h0, h1, h2⟩))
          exact absurd (sy_ext ⟨h0, h1, h2⟩) h
        clear h
        rcases hor with h1 | ⟨rfl, h1⟩ | ⟨rfl, rfl, h1⟩
        · have t1 : (ka == ka2) = false := by simp [h1]
          clear h1
          have e0 : w.cell? ⟨b, o + k * 3, none⟩ = some (.int .i64 ka) := P1.out 0 (by decide)
          have e1 : w.cell? ⟨b, o + k * 3 + 1, none⟩ = some (.int .i64 kb) := P1.out 1 (by decide)
          have e2 : w.cell? ⟨b, o + k * 3 + 2, none⟩ = some (.int .i64 kc) := P1.out 2 (by decide)
          have f0 : w.cell? ⟨b2, o2 + k * 3, none⟩ = some (.int .i64 ka2) := P2.out 0 (by decide)
          have f1 : w.cell? ⟨b2, o2 + k * 3 + 1, none⟩ = some (.int .i64 kb2) := P2.out 1 (by decide)
          have f2 : w.cell? ⟨b2, o2 + k * 3 + 2, none⟩ = some (.int .i64 kc2) := P2.out 2 (by decide)
          go_wp2_with fail
          go_quiet (fail)
          go_wp2
          go_ret
          exact ⟨by rw [HE.out]; rfl, _, World.drewN_drewN _ _ _⟩
        · have t1 : (kb == kb2) = false := by simp [h1]
          clear h1
          have e0 : w.cell? ⟨b, o + k * 3, none⟩ = some (.int .i64 ka) := P1.out 0 (by decide)
          have e1 : w.cell? ⟨b, o + k * 3 + 1, none⟩ = some (.int .i64 kb) := P1.out 1 (by decide)
          have e2 : w.cell? ⟨b, o + k * 3 + 2, none⟩ = some (.int .i64 kc) := P1.out 2 (by decide)
          have f0 : w.cell? ⟨b2, o2 + k * 3, none⟩ = some (.int .i64 ka) := P2.out 0 (by decide)
          have f1 : w.cell? ⟨b2, o2 + k * 3 + 1, none⟩ = some (.int .i64 kb2) := P2.out 1 (by decide)
          have f2 : w.cell? ⟨b2, o2 + k * 3 + 2, none⟩ = some (.int .i64 kc2) := P2.out 2 (by decide)
          go_wp2_with fail
          go_quiet (fail)
          go_wp2
          go_ret
          exact ⟨by rw [HE.out]; rfl, _, World.drewN_drewN _ _ _⟩
        · have t1 : (kc == kc2) = false := by simp [h1]
          clear h1
          have e0 : w.cell? ⟨b, o + k * 3, none⟩ = some (.int .i64 ka) := P1.out 0 (by decide)
          have e1 : w.cell? ⟨b, o + k * 3 + 1, none⟩ = some (.int .i64 kb) := P1.out 1 (by decide)
          have e2 : w.cell? ⟨b, o + k * 3 + 2, none⟩ = some (.int .i64 kc) := P1.out 2 (by decide)
          have f0 : w.cell? ⟨b2, o2 + k * 3, none⟩ = some (.int .i64 ka) := P2.out 0 (by decide)
          have f1 : w.cell? ⟨b2, o2 + k * 3 + 1, none⟩ = some (.int .i64 kb) := P2.out 1 (by decide)
          have f2 : w.cell? ⟨b2, o2 + k * 3 + 2, none⟩ = some (.int .i64 kc2) := P2.out 2 (by decide)
          go_wp2_with fail
          go_quiet (fail)
          go_wp2
          go_ret
          exact ⟨by rw [HE.out]; rfl, _, World.drewN_drewN _ _ _⟩
    · obtain rfl : k = n := by omega
      have HE := Lib.hid (show decide (l = l2) = true by
        rw [decide_eq_true_eq]
        have := HT.out
        rwa [List.take_of_length_le (by rw [HN.out]; exact Nat.le_refl _), List.take_of_length_le (by rw [HN2.out]; exact Nat.le_refl _)] at this)
      go_wp2
      go_ret
      exact ⟨by rw [HE.out]; rfl, _, rfl⟩
theorem r9same_any (p q : Option Addr) (n m c d : Nat) (l l2 : List Sy) (w : World) (hn : n ≤ 9223372036854775807) (h : Rw 3 scells w p n l) (h2 : Rw 3 scells w q m l2) :
    Calls Tryd.prog 38 #[.slice p n c, .slice q m d] w fun e w' => e = .returned (.bool (decide (l = l2))) ∧ ∃ m, w' = w.drewN m := by
  by_cases hm : n = m
  · subst hm
    by_cases h0 : 0 < n
    · obtain ⟨b, o, rfl, hc⟩ := h.2 h0
      obtain ⟨b2, o2, rfl, hc2⟩ := h2.2 h0
      exact r9same_some b o b2 o2 n c d l l2 w h.1 h2.1 hn hc hc2
    · obtain rfl : n = 0 := by omega
      have e1 := List.eq_nil_of_length_eq_zero h.1
      have e2 := List.eq_nil_of_length_eq_zero h2.1
      subst e1 e2
      exact (r9same_nil p q c d w).mono fun e w' ⟨he, hw⟩ => ⟨by rw [he]; rfl, 0, hw.symm⟩
  · have e : decide (l = l2) = false := by
      rw [decide_eq_false_iff_not]
      rintro rfl
      exact hm (h.1.symm.trans h2.1)
    rw [e]
    exact (r9same_other p q n m c d w hm).mono fun e w' ⟨he, hw⟩ => ⟨he, 0, hw.symm⟩
end Sy
end Go.Proofs.YtgmjmkkhoibbcaaDoor
