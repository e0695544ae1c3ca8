/- Walks over the document's answer of layer 17: whether two lists of certificates are one. No condition but those written. -/
import Derived.Test.YtklhapekfgcplaaCeMem
import Derived.BigQuiet
import Derived.Deep.QuietTactic
import Derived.WalkSpells
import Derived.WalkKit
namespace Go.Proofs.Ytklhapekfgcplaa
open Go.RowKit

namespace Ce
theorem r17takes {l l2 : List Ct} {k : Nat} {x : Ct} (h : l.take k = l2.take k) (hx : l[k]? = some x) (hy : l2[k]? = some x) : l.take (k + 1) = l2.take (k + 1) := by
  rw [List.take_add_one, List.take_add_one, h, hx, hy]
theorem r17nots {l l2 : List Ct} {k : Nat} {x y : Ct} (hx : l[k]? = some x) (hy : l2[k]? = some y) (h : x ≠ y) : decide (l = l2) = false := by
  rw [decide_eq_false_iff_not]
  rintro rfl
  rw [hx] at hy
  exact h (Option.some.inj hy)
theorem r17same_other (p q : Option Addr) (n m c d : Nat) (w : World) (h : ¬ n = m) :
    Calls Try.prog 18 #[.slice p n c, .slice q m d] w fun e w' => e = .returned (.bool false) ∧ w = w' := by
  have h' : ¬ (n : Int) = (m : Int) := by omega
  have h1 : ((n : Int) != (m : Int)) = true := by simp; omega
  go_enter Try.func18, Try.ntmps18
  go_wp2
  go_ret
  exact ⟨rfl, rfl⟩
theorem r17same_nil (p q : Option Addr) (c d : Nat) (w : World) : Calls Try.prog 18 #[.slice p 0 c, .slice q 0 d] w fun e w' => e = .returned (.bool true) ∧ w = w' := by
  go_enter Try.func18, Try.ntmps18
  go_wp2
  go_loop [5] (fun i => i = .int .i64 0) (fun i => 0)
  case atStart => rfl
  case round =>
    obtain rfl := hrel
    go_wp2
    go_ret
    exact ⟨rfl, rfl⟩
set_option maxRecDepth 100000 in
set_option maxHeartbeats 8000000 in
theorem r17same_some (b o b2 o2 n c d : Nat) (l l2 : List Ct) (w : World) (hn : l.length = n) (hn2 : l2.length = n) (hbig : n ≤ 9223372036854775807)
    (hc : ∀ j x, l[j]? = some x → ∀ i, i < 8 → w.cell? ⟨b, o + j * 8 + i, none⟩ = (ccells x)[i]?) (hc2 : ∀ j x, l2[j]? = some x → ∀ i, i < 8 → w.cell? ⟨b2, o2 + j * 8 + i, none⟩ = (ccells x)[i]?) :
    Calls Try.prog 18 #[.slice (some ⟨b, o, none⟩) n c, .slice (some ⟨b2, o2, none⟩) n d] w fun e w' => e = .returned (.bool (decide (l = l2))) ∧ ∃ m, w' = w.drewN m := by
  have HC := Lib.hid hc
  have HC2 := Lib.hid hc2
  have HN := Lib.hid hn
  have HN2 := Lib.hid hn2
  clear hc hc2 hn hn2
  go_enter Try.func18, Try.ntmps18
  go_wp2
  go_loopw [5] (fun i wr => ∃ k m : Nat, k ≤ n ∧ i = .int .i64 k ∧ wr = w.drewN m ∧ Hid (l.take k = l2.take k)) (fun i _ => n - (RowKit.intOf i).toNat)
  case atStart => exact ⟨0, 0, Nat.zero_le _, rfl, rfl, Lib.hid (by simp)⟩
  case round =>
    obtain ⟨k, m, hk, rfl, rfl, HT⟩ := hrel
    by_cases hlt : k < n
    · obtain ⟨x, hx⟩ : ∃ x, l[k]? = some x := ⟨_, List.getElem?_eq_getElem (by rw [HN.out]; exact hlt)⟩
      obtain ⟨y, hy⟩ : ∃ y, l2[k]? = some y := ⟨_, List.getElem?_eq_getElem (by rw [HN2.out]; exact hlt)⟩
      have hk3 : (k : Int) < (n : Int) := by omega
      by_cases h : x = y
      · subst h
        have HT2 := Lib.hid (r17takes HT.out hx hy)
        have P1 := Lib.hid (HC.out k x hx)
        have P2 := Lib.hid (HC2.out k x hy)
        clear hx hy
        obtain ⟨ka, kb, kc, kd, ke, kf, kg, kh⟩ := x
        have e0 : w.cell? ⟨b, o + k * 8, none⟩ = some (.int .i64 ka) := P1.out 0 (by decide)
        have e1 : w.cell? ⟨b, o + k * 8 + 1, none⟩ = some (.int .i64 kb) := P1.out 1 (by decide)
        have e2 : w.cell? ⟨b, o + k * 8 + 2, none⟩ = some (.int .i64 kc) := P1.out 2 (by decide)
        have e3 : w.cell? ⟨b, o + k * 8 + 3, none⟩ = some (.int .i64 kd) := P1.out 3 (by decide)
        have e4 : w.cell? ⟨b, o + k * 8 + 4, none⟩ = some (.int .i64 ke) := P1.out 4 (by decide)
        have e5 : w.cell? ⟨b, o + k * 8 + 5, none⟩ = some (.int .i64 kf) := P1.out 5 (by decide)
        have e6 : w.cell? ⟨b, o + k * 8 + 6, none⟩ = some (.int .i64 kg) := P1.out 6 (by decide)
        have e7 : w.cell? ⟨b, o + k * 8 + 7, none⟩ = some (.int .i64 kh) := P1.out 7 (by decide)
        have f0 : w.cell? ⟨b2, o2 + k * 8, none⟩ = some (.int .i64 ka) := P2.out 0 (by decide)
        have f1 : w.cell? ⟨b2, o2 + k * 8 + 1, none⟩ = some (.int .i64 kb) := P2.out 1 (by decide)
        have f2 : w.cell? ⟨b2, o2 + k * 8 + 2, none⟩ = some (.int .i64 kc) := P2.out 2 (by decide)
        have f3 : w.cell? ⟨b2, o2 + k * 8 + 3, none⟩ = some (.int .i64 kd) := P2.out 3 (by decide)
        have f4 : w.cell? ⟨b2, o2 + k * 8 + 4, none⟩ = some (.int .i64 ke) := P2.out 4 (by decide)
        have f5 : w.cell? ⟨b2, o2 + k * 8 + 5, none⟩ = some (.int .i64 kf) := P2.out 5 (by decide)
        have f6 : w.cell? ⟨b2, o2 + k * 8 + 6, none⟩ = some (.int .i64 kg) := P2.out 6 (by decide)
        have f7 : w.cell? ⟨b2, o2 + k * 8 + 7, none⟩ = some (.int .i64 kh) := P2.out 7 (by decide)
        clear HC HC2
        go_wp2_with fail
        go_quiet (fail)
        go_wp2
        go_roundw
        case rel => exact ⟨k + 1, _, by omega, by go_num, rfl, HT2⟩
        case measure => simp [RowKit.intOf]; omega
      · have HE := Lib.hid (r17nots hx hy h)
        have P1 := Lib.hid (HC.out k x hx)
        have P2 := Lib.hid (HC2.out k y hy)
        clear hx hy HC HC2
        obtain ⟨ka, kb, kc, kd, ke, kf, kg, kh⟩ := x
        obtain ⟨ka2, kb2, kc2, kd2, ke2, kf2, kg2, kh2⟩ := y
        have hor : (ka ≠ ka2) ∨ (ka = ka2 ∧ kb ≠ kb2) ∨ (ka = ka2 ∧ kb = kb2 ∧ kc ≠ kc2) ∨ (ka = ka2 ∧ kb = kb2 ∧ kc = kc2 ∧ kd ≠ kd2) ∨ (ka = ka2 ∧ kb = kb2 ∧ kc = kc2 ∧ kd = kd2 ∧ ke ≠ ke2) ∨ (ka = ka2 ∧ kb = kb2 ∧ kc = kc2 ∧ kd = kd2 ∧ ke = ke2 ∧ kf ≠ kf2) ∨ (ka = ka2 ∧ kb = kb2 ∧ kc = kc2 ∧ kd = kd2 ∧ ke = ke2 ∧ kf = kf2 ∧ kg ≠ kg2) ∨ (ka = ka2 ∧ kb = kb2 ∧ kc = kc2 ∧ kd = kd2 ∧ ke = ke2 ∧ kf = kf2 ∧ kg = kg2 ∧ kh ≠ kh2) := by
          by_cases h0 : ka = ka2
          case neg => exact .inl (h0)
          by_cases h1 : kb = kb2
          case neg => exact .inr (.inl (⟨h0, h1⟩))
          by_cases h2 : kc = kc2
          case neg => exact .inr (.inr (.inl (⟨h0, h1, h2⟩)))
          by_cases h3 : kd = kd2
          case neg => exact .inr (.inr (.inr (.inl (⟨h0, h1, h2, h3⟩))))
          by_cases h4 : ke = ke2
          case neg => exact .inr (.inr (.inr (.inr (.inl (⟨h0, h1, h2, h3, h4⟩)))))
          by_cases h5 : kf = kf2
          case neg => exact .inr (.inr (.inr (.inr (.inr (.inl (⟨h0, h1, h2, h3, h4, h5⟩))))))
          by_cases h6 : kg = kg2
          case neg => exact .inr (.inr (.inr (.inr (.inr (.inr (.inl (⟨h0, h1, h2, h3, h4, h5, h6⟩)))))))
          by_cases h7 : kh = kh2
          case neg => exact .inr (.inr (.inr (.inr (.inr (.inr (.inr (⟨h0, h1, h2, h3, h4, h5, h6, h7⟩)))))))
          exact absurd (ext8 ⟨h0, h1, h2, h3, h4, h5, h6, h7⟩) h
        clear h
        rcases hor with h1 | ⟨rfl, h1⟩ | ⟨rfl, rfl, h1⟩ | ⟨rfl, rfl, rfl, h1⟩ | ⟨rfl, rfl, rfl, rfl, h1⟩ | ⟨rfl, rfl, rfl, rfl, rfl, h1⟩ | ⟨rfl, rfl, rfl, rfl, rfl, rfl, h1⟩ | ⟨rfl, rfl, rfl, rfl, rfl, rfl, rfl, h1⟩
        · have t1 : (ka == ka2) = false := by simp [h1]
          clear h1
          have e0 : w.cell? ⟨b, o + k * 8, none⟩ = some (.int .i64 ka) := P1.out 0 (by decide)
          have e1 : w.cell? ⟨b, o + k * 8 + 1, none⟩ = some (.int .i64 kb) := P1.out 1 (by decide)
          have e2 : w.cell? ⟨b, o + k * 8 + 2, none⟩ = some (.int .i64 kc) := P1.out 2 (by decide)
          have e3 : w.cell? ⟨b, o + k * 8 + 3, none⟩ = some (.int .i64 kd) := P1.out 3 (by decide)
          have e4 : w.cell? ⟨b, o + k * 8 + 4, none⟩ = some (.int .i64 ke) := P1.out 4 (by decide)
          have e5 : w.cell? ⟨b, o + k * 8 + 5, none⟩ = some (.int .i64 kf) := P1.out 5 (by decide)
          have e6 : w.cell? ⟨b, o + k * 8 + 6, none⟩ = some (.int .i64 kg) := P1.out 6 (by decide)
          have e7 : w.cell? ⟨b, o + k * 8 + 7, none⟩ = some (.int .i64 kh) := P1.out 7 (by decide)
          have f0 : w.cell? ⟨b2, o2 + k * 8, none⟩ = some (.int .i64 ka2) := P2.out 0 (by decide)
          have f1 : w.cell? ⟨b2, o2 + k * 8 + 1, none⟩ = some (.int .i64 kb2) := P2.out 1 (by decide)
          have f2 : w.cell? ⟨b2, o2 + k * 8 + 2, none⟩ = some (.int .i64 kc2) := P2.out 2 (by decide)
          have f3 : w.cell? ⟨b2, o2 + k * 8 + 3, none⟩ = some (.int .i64 kd2) := P2.out 3 (by decide)
          have f4 : w.cell? ⟨b2, o2 + k * 8 + 4, none⟩ = some (.int .i64 ke2) := P2.out 4 (by decide)
          have f5 : w.cell? ⟨b2, o2 + k * 8 + 5, none⟩ = some (.int .i64 kf2) := P2.out 5 (by decide)
          have f6 : w.cell? ⟨b2, o2 + k * 8 + 6, none⟩ = some (.int .i64 kg2) := P2.out 6 (by decide)
          have f7 : w.cell? ⟨b2, o2 + k * 8 + 7, none⟩ = some (.int .i64 kh2) := P2.out 7 (by decide)
          go_wp2_with fail
          go_quiet (fail)
          go_wp2
          go_ret
          exact ⟨by rw [HE.out]; rfl, _, World.drewN_drewN _ _ _⟩
        · have t1 : (kb == kb2) = false := by simp [h1]
          clear h1
          have e0 : w.cell? ⟨b, o + k * 8, none⟩ = some (.int .i64 ka) := P1.out 0 (by decide)
          have e1 : w.cell? ⟨b, o + k * 8 + 1, none⟩ = some (.int .i64 kb) := P1.out 1 (by decide)
          have e2 : w.cell? ⟨b, o + k * 8 + 2, none⟩ = some (.int .i64 kc) := P1.out 2 (by decide)
          have e3 : w.cell? ⟨b, o + k * 8 + 3, none⟩ = some (.int .i64 kd) := P1.out 3 (by decide)
          have e4 : w.cell? ⟨b, o + k * 8 + 4, none⟩ = some (.int .i64 ke) := P1.out 4 (by decide)
          have e5 : w.cell? ⟨b, o + k * 8 + 5, none⟩ = some (.int .i64 kf) := P1.out 5 (by decide)
          have e6 : w.cell? ⟨b, o + k * 8 + 6, none⟩ = some (.int .i64 kg) := P1.out 6 (by decide)
          have e7 : w.cell? ⟨b, o + k * 8 + 7, none⟩ = some (.int .i64 kh) := P1.out 7 (by decide)
          have f0 : w.cell? ⟨b2, o2 + k * 8, none⟩ = some (.int .i64 ka) := P2.out 0 (by decide)
          have f1 : w.cell? ⟨b2, o2 + k * 8 + 1, none⟩ = some (.int .i64 kb2) := P2.out 1 (by decide)
          have f2 : w.cell? ⟨b2, o2 + k * 8 + 2, none⟩ = some (.int .i64 kc2) := P2.out 2 (by decide)
          have f3 : w.cell? ⟨b2, o2 + k * 8 + 3, none⟩ = some (.int .i64 kd2) := P2.out 3 (by decide)
          have f4 : w.cell? ⟨b2, o2 + k * 8 + 4, none⟩ = some (.int .i64 ke2) := P2.out 4 (by decide)
          have f5 : w.cell? ⟨b2, o2 + k * 8 + 5, none⟩ = some (.int .i64 kf2) := P2.out 5 (by decide)
          have f6 : w.cell? ⟨b2, o2 + k * 8 + 6, none⟩ = some (.int .i64 kg2) := P2.out 6 (by decide)
          have f7 : w.cell? ⟨b2, o2 + k * 8 + 7, none⟩ = some (.int .i64 kh2) := P2.out 7 (by decide)
          go_wp2_with fail
          go_quiet (fail)
          go_wp2
          go_ret
          exact ⟨by rw [HE.out]; rfl, _, World.drewN_drewN _ _ _⟩
        · have t1 : (kc == kc2) = false := by simp [h1]
          clear h1
          have e0 : w.cell? ⟨b, o + k * 8, none⟩ = some (.int .i64 ka) := P1.out 0 (by decide)
          have e1 : w.cell? ⟨b, o + k * 8 + 1, none⟩ = some (.int .i64 kb) := P1.out 1 (by decide)
          have e2 : w.cell? ⟨b, o + k * 8 + 2, none⟩ = some (.int .i64 kc) := P1.out 2 (by decide)
          have e3 : w.cell? ⟨b, o + k * 8 + 3, none⟩ = some (.int .i64 kd) := P1.out 3 (by decide)
          have e4 : w.cell? ⟨b, o + k * 8 + 4, none⟩ = some (.int .i64 ke) := P1.out 4 (by decide)
          have e5 : w.cell? ⟨b, o + k * 8 + 5, none⟩ = some (.int .i64 kf) := P1.out 5 (by decide)
          have e6 : w.cell? ⟨b, o + k * 8 + 6, none⟩ = some (.int .i64 kg) := P1.out 6 (by decide)
          have e7 : w.cell? ⟨b, o + k * 8 + 7, none⟩ = some (.int .i64 kh) := P1.out 7 (by decide)
          have f0 : w.cell? ⟨b2, o2 + k * 8, none⟩ = some (.int .i64 ka) := P2.out 0 (by decide)
          have f1 : w.cell? ⟨b2, o2 + k * 8 + 1, none⟩ = some (.int .i64 kb) := P2.out 1 (by decide)
          have f2 : w.cell? ⟨b2, o2 + k * 8 + 2, none⟩ = some (.int .i64 kc2) := P2.out 2 (by decide)
          have f3 : w.cell? ⟨b2, o2 + k * 8 + 3, none⟩ = some (.int .i64 kd2) := P2.out 3 (by decide)
          have f4 : w.cell? ⟨b2, o2 + k * 8 + 4, none⟩ = some (.int .i64 ke2) := P2.out 4 (by decide)
          have f5 : w.cell? ⟨b2, o2 + k * 8 + 5, none⟩ = some (.int .i64 kf2) := P2.out 5 (by decide)
          have f6 : w.cell? ⟨b2, o2 + k * 8 + 6, none⟩ = some (.int .i64 kg2) := P2.out 6 (by decide)
          have f7 : w.cell? ⟨b2, o2 + k * 8 + 7, none⟩ = some (.int .i64 kh2) := P2.out 7 (by decide)
          go_wp2_with fail
          go_quiet (fail)
          go_wp2
          go_ret
          exact ⟨by rw [HE.out]; rfl, _, World.drewN_drewN _ _ _⟩
        · have t1 : (kd == kd2) = false := by simp [h1]
          clear h1
          have e0 : w.cell? ⟨b, o + k * 8, none⟩ = some (.int .i64 ka) := P1.out 0 (by decide)
          have e1 : w.cell? ⟨b, o + k * 8 + 1, none⟩ = some (.int .i64 kb) := P1.out 1 (by decide)
          have e2 : w.cell? ⟨b, o + k * 8 + 2, none⟩ = some (.int .i64 kc) := P1.out 2 (by decide)
          have e3 : w.cell? ⟨b, o + k * 8 + 3, none⟩ = some (.int .i64 kd) := P1.out 3 (by decide)
          have e4 : w.cell? ⟨b, o + k * 8 + 4, none⟩ = some (.int .i64 ke) := P1.out 4 (by decide)
          have e5 : w.cell? ⟨b, o + k * 8 + 5, none⟩ = some (.int .i64 kf) := P1.out 5 (by decide)
          have e6 : w.cell? ⟨b, o + k * 8 + 6, none⟩ = some (.int .i64 kg) := P1.out 6 (by decide)
          have e7 : w.cell? ⟨b, o + k * 8 + 7, none⟩ = some (.int .i64 kh) := P1.out 7 (by decide)
          have f0 : w.cell? ⟨b2, o2 + k * 8, none⟩ = some (.int .i64 ka) := P2.out 0 (by decide)
          have f1 : w.cell? ⟨b2, o2 + k * 8 + 1, none⟩ = some (.int .i64 kb) := P2.out 1 (by decide)
          have f2 : w.cell? ⟨b2, o2 + k * 8 + 2, none⟩ = some (.int .i64 kc) := P2.out 2 (by decide)
          have f3 : w.cell? ⟨b2, o2 + k * 8 + 3, none⟩ = some (.int .i64 kd2) := P2.out 3 (by decide)
          have f4 : w.cell? ⟨b2, o2 + k * 8 + 4, none⟩ = some (.int .i64 ke2) := P2.out 4 (by decide)
          have f5 : w.cell? ⟨b2, o2 + k * 8 + 5, none⟩ = some (.int .i64 kf2) := P2.out 5 (by decide)
          have f6 : w.cell? ⟨b2, o2 + k * 8 + 6, none⟩ = some (.int .i64 kg2) := P2.out 6 (by decide)
          have f7 : w.cell? ⟨b2, o2 + k * 8 + 7, none⟩ = some (.int .i64 kh2) := P2.out 7 (by decide)
          go_wp2_with fail
          go_quiet (fail)
          go_wp2
          go_ret
          exact ⟨by rw [HE.out]; rfl, _, World.drewN_drewN _ _ _⟩
        · have t1 : (ke == ke2) = false := by simp [h1]
          clear h1
          have e0 : w.cell? ⟨b, o + k * 8, none⟩ = some (.int .i64 ka) := P1.out 0 (by decide)
          have e1 : w.cell? ⟨b, o + k * 8 + 1, none⟩ = some (.int .i64 kb) := P1.out 1 (by decide)
          have e2 : w.cell? ⟨b, o + k * 8 + 2, none⟩ = some (.int .i64 kc) := P1.out 2 (by decide)
          have e3 : w.cell? ⟨b, o + k * 8 + 3, none⟩ = some (.int .i64 kd) := P1.out 3 (by decide)
          have e4 : w.cell? ⟨b, o + k * 8 + 4, none⟩ = some (.int .i64 ke) := P1.out 4 (by decide)
          have e5 : w.cell? ⟨b, o + k * 8 + 5, none⟩ = some (.int .i64 kf) := P1.out 5 (by decide)
          have e6 : w.cell? ⟨b, o + k * 8 + 6, none⟩ = some (.int .i64 kg) := P1.out 6 (by decide)
          have e7 : w.cell? ⟨b, o + k * 8 + 7, none⟩ = some (.int .i64 kh) := P1.out 7 (by decide)
          have f0 : w.cell? ⟨b2, o2 + k * 8, none⟩ = some (.int .i64 ka) := P2.out 0 (by decide)
          have f1 : w.cell? ⟨b2, o2 + k * 8 + 1, none⟩ = some (.int .i64 kb) := P2.out 1 (by decide)
          have f2 : w.cell? ⟨b2, o2 + k * 8 + 2, none⟩ = some (.int .i64 kc) := P2.out 2 (by decide)
          have f3 : w.cell? ⟨b2, o2 + k * 8 + 3, none⟩ = some (.int .i64 kd) := P2.out 3 (by decide)
          have f4 : w.cell? ⟨b2, o2 + k * 8 + 4, none⟩ = some (.int .i64 ke2) := P2.out 4 (by decide)
          have f5 : w.cell? ⟨b2, o2 + k * 8 + 5, none⟩ = some (.int .i64 kf2) := P2.out 5 (by decide)
          have f6 : w.cell? ⟨b2, o2 + k * 8 + 6, none⟩ = some (.int .i64 kg2) := P2.out 6 (by decide)
          have f7 : w.cell? ⟨b2, o2 + k * 8 + 7, none⟩ = some (.int .i64 kh2) := P2.out 7 (by decide)
          go_wp2_with fail
          go_quiet (fail)
          go_wp2
          go_ret
          exact ⟨by rw [HE.out]; rfl, _, World.drewN_drewN _ _ _⟩
        · have t1 : (kf == kf2) = false := by simp [h1]
          clear h1
          have e0 : w.cell? ⟨b, o + k * 8, none⟩ = some (.int .i64 ka) := P1.out 0 (by decide)
          have e1 : w.cell? ⟨b, o + k * 8 + 1, none⟩ = some (.int .i64 kb) := P1.out 1 (by decide)
          have e2 : w.cell? ⟨b, o + k * 8 + 2, none⟩ = some (.int .i64 kc) := P1.out 2 (by decide)
          have e3 : w.cell? ⟨b, o + k * 8 + 3, none⟩ = some (.int .i64 kd) := P1.out 3 (by decide)
          have e4 : w.cell? ⟨b, o + k * 8 + 4, none⟩ = some (.int .i64 ke) := P1.out 4 (by decide)
          have e5 : w.cell? ⟨b, o + k * 8 + 5, none⟩ = some (.int .i64 kf) := P1.out 5 (by decide)
          have e6 : w.cell? ⟨b, o + k * 8 + 6, none⟩ = some (.int .i64 kg) := P1.out 6 (by decide)
          have e7 : w.cell? ⟨b, o + k * 8 + 7, none⟩ = some (.int .i64 kh) := P1.out 7 (by decide)
          have f0 : w.cell? ⟨b2, o2 + k * 8, none⟩ = some (.int .i64 ka) := P2.out 0 (by decide)
          have f1 : w.cell? ⟨b2, o2 + k * 8 + 1, none⟩ = some (.int .i64 kb) := P2.out 1 (by decide)
          have f2 : w.cell? ⟨b2, o2 + k * 8 + 2, none⟩ = some (.int .i64 kc) := P2.out 2 (by decide)
          have f3 : w.cell? ⟨b2, o2 + k * 8 + 3, none⟩ = some (.int .i64 kd) := P2.out 3 (by decide)
          have f4 : w.cell? ⟨b2, o2 + k * 8 + 4, none⟩ = some (.int .i64 ke) := P2.out 4 (by decide)
          have f5 : w.cell? ⟨b2, o2 + k * 8 + 5, none⟩ = some (.int .i64 kf2) := P2.out 5 (by decide)
          have f6 : w.cell? ⟨b2, o2 + k * 8 + 6, none⟩ = some (.int .i64 kg2) := P2.out 6 (by decide)
          have f7 : w.cell? ⟨b2, o2 + k * 8 + 7, none⟩ = some (.int .i64 kh2) := P2.out 7 (by decide)
          go_wp2_with fail
          go_quiet (fail)
          go_wp2
          go_ret
          exact ⟨by rw [HE.out]; rfl, _, World.drewN_drewN _ _ _⟩
        · have t1 : (kg == kg2) = false := by simp [h1]
          clear h1
          have e0 : w.cell? ⟨b, o + k * 8, none⟩ = some (.int .i64 ka) := P1.out 0 (by decide)
          have e1 : w.cell? ⟨b, o + k * 8 + 1, none⟩ = some (.int .i64 kb) := P1.out 1 (by decide)
          have e2 : w.cell? ⟨b, o + k * 8 + 2, none⟩ = some (.int .i64 kc) := P1.out 2 (by decide)
          have e3 : w.cell? ⟨b, o + k * 8 + 3, none⟩ = some (.int .i64 kd) := P1.out 3 (by decide)
          have e4 : w.cell? ⟨b, o + k * 8 + 4, none⟩ = some (.int .i64 ke) := P1.out 4 (by decide)
          have e5 : w.cell? ⟨b, o + k * 8 + 5, none⟩ = some (.int .i64 kf) := P1.out 5 (by decide)
          have e6 : w.cell? ⟨b, o + k * 8 + 6, none⟩ = some (.int .i64 kg) := P1.out 6 (by decide)
          have e7 : w.cell? ⟨b, o + k * 8 + 7, none⟩ = some (.int .i64 kh) := P1.out 7 (by decide)
          have f0 : w.cell? ⟨b2, o2 + k * 8, none⟩ = some (.int .i64 ka) := P2.out 0 (by decide)
          have f1 : w.cell? ⟨b2, o2 + k * 8 + 1, none⟩ = some (.int .i64 kb) := P2.out 1 (by decide)
          have f2 : w.cell? ⟨b2, o2 + k * 8 + 2, none⟩ = some (.int .i64 kc) := P2.out 2 (by decide)
          have f3 : w.cell? ⟨b2, o2 + k * 8 + 3, none⟩ = some (.int .i64 kd) := P2.out 3 (by decide)
          have f4 : w.cell? ⟨b2, o2 + k * 8 + 4, none⟩ = some (.int .i64 ke) := P2.out 4 (by decide)
          have f5 : w.cell? ⟨b2, o2 + k * 8 + 5, none⟩ = some (.int .i64 kf) := P2.out 5 (by decide)
          have f6 : w.cell? ⟨b2, o2 + k * 8 + 6, none⟩ = some (.int .i64 kg2) := P2.out 6 (by decide)
          have f7 : w.cell? ⟨b2, o2 + k * 8 + 7, none⟩ = some (.int .i64 kh2) := P2.out 7 (by decide)
          go_wp2_with fail
          go_quiet (fail)
          go_wp2
          go_ret
          exact ⟨by rw [HE.out]; rfl, _, World.drewN_drewN _ _ _⟩
        · have t1 : (kh == kh2) = false := by simp [h1]
          clear h1
          have e0 : w.cell? ⟨b, o + k * 8, none⟩ = some (.int .i64 ka) := P1.out 0 (by decide)
          have e1 : w.cell? ⟨b, o + k * 8 + 1, none⟩ = some (.int .i64 kb) := P1.out 1 (by decide)
          have e2 : w.cell? ⟨b, o + k * 8 + 2, none⟩ = some (.int .i64 kc) := P1.out 2 (by decide)
          have e3 : w.cell? ⟨b, o + k * 8 + 3, none⟩ = some (.int .i64 kd) := P1.out 3 (by decide)
          have e4 : w.cell? ⟨b, o + k * 8 + 4, none⟩ = some (.int .i64 ke) := P1.out 4 (by decide)
          have e5 : w.cell? ⟨b, o + k * 8 + 5, none⟩ = some (.int .i64 kf) := P1.out 5 (by decide)
          have e6 : w.cell? ⟨b, o + k * 8 + 6, none⟩ = some (.int .i64 kg) := P1.out 6 (by decide)
          have e7 : w.cell? ⟨b, o + k * 8 + 7, none⟩ = some (.int .i64 kh) := P1.out 7 (by decide)
          have f0 : w.cell? ⟨b2, o2 + k * 8, none⟩ = some (.int .i64 ka) := P2.out 0 (by decide)
          have f1 : w.cell? ⟨b2, o2 + k * 8 + 1, none⟩ = some (.int .i64 kb) := P2.out 1 (by decide)
          have f2 : w.cell? ⟨b2, o2 + k * 8 + 2, none⟩ = some (.int .i64 kc) := P2.out 2 (by decide)
          have f3 : w.cell? ⟨b2, o2 + k * 8 + 3, none⟩ = some (.int .i64 kd) := P2.out 3 (by decide)
          have f4 : w.cell? ⟨b2, o2 + k * 8 + 4, none⟩ = some (.int .i64 ke) := P2.out 4 (by decide)
          have f5 : w.cell? ⟨b2, o2 + k * 8 + 5, none⟩ = some (.int .i64 kf) := P2.out 5 (by decide)
          have f6 : w.cell? ⟨b2, o2 + k * 8 + 6, none⟩ = some (.int .i64 kg) := P2.out 6 (by decide)
          have f7 : w.cell? ⟨b2, o2 + k * 8 + 7, none⟩ = some (.int .i64 kh2) := P2.out 7 (by decide)
          go_wp2_with fail
          go_quiet (fail)
          go_wp2
          go_ret
          exact ⟨by rw [HE.out]; rfl, _, World.drewN_drewN _ _ _⟩
    · obtain rfl : k = n := by omega
      have HE := Lib.hid (show decide (l = l2) = true by
        rw [decide_eq_true_eq]
        have := HT.out
        rwa [List.take_of_length_le (by rw [HN.out]; exact Nat.le_refl _), List.take_of_length_le (by rw [HN2.out]; exact Nat.le_refl _)] at this)
      go_wp2
      go_ret
      exact ⟨by rw [HE.out]; rfl, _, rfl⟩
theorem r17same_any (p q : Option Addr) (n m c d : Nat) (l l2 : List Ct) (w : World) (hn : n ≤ 9223372036854775807) (h : Rw 8 ccells w p n l) (h2 : Rw 8 ccells w q m l2) :
    Calls Try.prog 18 #[.slice p n c, .slice q m d] w fun e w' => e = .returned (.bool (decide (l = l2))) ∧ ∃ m, w' = w.drewN m := by
  by_cases hm : n = m
  · subst hm
    by_cases h0 : 0 < n
    · obtain ⟨b, o, rfl, hc⟩ := h.2 h0
      obtain ⟨b2, o2, rfl, hc2⟩ := h2.2 h0
      exact r17same_some b o b2 o2 n c d l l2 w h.1 h2.1 hn hc hc2
    · obtain rfl : n = 0 := by omega
      have e1 := List.eq_nil_of_length_eq_zero h.1
      have e2 := List.eq_nil_of_length_eq_zero h2.1
      subst e1 e2
      exact (r17same_nil p q c d w).mono fun e w' ⟨he, hw⟩ => ⟨by rw [he]; rfl, 0, hw.symm⟩
  · have e : decide (l = l2) = false := by
      rw [decide_eq_false_iff_not]
      rintro rfl
      exact hm (h.1.symm.trans h2.1)
    rw [e]
    exact (r17same_other p q n m c d w hm).mono fun e w' ⟨he, hw⟩ => ⟨he, 0, hw.symm⟩
end Ce
end Go.Proofs.Ytklhapekfgcplaa
