/- The walk over the law of a burst of a certificate's bytes. Conditions: the contracts of package cert; the place and the burst are uint16s. -/
import Derived.Test.YtklhapekfgcplaaCeL2
import Derived.Deep.AppendLies
namespace Go.Proofs.Ytklhapekfgcplaa
open Go.RowKit

namespace Ce
theorem place_of (a : Nat) : ∃ place : Nat, (a : Int) % 513 = (place : Int) ∧ place + 16 ≤ 8 * (64 + 2) := ⟨a % 513, by omega, by omega⟩
theorem half_is (y : Nat) (h : y < 65536) : ∃ y2 : Nat, (y : Int) / 2 = (y2 : Int) ∧ y2 < 65536 ∧ Hid (y2 = y / 2) := ⟨y / 2, by omega, by omega, Lib.hid rfl⟩
theorem pow_small (m : Nat) (h : m < 7) : 2 ^ m ≤ 64 := by
  have H : ∀ m : Fin 7, 2 ^ m.1 ≤ 64 := by decide
  exact H ⟨m, h⟩
theorem pow_byte (m : Nat) (h : m < 8) : 0 < 2 ^ m ∧ 2 ^ m ≤ 128 := by
  have H : ∀ m : Fin 8, 0 < 2 ^ m.1 ∧ 2 ^ m.1 ≤ 128 := by decide
  exact H ⟨m, h⟩
/-- What is left of a burst: fewer bits each time, and some, or some were turned. -/
def Rest (k y Q : Nat) : Prop := y < 2 ^ (16 - k) ∧ (Q ≠ 0 ∨ y ≠ 0)
theorem rest_start {y : Nat} (h : y < 65536) (h0 : y ≠ 0) : Rest 0 y 0 := ⟨by simpa using h, .inr h0⟩
theorem rest_next {k y y2 Q : Nat} (h : Rest k y Q) (hk : k < 16) (hy : y2 = y / 2) : Rest (k + 1) y2 (2 * Q + y % 2) := by
  obtain ⟨h1, h2⟩ := h
  refine ⟨?_, ?_⟩
  · rw [show 16 - k = 16 - (k + 1) + 1 by omega, Nat.pow_succ] at h1
    omega
  · omega
theorem rest_end {y Q : Nat} (h : Rest 16 y Q) : Q ≠ 0 := by
  obtain ⟨h1, h2⟩ := h
  simp at h1
  omega
theorem dec_bad {t : List Nat} (hl : t.length = 64 + 2) (hg : Ck.goodB t = false) : dec t = (ct0, 3) := by
  unfold dec
  rw [if_pos hl, if_neg (by rw [hg]; exact Bool.false_ne_true)]
set_option maxRecDepth 100000 in
set_option maxHeartbeats 8000000 in
theorem cburst_no (I : Face) (c : Ct) (x y : Int) (w : World) (h : rightB c = false) : Calls Try.prog 5 #[cval c, .int .u16 x, .int .u16 y] w fun e w' => e = .returned (.bool true) ∧ Below w.heap.size w w' := by
  have AL := Lib.hid (fun W => calive_any I W)
  have K1 := Lib.hid (fun W => r17right_any c W)
  rw [h] at K1
  clear h
  obtain ⟨ka, kb, kc, kd, ke, kf, kg, kh⟩ := c
  simp only [cval] at *
  have B_0 := Lib.hid (Below.refl w.heap.size w)
  have B_1 := Lib.hid (B_0.out.alloc B_0.out.size (.cells #[.int .i64 ka, .int .i64 kb, .int .i64 kc, .int .i64 kd, .int .i64 ke, .int .i64 kf, .int .i64 kg, .int .i64 kh] 23))
  clear B_0
  have C_1 := Lib.hid (Lies.new w 23 #[.int .i64 ka, .int .i64 kb, .int .i64 kc, .int .i64 kd, .int .i64 ke, .int .i64 kf, .int .i64 kg, .int .i64 kh])
  have c0_1 : (w.alloc (.cells #[.int .i64 ka, .int .i64 kb, .int .i64 kc, .int .i64 kd, .int .i64 ke, .int .i64 kf, .int .i64 kg, .int .i64 kh] 23)).cell? ⟨w.heap.size, 0, none⟩ = some (.int .i64 ka) := C_1.out.cell 0
  have c1_1 : (w.alloc (.cells #[.int .i64 ka, .int .i64 kb, .int .i64 kc, .int .i64 kd, .int .i64 ke, .int .i64 kf, .int .i64 kg, .int .i64 kh] 23)).cell? ⟨w.heap.size, 1, none⟩ = some (.int .i64 kb) := C_1.out.cell 1
  have c2_1 : (w.alloc (.cells #[.int .i64 ka, .int .i64 kb, .int .i64 kc, .int .i64 kd, .int .i64 ke, .int .i64 kf, .int .i64 kg, .int .i64 kh] 23)).cell? ⟨w.heap.size, 2, none⟩ = some (.int .i64 kc) := C_1.out.cell 2
  have c3_1 : (w.alloc (.cells #[.int .i64 ka, .int .i64 kb, .int .i64 kc, .int .i64 kd, .int .i64 ke, .int .i64 kf, .int .i64 kg, .int .i64 kh] 23)).cell? ⟨w.heap.size, 3, none⟩ = some (.int .i64 kd) := C_1.out.cell 3
  have c4_1 : (w.alloc (.cells #[.int .i64 ka, .int .i64 kb, .int .i64 kc, .int .i64 kd, .int .i64 ke, .int .i64 kf, .int .i64 kg, .int .i64 kh] 23)).cell? ⟨w.heap.size, 4, none⟩ = some (.int .i64 ke) := C_1.out.cell 4
  have c5_1 : (w.alloc (.cells #[.int .i64 ka, .int .i64 kb, .int .i64 kc, .int .i64 kd, .int .i64 ke, .int .i64 kf, .int .i64 kg, .int .i64 kh] 23)).cell? ⟨w.heap.size, 5, none⟩ = some (.int .i64 kf) := C_1.out.cell 5
  have c6_1 : (w.alloc (.cells #[.int .i64 ka, .int .i64 kb, .int .i64 kc, .int .i64 kd, .int .i64 ke, .int .i64 kf, .int .i64 kg, .int .i64 kh] 23)).cell? ⟨w.heap.size, 6, none⟩ = some (.int .i64 kg) := C_1.out.cell 6
  have c7_1 : (w.alloc (.cells #[.int .i64 ka, .int .i64 kb, .int .i64 kc, .int .i64 kd, .int .i64 ke, .int .i64 kf, .int .i64 kg, .int .i64 kh] 23)).cell? ⟨w.heap.size, 7, none⟩ = some (.int .i64 kh) := C_1.out.cell 7
  go_enter Try.func5, Try.ntmps5
  go_wp2_with fail
  refine (K1.out _).mono ?_
  rintro e w2 ⟨rfl, hb⟩
  clear c0_1 c1_1 c2_1 c3_1 c4_1 c5_1 c6_1 c7_1
  have B_2 := Lib.hid (B_1.out.trans (hb.mono B_1.out.size))
  have C_2 := Lib.hid (C_1.out.below hb C_1.out.lt)
  clear B_1 C_1
  clear hb 
  go_wp2_with fail
  refine (AL.out _).mono ?_
  rintro e w3 ⟨rfl, hb⟩
  have B_3 := Lib.hid (B_2.out.trans (hb.mono B_2.out.size))
  have C_3 := Lib.hid (C_2.out.below hb C_2.out.lt)
  clear B_2 C_2
  clear hb 
  go_wp2
  go_ret
  exact ⟨rfl, B_3.out⟩
set_option maxRecDepth 100000 in
set_option maxHeartbeats 8000000 in
theorem cburst_zero (I : Face) (c : Ct) (x : Int) (w : World) (h : rightB c = true) : Calls Try.prog 5 #[cval c, .int .u16 x, .int .u16 0] w fun e w' => e = .returned (.bool true) ∧ Below w.heap.size w w' := by
  have AL := Lib.hid (fun W => calive_any I W)
  have K1 := Lib.hid (fun W => r17right_any c W)
  rw [h] at K1
  clear h
  obtain ⟨ka, kb, kc, kd, ke, kf, kg, kh⟩ := c
  simp only [cval] at *
  have B_0 := Lib.hid (Below.refl w.heap.size w)
  have B_1 := Lib.hid (B_0.out.alloc B_0.out.size (.cells #[.int .i64 ka, .int .i64 kb, .int .i64 kc, .int .i64 kd, .int .i64 ke, .int .i64 kf, .int .i64 kg, .int .i64 kh] 23))
  clear B_0
  have C_1 := Lib.hid (Lies.new w 23 #[.int .i64 ka, .int .i64 kb, .int .i64 kc, .int .i64 kd, .int .i64 ke, .int .i64 kf, .int .i64 kg, .int .i64 kh])
  have c0_1 : (w.alloc (.cells #[.int .i64 ka, .int .i64 kb, .int .i64 kc, .int .i64 kd, .int .i64 ke, .int .i64 kf, .int .i64 kg, .int .i64 kh] 23)).cell? ⟨w.heap.size, 0, none⟩ = some (.int .i64 ka) := C_1.out.cell 0
  have c1_1 : (w.alloc (.cells #[.int .i64 ka, .int .i64 kb, .int .i64 kc, .int .i64 kd, .int .i64 ke, .int .i64 kf, .int .i64 kg, .int .i64 kh] 23)).cell? ⟨w.heap.size, 1, none⟩ = some (.int .i64 kb) := C_1.out.cell 1
  have c2_1 : (w.alloc (.cells #[.int .i64 ka, .int .i64 kb, .int .i64 kc, .int .i64 kd, .int .i64 ke, .int .i64 kf, .int .i64 kg, .int .i64 kh] 23)).cell? ⟨w.heap.size, 2, none⟩ = some (.int .i64 kc) := C_1.out.cell 2
  have c3_1 : (w.alloc (.cells #[.int .i64 ka, .int .i64 kb, .int .i64 kc, .int .i64 kd, .int .i64 ke, .int .i64 kf, .int .i64 kg, .int .i64 kh] 23)).cell? ⟨w.heap.size, 3, none⟩ = some (.int .i64 kd) := C_1.out.cell 3
  have c4_1 : (w.alloc (.cells #[.int .i64 ka, .int .i64 kb, .int .i64 kc, .int .i64 kd, .int .i64 ke, .int .i64 kf, .int .i64 kg, .int .i64 kh] 23)).cell? ⟨w.heap.size, 4, none⟩ = some (.int .i64 ke) := C_1.out.cell 4
  have c5_1 : (w.alloc (.cells #[.int .i64 ka, .int .i64 kb, .int .i64 kc, .int .i64 kd, .int .i64 ke, .int .i64 kf, .int .i64 kg, .int .i64 kh] 23)).cell? ⟨w.heap.size, 5, none⟩ = some (.int .i64 kf) := C_1.out.cell 5
  have c6_1 : (w.alloc (.cells #[.int .i64 ka, .int .i64 kb, .int .i64 kc, .int .i64 kd, .int .i64 ke, .int .i64 kf, .int .i64 kg, .int .i64 kh] 23)).cell? ⟨w.heap.size, 6, none⟩ = some (.int .i64 kg) := C_1.out.cell 6
  have c7_1 : (w.alloc (.cells #[.int .i64 ka, .int .i64 kb, .int .i64 kc, .int .i64 kd, .int .i64 ke, .int .i64 kf, .int .i64 kg, .int .i64 kh] 23)).cell? ⟨w.heap.size, 7, none⟩ = some (.int .i64 kh) := C_1.out.cell 7
  go_enter Try.func5, Try.ntmps5
  go_wp2_with fail
  refine (K1.out _).mono ?_
  rintro e w2 ⟨rfl, hb⟩
  clear c0_1 c1_1 c2_1 c3_1 c4_1 c5_1 c6_1 c7_1
  have B_2 := Lib.hid (B_1.out.trans (hb.mono B_1.out.size))
  have C_2 := Lib.hid (C_1.out.below hb C_1.out.lt)
  clear B_1 C_1
  clear hb 
  go_wp2_with fail
  refine (AL.out _).mono ?_
  rintro e w3 ⟨rfl, hb⟩
  have B_3 := Lib.hid (B_2.out.trans (hb.mono B_2.out.size))
  have C_3 := Lib.hid (C_2.out.below hb C_2.out.lt)
  clear B_2 C_2
  clear hb 
  go_wp2
  go_ret
  exact ⟨rfl, B_3.out⟩
set_option maxRecDepth 100000 in
set_option maxHeartbeats 8000000 in
theorem cburst_yes (I : Face) (c : Ct) (at' burst : Nat) (w : World) (h : rightB c = true) (ha : at' < 65536) (hbu : burst < 65536) (h0 : burst ≠ 0) : Calls Try.prog 5 #[cval c, .int .u16 (at' : Int), .int .u16 (burst : Int)] w fun e w' => e = .returned (.bool true) ∧ Below w.heap.size w w' := by
  have AL := Lib.hid (fun W => calive_any I W)
  have K1 := Lib.hid (fun W => r17right_any c W)
  rw [h] at K1
  have K2 := Lib.hid (fun W => I.enc_yes c W h)
  have ST := Lib.hid (fun place => Ck.off_start 64 place (raw_length c) (raw_lt c))
  have TL := Lib.hid (Ck.tight_length (raw c))
  clear h
  generalize raw c = R at *
  obtain ⟨ka, kb, kc, kd, ke, kf, kg, kh⟩ := c
  simp only [cval] at *
  have t0 : ((burst : Int) == 0) = false := by rw [beq_eq_false_iff_ne]; omega
  have R0 := Lib.hid (rest_start hbu h0)
  obtain ⟨place, hpl, hp⟩ := place_of at'
  clear h0
  have B_0 := Lib.hid (Below.refl w.heap.size w)
  have B_1 := Lib.hid (B_0.out.alloc B_0.out.size (.cells #[.int .i64 ka, .int .i64 kb, .int .i64 kc, .int .i64 kd, .int .i64 ke, .int .i64 kf, .int .i64 kg, .int .i64 kh] 23))
  clear B_0
  have C_1 := Lib.hid (Lies.new w 23 #[.int .i64 ka, .int .i64 kb, .int .i64 kc, .int .i64 kd, .int .i64 ke, .int .i64 kf, .int .i64 kg, .int .i64 kh])
  have c0_1 : (w.alloc (.cells #[.int .i64 ka, .int .i64 kb, .int .i64 kc, .int .i64 kd, .int .i64 ke, .int .i64 kf, .int .i64 kg, .int .i64 kh] 23)).cell? ⟨w.heap.size, 0, none⟩ = some (.int .i64 ka) := C_1.out.cell 0
  have c1_1 : (w.alloc (.cells #[.int .i64 ka, .int .i64 kb, .int .i64 kc, .int .i64 kd, .int .i64 ke, .int .i64 kf, .int .i64 kg, .int .i64 kh] 23)).cell? ⟨w.heap.size, 1, none⟩ = some (.int .i64 kb) := C_1.out.cell 1
  have c2_1 : (w.alloc (.cells #[.int .i64 ka, .int .i64 kb, .int .i64 kc, .int .i64 kd, .int .i64 ke, .int .i64 kf, .int .i64 kg, .int .i64 kh] 23)).cell? ⟨w.heap.size, 2, none⟩ = some (.int .i64 kc) := C_1.out.cell 2
  have c3_1 : (w.alloc (.cells #[.int .i64 ka, .int .i64 kb, .int .i64 kc, .int .i64 kd, .int .i64 ke, .int .i64 kf, .int .i64 kg, .int .i64 kh] 23)).cell? ⟨w.heap.size, 3, none⟩ = some (.int .i64 kd) := C_1.out.cell 3
  have c4_1 : (w.alloc (.cells #[.int .i64 ka, .int .i64 kb, .int .i64 kc, .int .i64 kd, .int .i64 ke, .int .i64 kf, .int .i64 kg, .int .i64 kh] 23)).cell? ⟨w.heap.size, 4, none⟩ = some (.int .i64 ke) := C_1.out.cell 4
  have c5_1 : (w.alloc (.cells #[.int .i64 ka, .int .i64 kb, .int .i64 kc, .int .i64 kd, .int .i64 ke, .int .i64 kf, .int .i64 kg, .int .i64 kh] 23)).cell? ⟨w.heap.size, 5, none⟩ = some (.int .i64 kf) := C_1.out.cell 5
  have c6_1 : (w.alloc (.cells #[.int .i64 ka, .int .i64 kb, .int .i64 kc, .int .i64 kd, .int .i64 ke, .int .i64 kf, .int .i64 kg, .int .i64 kh] 23)).cell? ⟨w.heap.size, 6, none⟩ = some (.int .i64 kg) := C_1.out.cell 6
  have c7_1 : (w.alloc (.cells #[.int .i64 ka, .int .i64 kb, .int .i64 kc, .int .i64 kd, .int .i64 ke, .int .i64 kf, .int .i64 kg, .int .i64 kh] 23)).cell? ⟨w.heap.size, 7, none⟩ = some (.int .i64 kh) := C_1.out.cell 7
  go_enter Try.func5, Try.ntmps5
  go_wp2_with fail
  refine (K1.out _).mono ?_
  rintro e w2 ⟨rfl, hb⟩
  clear c0_1 c1_1 c2_1 c3_1 c4_1 c5_1 c6_1 c7_1
  have B_2 := Lib.hid (B_1.out.trans (hb.mono B_1.out.size))
  have C_2 := Lib.hid (C_1.out.below hb C_1.out.lt)
  clear B_1 C_1
  clear hb 
  have c0_2 : w2.cell? ⟨w.heap.size, 0, none⟩ = some (.int .i64 ka) := C_2.out.cell 0
  have c1_2 : w2.cell? ⟨w.heap.size, 1, none⟩ = some (.int .i64 kb) := C_2.out.cell 1
  have c2_2 : w2.cell? ⟨w.heap.size, 2, none⟩ = some (.int .i64 kc) := C_2.out.cell 2
  have c3_2 : w2.cell? ⟨w.heap.size, 3, none⟩ = some (.int .i64 kd) := C_2.out.cell 3
  have c4_2 : w2.cell? ⟨w.heap.size, 4, none⟩ = some (.int .i64 ke) := C_2.out.cell 4
  have c5_2 : w2.cell? ⟨w.heap.size, 5, none⟩ = some (.int .i64 kf) := C_2.out.cell 5
  have c6_2 : w2.cell? ⟨w.heap.size, 6, none⟩ = some (.int .i64 kg) := C_2.out.cell 6
  have c7_2 : w2.cell? ⟨w.heap.size, 7, none⟩ = some (.int .i64 kh) := C_2.out.cell 7
  have BQ := Lib.hid (B_2.out.size)
  go_wp2_with fail
  refine (K2.out _).mono ?_
  rintro e w3 ⟨q, cap, rfl, ho, hb⟩
  clear c0_2 c1_2 c2_2 c3_2 c4_2 c5_2 c6_2 c7_2
  have B_3 := Lib.hid (B_2.out.trans (hb.mono B_2.out.size))
  have C_3 := Lib.hid (C_2.out.below hb C_2.out.lt)
  clear B_2 C_2
  clear hb 
  have O2 := Lib.hid (ho.mono BQ.out)
  obtain ⟨g, cap', e1, hbg, hlg, hcap⟩ := own_some ho (by decide)
  cases e1
  have hgb := Lib.hid (Nat.le_trans BQ.out hbg)
  have hcap3 : (66 : Int) ≤ (cap : Int) := by omega
  clear ho hbg hlg BQ K1 K2 C_3
  go_wp2_with fail
  try rw [hpl]
  have T0 := Lib.hid (ST.out place)
  clear ST hpl ha
  go_loopw [11, 12] (fun x i wr => ∃ (k Q y : Nat) (t : List Nat), k ≤ 16 ∧ i = .int .i64 k ∧ x = .int .i64 (y : Int) ∧ Hid (Rest k y Q) ∧ Hid (Ck.Off 64 place k Q t) ∧ y < 65536 ∧
    Hid (wr.ownsRow w.heap.size 5 1 (.slice (some ⟨g, 0, none⟩) 66 cap) 66 (bys t)) ∧ Hid (Below w.heap.size w wr)) (fun _ i _ => 16 - (RowKit.intOf i).toNat)
  case atStart => exact ⟨0, 0, burst, Ck.tight R, by omega, rfl, rfl, R0, T0, hbu, O2, B_3⟩
  case round =>
    clear T0 O2 B_3 hbu t0 R0
    obtain ⟨k, Q, y, t, hk, rfl, rfl, HB, HT, hy, HO, HW⟩ := hrel
    by_cases hlt : k < 16
    · obtain ⟨y2, hy2, hyb, HY⟩ := half_is y hy
      by_cases hbit : y % 2 = 1
      · have hd : ((y : Int) % 2 == 1) = true := by rw [beq_iff_eq]; omega
        have RRx := Lib.hid (show Rest (k + 1) y2 (2 * Q + 1) by have := rest_next HB.out hlt HY.out; rwa [hbit] at this)
        have TT := Lib.hid (Ck.off_turn HT.out hlt hp)
        have e0 : (place : Int) + (k : Int) = ((place + k : Nat) : Int) := by omega
        have hki : (place + k) / 8 < 66 := by omega
        have hkr : (place + k) % 8 < 8 := by omega
        have e1 : ((place + k : Nat) : Int) % 8 = (((place + k) % 8 : Nat) : Int) := by omega
        have e2 : ((place + k : Nat) : Int) / 8 = (((place + k) / 8 : Nat) : Int) := by omega
        have hKK : ((place + k : Nat) : Int) ≤ 10000 := by omega
        generalize (place + k) / 8 = ii at *
        generalize (place + k) % 8 = rr at *
        generalize place + k = kk at *
        have hKr : (rr : Int) ≤ 7 := by omega
        have hKr0 : (0 : Int) ≤ 7 - (rr : Int) := by omega
        clear HB HY
        go_wp2
        go_loop [14, 15] (fun bt i => ∃ m : Nat, m ≤ 7 - rr ∧ i = .int .i64 m ∧ bt = .int .u8 ((2 ^ m : Nat) : Int)) (fun _ i => 7 - rr - (RowKit.intOf i).toNat)
        case atStart => exact ⟨0, by omega, rfl, rfl⟩
        case round =>
          obtain ⟨m, hm, rfl, rfl⟩ := hrel
          by_cases hml : m < 7 - rr
          · have hpw := pow_small m (by omega)
            have PP := Lib.hid (Nat.pow_succ 2 m)
            generalize 2 ^ m = z at *
            have hmi : (m : Int) < 7 - (rr : Int) := by omega
            go_wp2
            go_round
            case rel => exact ⟨m + 1, by omega, by go_num, by rw [PP.out]; go_num⟩
            case measure => simp [RowKit.intOf]; omega
          · obtain rfl : m = 7 - rr := by omega
            have hmd : ((7 - rr : Nat) : Int) = 7 - (rr : Int) := by omega
            have hcell := own_cell HO.out HT.out.1 hki
            have hfr := HO.out.frozenAt ii
            have hx := getD_lt HT.out.2.1 ii
            have EL := Lib.hid (Ck.bit_less (t.getD ii 0) (7 - rr) hx (by omega))
            have EP := Lib.hid (Ck.bit_plus (t.getD ii 0) (7 - rr) hx (by omega))
            have hzz := pow_byte (7 - rr) (by omega)
            have ST1 := Lib.hid (fun u (hu : t.getD ii 0 ^^^ 2 ^ (7 - rr) = u) => own_store HO.out ii u)
            generalize t.getD ii 0 = x at *
            generalize 2 ^ (7 - rr) = z at *
            have x0 : 0 ≤ (x : Int) / (z : Int) := Int.ediv_nonneg (by omega) (by omega)
            have x1 : (x : Int) / (z : Int) ≤ (x : Int) := Int.ediv_le_self _ (by omega)
            have z0 : (0 : Int) < (z : Int) := by omega
            by_cases hs : x / z % 2 = 1
            · have hd2 : ((x : Int) / (z : Int) % 2 == 1) = true := by rw [beq_iff_eq]; exact_mod_cast hs
              obtain ⟨EX, hle⟩ := EL.out hs
              have EX' := Lib.hid EX
              clear EX hs EL EP
              have ST2 := Lib.hid (ST1.out (x - z) EX'.out)
              have hsub : (((x - z : Nat) : Nat) : Int) = (x : Int) - (z : Int) := by omega
              have ST3 := Lib.hid (hsub ▸ ST2.out)
              have TT3 := Lib.hid (EX'.out ▸ TT.out)
              clear ST2 ST1 hsub TT EX'
              go_wp2
              go_roundw
              case rel => exact ⟨k + 1, 2 * Q + 1, y2, _, by omega, by go_num, rfl, RRx, TT3, hyb, ST3, Lib.hid (HW.out.setCell hgb.out _)⟩
              case measure => simp [RowKit.intOf]; omega
            · have hd2 : ((x : Int) / (z : Int) % 2 == 1) = false := by rw [beq_eq_false_iff_ne]; intro e; exact hs (by exact_mod_cast e)
              obtain ⟨EX, hle⟩ := EP.out hs
              have EX' := Lib.hid EX
              clear EX hs EL EP
              have ST2 := Lib.hid (ST1.out (x + z) EX'.out)
              have hsub : (((x + z : Nat) : Nat) : Int) = (x : Int) + (z : Int) := by omega
              have ST3 := Lib.hid (hsub ▸ ST2.out)
              have TT3 := Lib.hid (EX'.out ▸ TT.out)
              clear ST2 ST1 hsub TT EX'
              go_wp2
              go_roundw
              case rel => exact ⟨k + 1, 2 * Q + 1, y2, _, by omega, by go_num, rfl, RRx, TT3, hyb, ST3, Lib.hid (HW.out.setCell hgb.out _)⟩
              case measure => simp [RowKit.intOf]; omega
      · have hd : ((y : Int) % 2 == 1) = false := by rw [beq_eq_false_iff_ne]; omega
        have RRx := Lib.hid (show Rest (k + 1) y2 (2 * Q) by have := rest_next HB.out hlt HY.out; rwa [show y % 2 = 0 by omega, Nat.add_zero] at this)
        have TT := Lib.hid (Ck.off_skip HT.out hlt)
        clear hbit HT HB HY
        go_wp2
        go_roundw
        case rel => exact ⟨k + 1, 2 * Q, y2, t, by omega, by go_num, rfl, RRx, TT, hyb, HO, HW⟩
        case measure => simp [RowKit.intOf]; omega
    · obtain rfl : k = 16 := by omega
      have hQ := rest_end HB.out
      have hbad : Ck.goodB t = false := by rw [Ck.off_end HT.out, decide_eq_false hQ]
      obtain ⟨q', c', e', hcn, hAt⟩ := at_own HT.out.1 HT.out.2.1 HO.out
      cases e'
      have D := Lib.hid (I.dec (some ⟨g, 0, none⟩) 66 cap t wr hAt (by decide) hcn)
      rw [dec_bad HT.out.1 hbad] at D
      simp only [cval, ct0] at D
      clear HT HO hAt hQ hbad hcn HB hlt
      go_wp2_with fail
      refine (D.out).mono ?_
      rintro e w1 ⟨rfl, hb⟩
      have B_1 := Lib.hid (HW.out.trans (hb.mono HW.out.size))
      clear HW
      clear hb 
      have B_2 := Lib.hid (B_1.out.alloc B_1.out.size (.cells #[.int .i64 0, .int .i64 0, .int .i64 0, .int .i64 0, .int .i64 0, .int .i64 0, .int .i64 0, .int .i64 0] 23))
      clear B_1
      have F_2 := Lib.hid (Lies.new w1 23 #[.int .i64 0, .int .i64 0, .int .i64 0, .int .i64 0, .int .i64 0, .int .i64 0, .int .i64 0, .int .i64 0])
      go_wp2_with fail
      refine (AL.out _).mono ?_
      rintro e w3 ⟨rfl, hb⟩
      have B_3 := Lib.hid (B_2.out.trans (hb.mono B_2.out.size))
      have F_3 := Lib.hid (F_2.out.below hb F_2.out.lt)
      clear B_2 F_2
      clear hb 
      have f0_3 : w3.cell? ⟨w1.heap.size, 0, none⟩ = some (.int .i64 0) := F_3.out.cell 0
      have f1_3 : w3.cell? ⟨w1.heap.size, 1, none⟩ = some (.int .i64 0) := F_3.out.cell 1
      have f2_3 : w3.cell? ⟨w1.heap.size, 2, none⟩ = some (.int .i64 0) := F_3.out.cell 2
      have f3_3 : w3.cell? ⟨w1.heap.size, 3, none⟩ = some (.int .i64 0) := F_3.out.cell 3
      have f4_3 : w3.cell? ⟨w1.heap.size, 4, none⟩ = some (.int .i64 0) := F_3.out.cell 4
      have f5_3 : w3.cell? ⟨w1.heap.size, 5, none⟩ = some (.int .i64 0) := F_3.out.cell 5
      have f6_3 : w3.cell? ⟨w1.heap.size, 6, none⟩ = some (.int .i64 0) := F_3.out.cell 6
      have f7_3 : w3.cell? ⟨w1.heap.size, 7, none⟩ = some (.int .i64 0) := F_3.out.cell 7
      go_wp2
      go_ret
      exact ⟨rfl, B_3.out⟩
theorem cburst_any (I : Face) (c : Ct) (x y : Int) (w : World) (wx : (Lit.int .u16 x).wf = true) (wy : (Lit.int .u16 y).wf = true) : Calls Try.prog 5 #[cval c, .int .u16 x, .int .u16 y] w fun e w' => e = .returned (.bool true) ∧ Below w.heap.size w w' := by
  cases h : rightB c with
  | false => exact cburst_no I c x y w h
  | true =>
    obtain ⟨a, rfl, ha⟩ := nat_word wx
    obtain ⟨k, rfl, hk⟩ := nat_word wy
    by_cases h0 : k = 0
    · subst h0
      exact cburst_zero I c a w h
    · exact cburst_yes I c a k w h ha hk h0
end Ce
end Go.Proofs.Ytklhapekfgcplaa
