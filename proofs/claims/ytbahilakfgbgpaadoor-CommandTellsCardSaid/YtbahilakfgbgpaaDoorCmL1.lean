/- The live question of layer 18: it returns true. Conditions: the contracts of package command. -/
import Derived.Test.YtbahilakfgbgpaaDoorCmFace
import Derived.WalkSpells
namespace Go.Proofs.YtbahilakfgbgpaaDoor
open Go.RowKit

namespace Cm
def mv : Cm := ⟨5, 3, -2, 0, 0, 0, []⟩
def mvL : List Nat := raw mv
def sn : Cm := ⟨0, 0, 0, 0, 0, 0, [7]⟩
def snL : List Nat := raw sn
def bad : Cm := ⟨5, 0, 0, 1, 0, 0, []⟩
theorem i64_lit {n : Int} (h : decide (-9223372036854775808 ≤ n ∧ n ≤ 9223372036854775807) = true) : I64 n := by
  unfold I64
  exact of_decide_eq_true h
theorem mv_right : rightB mv = true := by decide
theorem sn_right : rightB sn = true := by decide
theorem bad_right : rightB bad = false := by decide
theorem wf_lit {k a b c d e : Int} {l : List Nat} (ha : I64 a) (hb : I64 b) (hc : I64 c) (hd : I64 d) (he : I64 e) (hl : ∀ x ∈ l, x < 256) : Wf ⟨k, a, b, c, d, e, l⟩ := by
  refine ⟨fun i => ?_, hl⟩
  match i with
  | 0 => exact ha
  | 1 => exact hb
  | 2 => exact hc
  | 3 => exact hd
  | i + 4 => exact he
theorem mv_wf : Wf mv := wf_lit (i64_lit rfl) (i64_lit rfl) (i64_lit rfl) (i64_lit rfl) (i64_lit rfl) (by simp)
theorem sn_wf : Wf sn := wf_lit (i64_lit rfl) (i64_lit rfl) (i64_lit rfl) (i64_lit rfl) (i64_lit rfl) (by simp)
theorem bad_wf : Wf bad := wf_lit (i64_lit rfl) (i64_lit rfl) (i64_lit rfl) (i64_lit rfl) (i64_lit rfl) (by simp)
theorem mv_len : mvL.length = 17 := by decide +kernel
theorem sn_is : snL = [0, 0, 0, 0, 1, 7] := by decide +kernel
theorem mv_0 : mvL.getD 0 0 = 5 := by decide +kernel
theorem mv_8 : mvL.getD 8 0 = 3 := by decide +kernel
theorem mv_16 : mvL.getD 16 0 = 254 := by decide +kernel
theorem mv_dec : dec mvL = (mv, 0) := dec_raw mv_right mv_wf
theorem mv_cut : dec (mvL.take 16) = (cm0, 2) := dec_cut mv_right (by rw [show (raw mv).length = 17 from mv_len]; decide)
set_option maxRecDepth 100000 in
set_option maxHeartbeats 16000000 in
theorem malive_any (I : Face) (w : World) (hR : I.R w) : Calls Tryd.prog 5 #[] w fun e w' => e = .returned (.bool true) ∧ Below w.heap.size w w' := by
  have E1 := Lib.hid (fun W (hR : I.R W) => show Calls Tryd.prog 6 #[.agg #[.int .i64 5, .int .i64 3, .int .i64 (-2), .int .i64 0, .int .i64 0, .int .i64 0, .slice none 0 0]] W fun e w' => (∃ q d, e = .returned (.tuple #[.slice q 17 d, .int .i64 0]) ∧ 17 ≤ d ∧ At w' q 17 mvL) ∧ Below W.heap.size W w' from by
    have h := I.enc ⟨mv, none, 0, 0⟩ W hR ⟨at_nil W, Nat.le_refl _⟩ mv_wf (i64_lit rfl) (by decide)
    unfold EncEnd encL encE at h
    simp only [mv_right, if_true] at h
    have e : (raw mv).length = 17 := mv_len
    rw [e] at h
    exact h)
  have E2 := Lib.hid (fun (W : World) (hR : I.R (W.alloc (.cells #[.int .u8 7] 5))) => show Calls Tryd.prog 6 #[.agg #[.int .i64 0, .int .i64 0, .int .i64 0, .int .i64 0, .int .i64 0, .int .i64 0, .slice (some ⟨W.heap.size, 0, none⟩) 1 1]] (W.alloc (.cells #[.int .u8 7] 5)) fun e w' => (∃ q d, e = .returned (.tuple #[.slice q 6 d, .int .i64 0]) ∧ 6 ≤ d ∧ At w' q 6 [0, 0, 0, 0, 1, 7]) ∧ Below (W.alloc (.cells #[.int .u8 7] 5)).heap.size (W.alloc (.cells #[.int .u8 7] 5)) w' from by
    have h := I.enc ⟨sn, some ⟨W.heap.size, 0, none⟩, 1, 1⟩ _ hR ⟨at_one W 7 (by decide), Nat.le_refl _⟩ sn_wf (i64_lit rfl) (show 1 ≤ 1000000 by decide)
    unfold EncEnd encL encE at h
    simp only [sn_right, if_true] at h
    have e : raw sn = [0, 0, 0, 0, 1, 7] := sn_is
    rw [e] at h
    exact h)
  have E3 := Lib.hid (fun W (hR : I.R W) => show Calls Tryd.prog 6 #[.agg #[.int .i64 5, .int .i64 0, .int .i64 0, .int .i64 1, .int .i64 0, .int .i64 0, .slice none 0 0]] W fun e w' => (∃ q d, e = .returned (.tuple #[.slice q 0 d, .int .i64 1])) ∧ Below W.heap.size W w' from by
    have h := I.enc ⟨bad, none, 0, 0⟩ W hR ⟨at_nil W, Nat.le_refl _⟩ bad_wf (i64_lit rfl) (by decide)
    unfold EncEnd encL encE at h
    simp only [bad_right, Bool.false_eq_true, if_false] at h
    exact h.mono fun e w' he => ⟨by obtain ⟨⟨q, d, h1, _⟩, _⟩ := he; exact ⟨q, d, h1⟩, he.2⟩)
  have D1 := Lib.hid (fun p c W (hR : I.R W) (hA : At W p 17 mvL) (hc : 17 ≤ c) => show Calls Tryd.prog 8 #[.slice p 17 c] W fun e w' => (∃ q m d, e = .returned (.tuple #[.agg #[.int .i64 5, .int .i64 3, .int .i64 (-2), .int .i64 0, .int .i64 0, .int .i64 0, .slice q m d], .int .i64 0])) ∧ Below W.heap.size W w' from by
    have h := I.dec p 17 c mvL W hR hA (by decide) hc
    unfold DecEnd at h
    rw [mv_dec] at h
    exact h.mono fun e w' he => ⟨by obtain ⟨⟨q, m, d, h1, _⟩, _⟩ := he; exact ⟨q, m, d, h1⟩, he.2⟩)
  have D2 := Lib.hid (fun p c W (hR : I.R W) (hA : At W p 16 (mvL.take 16)) (hc : 16 ≤ c) => show Calls Tryd.prog 8 #[.slice p 16 c] W fun e w' => (∃ q m d, e = .returned (.tuple #[.agg #[.int .i64 0, .int .i64 0, .int .i64 0, .int .i64 0, .int .i64 0, .int .i64 0, .slice q m d], .int .i64 2])) ∧ Below W.heap.size W w' from by
    have h := I.dec p 16 c (mvL.take 16) W hR hA (by decide) hc
    unfold DecEnd at h
    rw [mv_cut] at h
    exact h.mono fun e w' he => ⟨by obtain ⟨⟨q, m, d, h1, _⟩, _⟩ := he; exact ⟨q, m, d, h1⟩, he.2⟩)
  have N1 := Lib.hid (fun W (hR : I.R W) => show Calls Tryd.prog 12 #[.int .i64 2] W fun e w' => e = .returned (.int .i64 5) ∧ Below W.heap.size W w' from I.num 2 W hR (i64_lit rfl))
  have N2 := Lib.hid (fun W (hR : I.R W) => show Calls Tryd.prog 12 #[.int .i64 16] W fun e w' => e = .returned (.int .i64 (-1)) ∧ Below W.heap.size W w' from I.num 16 W hR (i64_lit rfl))
  have HL := Lib.hid mv_len
  have S0 := Lib.hid mv_0
  have S8 := Lib.hid mv_8
  have S16 := Lib.hid mv_16
  generalize mvL = L at *
  have B_0 := Lib.hid (Below.refl w.heap.size w)
  have R_0 := Lib.hid (hR)
  clear hR
  go_enter Tryd.func5, Tryd.ntmps5
  go_wp2_with fail
  refine (E1.out _ R_0.out).mono ?_
  rintro e w1 ⟨⟨q1, d1, rfl, hd1, hA1⟩, hb⟩
  have B_1 := Lib.hid (B_0.out.trans (hb.mono B_0.out.size))
  have R_1 := Lib.hid (I.on R_0.out hb)
  clear B_0 R_0
  clear hb E1
  have P_1 := Lib.hid (hA1)
  have HD1 := Lib.hid hd1
  have hd1' : (17 : Int) ≤ (d1 : Int) := by omega
  clear hA1 hd1
  have B_2 := Lib.hid (B_1.out.alloc B_1.out.size (.cells #[.int .u8 7] 5))
  have R_2 := Lib.hid (I.on R_1.out (alloc_below w1 (.cells #[.int .u8 7] 5)))
  have P_2 := Lib.hid (P_1.out.keep (alloc_below w1 (.cells #[.int .u8 7] 5)))
  clear B_1 R_1 P_1
  go_wp2_with fail
  refine (E2.out w1 R_2.out).mono ?_
  rintro e w3 ⟨⟨q2, d2, rfl, hd2, hA2⟩, hb⟩
  have B_3 := Lib.hid (B_2.out.trans (hb.mono B_2.out.size))
  have R_3 := Lib.hid (I.on R_2.out hb)
  have P_3 := Lib.hid (P_2.out.keep hb)
  clear B_2 R_2 P_2
  clear hb E2
  have Q_3 := Lib.hid (hA2)
  have hd2' : (6 : Int) ≤ (d2 : Int) := by omega
  clear hA2 hd2
  go_wp2_with fail
  refine (E3.out _ R_3.out).mono ?_
  rintro e w4 ⟨⟨q3, d3, rfl⟩, hb⟩
  have B_4 := Lib.hid (B_3.out.trans (hb.mono B_3.out.size))
  have R_4 := Lib.hid (I.on R_3.out hb)
  have P_4 := Lib.hid (P_3.out.keep hb)
  have Q_4 := Lib.hid (Q_3.out.keep hb)
  clear B_3 R_3 P_3 Q_3
  clear hb E3
  go_wp2_with fail
  refine (D1.out _ _ _ R_4.out P_4.out HD1.out).mono ?_
  rintro e w5 ⟨⟨q4, m4, d4, rfl⟩, hb⟩
  have B_5 := Lib.hid (B_4.out.trans (hb.mono B_4.out.size))
  have R_5 := Lib.hid (I.on R_4.out hb)
  have P_5 := Lib.hid (P_4.out.keep hb)
  have Q_5 := Lib.hid (Q_4.out.keep hb)
  clear B_4 R_4 P_4 Q_4
  clear hb D1
  have B_6 := Lib.hid (B_5.out.alloc B_5.out.size (.cells #[.int .i64 5, .int .i64 3, .int .i64 (-2), .int .i64 0, .int .i64 0, .int .i64 0, .slice q4 m4 d4] 25))
  have R_6 := Lib.hid (I.on R_5.out (alloc_below w5 (.cells #[.int .i64 5, .int .i64 3, .int .i64 (-2), .int .i64 0, .int .i64 0, .int .i64 0, .slice q4 m4 d4] 25)))
  have P_6 := Lib.hid (P_5.out.keep (alloc_below w5 (.cells #[.int .i64 5, .int .i64 3, .int .i64 (-2), .int .i64 0, .int .i64 0, .int .i64 0, .slice q4 m4 d4] 25)))
  have Q_6 := Lib.hid (Q_5.out.keep (alloc_below w5 (.cells #[.int .i64 5, .int .i64 3, .int .i64 (-2), .int .i64 0, .int .i64 0, .int .i64 0, .slice q4 m4 d4] 25)))
  clear B_5 R_5 P_5 Q_5
  have C_6 := Lib.hid (Lies.new w5 25 #[.int .i64 5, .int .i64 3, .int .i64 (-2), .int .i64 0, .int .i64 0, .int .i64 0, .slice q4 m4 d4])
  go_wp2_with fail
  refine (D2.out _ _ _ R_6.out (P_6.out.take 16 (by decide)) (by have := HD1.out; omega)).mono ?_
  rintro e w7 ⟨⟨q5, m5, d5, rfl⟩, hb⟩
  have B_7 := Lib.hid (B_6.out.trans (hb.mono B_6.out.size))
  have R_7 := Lib.hid (I.on R_6.out hb)
  have P_7 := Lib.hid (P_6.out.keep hb)
  have Q_7 := Lib.hid (Q_6.out.keep hb)
  have C_7 := Lib.hid (C_6.out.below hb C_6.out.lt)
  clear B_6 R_6 P_6 Q_6 C_6
  clear hb D2
  have B_8 := Lib.hid (B_7.out.alloc B_7.out.size (.cells #[.int .i64 0, .int .i64 0, .int .i64 0, .int .i64 0, .int .i64 0, .int .i64 0, .slice q5 m5 d5] 25))
  have R_8 := Lib.hid (I.on R_7.out (alloc_below w7 (.cells #[.int .i64 0, .int .i64 0, .int .i64 0, .int .i64 0, .int .i64 0, .int .i64 0, .slice q5 m5 d5] 25)))
  have P_8 := Lib.hid (P_7.out.keep (alloc_below w7 (.cells #[.int .i64 0, .int .i64 0, .int .i64 0, .int .i64 0, .int .i64 0, .int .i64 0, .slice q5 m5 d5] 25)))
  have Q_8 := Lib.hid (Q_7.out.keep (alloc_below w7 (.cells #[.int .i64 0, .int .i64 0, .int .i64 0, .int .i64 0, .int .i64 0, .int .i64 0, .slice q5 m5 d5] 25)))
  have C_8 := Lib.hid (C_7.out.alloc (.cells #[.int .i64 0, .int .i64 0, .int .i64 0, .int .i64 0, .int .i64 0, .int .i64 0, .slice q5 m5 d5] 25))
  clear B_7 R_7 P_7 Q_7 C_7
  obtain ⟨bP, oP, rfl, hcP⟩ := P_8.out.2.2 (by decide)
  have p_0 : (w7.alloc (.cells #[.int .i64 0, .int .i64 0, .int .i64 0, .int .i64 0, .int .i64 0, .int .i64 0, .slice q5 m5 d5] 25)).cell? ⟨bP, oP, none⟩ = some (.int .u8 5) := by
    have h1 := hcP 0 (by decide)
    rw [Nat.add_zero] at h1
    rw [S0.out] at h1
    exact h1
  have p_8 : (w7.alloc (.cells #[.int .i64 0, .int .i64 0, .int .i64 0, .int .i64 0, .int .i64 0, .int .i64 0, .slice q5 m5 d5] 25)).cell? ⟨bP, oP + 8, none⟩ = some (.int .u8 3) := by
    have h1 := hcP 8 (by decide)
    rw [S8.out] at h1
    exact h1
  have p_16 : (w7.alloc (.cells #[.int .i64 0, .int .i64 0, .int .i64 0, .int .i64 0, .int .i64 0, .int .i64 0, .slice q5 m5 d5] 25)).cell? ⟨bP, oP + 16, none⟩ = some (.int .u8 254) := by
    have h1 := hcP 16 (by decide)
    rw [S16.out] at h1
    exact h1
  clear hcP
  obtain ⟨bQ, oQ, rfl, hcQ⟩ := Q_8.out.2.2 (by decide)
  have q_4 : (w7.alloc (.cells #[.int .i64 0, .int .i64 0, .int .i64 0, .int .i64 0, .int .i64 0, .int .i64 0, .slice q5 m5 d5] 25)).cell? ⟨bQ, oQ + 4, none⟩ = some (.int .u8 1) := by
    have h1 := hcQ 4 (by decide)
    change _ = some (Value.int .u8 ((1 : Nat) : Int)) at h1
    exact h1
  have q_5 : (w7.alloc (.cells #[.int .i64 0, .int .i64 0, .int .i64 0, .int .i64 0, .int .i64 0, .int .i64 0, .slice q5 m5 d5] 25)).cell? ⟨bQ, oQ + 5, none⟩ = some (.int .u8 7) := by
    have h1 := hcQ 5 (by decide)
    change _ = some (Value.int .u8 ((7 : Nat) : Int)) at h1
    exact h1
  clear hcQ
  have c1_8 : (w7.alloc (.cells #[.int .i64 0, .int .i64 0, .int .i64 0, .int .i64 0, .int .i64 0, .int .i64 0, .slice q5 m5 d5] 25)).cell? ⟨w5.heap.size, 1, none⟩ = some (.int .i64 3) := C_8.out.cell 1
  have c2_8 : (w7.alloc (.cells #[.int .i64 0, .int .i64 0, .int .i64 0, .int .i64 0, .int .i64 0, .int .i64 0, .slice q5 m5 d5] 25)).cell? ⟨w5.heap.size, 2, none⟩ = some (.int .i64 (-2)) := C_8.out.cell 2
  go_wp2_with fail
  refine (N1.out _ R_8.out).mono ?_
  rintro e w9 ⟨rfl, hb⟩
  clear p_0 p_8 p_16 q_4 q_5 c1_8 c2_8
  have B_9 := Lib.hid (B_8.out.trans (hb.mono B_8.out.size))
  have R_9 := Lib.hid (I.on R_8.out hb)
  have P_9 := Lib.hid (P_8.out.keep hb)
  have Q_9 := Lib.hid (Q_8.out.keep hb)
  have C_9 := Lib.hid (C_8.out.below hb C_8.out.lt)
  clear B_8 R_8 P_8 Q_8 C_8
  clear hb N1
  go_wp2_with fail
  refine (N2.out _ R_9.out).mono ?_
  rintro e w10 ⟨rfl, hb⟩
  have B_10 := Lib.hid (B_9.out.trans (hb.mono B_9.out.size))
  have R_10 := Lib.hid (I.on R_9.out hb)
  have P_10 := Lib.hid (P_9.out.keep hb)
  have Q_10 := Lib.hid (Q_9.out.keep hb)
  have C_10 := Lib.hid (C_9.out.below hb C_9.out.lt)
  clear B_9 R_9 P_9 Q_9 C_9
  clear hb N2
  go_wp2
  go_ret
  exact ⟨rfl, B_10.out⟩
end Cm
end Go.Proofs.YtbahilakfgbgpaaDoor
