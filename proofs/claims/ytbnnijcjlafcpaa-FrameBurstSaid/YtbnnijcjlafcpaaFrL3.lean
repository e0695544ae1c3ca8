/- The walk over the law of a burst of a frame's bytes. Conditions: the frame's Bits are a uint64's, the place is a uint8, the burst a uint16. -/
import Derived.Test.YtbnnijcjlafcpaaFrL2
import Derived.Deep.AppendLies
namespace Go.Proofs.Ytbnnijcjlafcpaa
open Go.RowKit

namespace Fr
theorem place_of (a n : Nat) : ∃ place : Nat, (a : Int) % (8 * ((n : Int) + 2) - 15) = (place : Int) ∧ place + 16 ≤ 8 * (n + 2) := by
  have h0 := Int.emod_nonneg (a : Int) (show 8 * ((n : Int) + 2) - 15 ≠ 0 by omega)
  have h1 := Int.emod_lt_of_pos (a : Int) (show 0 < 8 * ((n : Int) + 2) - 15 by omega)
  exact ⟨((a : Int) % (8 * ((n : Int) + 2) - 15)).toNat, (Int.toNat_of_nonneg h0).symm, by omega⟩
theorem half_is (y : Nat) (h : y < 65536) : ∃ y2 : Nat, (y : Int) / 2 = (y2 : Int) ∧ y2 < 65536 ∧ Hid (y2 = y / 2) := ⟨y / 2, by omega, by omega, Lib.hid rfl⟩
theorem pow_small (m : Nat) (h : m < 7) : 2 ^ m ≤ 64 := by
  have H : ∀ m : Fin 7, 2 ^ m.1 ≤ 64 := by decide
  exact H ⟨m, h⟩
theorem pow_byte (m : Nat) (h : m < 8) : 0 < 2 ^ m ∧ 2 ^ m ≤ 128 := by
  have H : ∀ m : Fin 8, 0 < 2 ^ m.1 ∧ 2 ^ m.1 ≤ 128 := by decide
  exact H ⟨m, h⟩
/-- What is left of a burst: fewer bits each time, and some, or some were turned. -/
def Rest (k y Q : Nat) : Prop := y < 2 ^ (16 - k) ∧ (Q ≠ 0 ∨ y ≠ 0)
theorem rest_start {y : Nat} (h : y < 65536) (h0 : y ≠ 0) : Rest 0 y 0 := ⟨by simpa using h, .inr h0⟩
theorem rest_next {k y y2 Q : Nat} (h : Rest k y Q) (hk : k < 16) (hy : y2 = y / 2) : Rest (k + 1) y2 (2 * Q + y % 2) := by
  obtain ⟨h1, h2⟩ := h
  refine ⟨?_, ?_⟩
  · rw [show 16 - k = 16 - (k + 1) + 1 by omega, Nat.pow_succ] at h1
    omega
  · omega
theorem rest_end {y Q : Nat} (h : Rest 16 y Q) : Q ≠ 0 := by
  obtain ⟨h1, h2⟩ := h
  simp at h1
  omega
theorem dec_bad {t : List Nat} {m : Nat} (hl : t.length = m + 2) (hm : m = 8 ∨ m = 15) (hg : Ck.goodB t = false) : dec t = (zero, 3) := by
  unfold dec
  rw [if_neg (by omega), if_pos hg]
set_option maxRecDepth 100000 in
set_option maxHeartbeats 4000000 in
theorem burst_no (f : Frm) (x y : Int) (w : World) (hb : f.bits < 18446744073709551616) (h : okB f = false) :
    Calls Try.prog 4 #[val f, .int .u8 x, .int .u16 y] w fun e w' => e = .returned (.bool true) ∧ Below w.heap.size w w' := by
  have K1 := Lib.hid (fun W => rright_any f W hb)
  rw [h] at K1
  have B0 := Lib.hid (alloc_below w (.cells #[.int .i64 f.zone, .int .i64 f.seq, .int .i64 f.minute, .bool f.door, .bool f.opn, .int .u64 (f.bits : Int)] 24))
  clear h hb
  obtain ⟨z, s, m, d, o, b⟩ := f
  unfold val at *
  simp only at *
  go_enter Try.func4, Try.ntmps4
  go_wp2_with fail
  refine (K1.out _).mono ?_
  rintro e w1 ⟨rfl, hb⟩
  have B1 := Lib.hid (B0.out.trans (hb.mono B0.out.size))
  clear hb
  go_wp2_with fail
  refine (alive_any _).mono ?_
  rintro e w2 ⟨rfl, hb⟩
  have B2 := Lib.hid (B1.out.trans (hb.mono B1.out.size))
  clear hb
  go_wp2
  go_ret
  exact ⟨rfl, B2.out⟩
set_option maxRecDepth 100000 in
set_option maxHeartbeats 4000000 in
theorem burst_zero (f : Frm) (x : Int) (w : World) (hb : f.bits < 18446744073709551616) (h : okB f = true) :
    Calls Try.prog 4 #[val f, .int .u8 x, .int .u16 0] w fun e w' => e = .returned (.bool true) ∧ Below w.heap.size w w' := by
  have K1 := Lib.hid (fun W => rright_any f W hb)
  rw [h] at K1
  have K2 := Lib.hid (fun W => fenc_own f W hb h)
  have hL : 8 ≤ (raw f).length ∧ (raw f).length ≤ 15 := by
    rw [raw_length]
    split <;> decide
  generalize (raw f).length = n at *
  obtain ⟨n8, n15⟩ := hL
  have B0 := Lib.hid (alloc_below w (.cells #[.int .i64 f.zone, .int .i64 f.seq, .int .i64 f.minute, .bool f.door, .bool f.opn, .int .u64 (f.bits : Int)] 24))
  have X0 := Lib.hid (box_new w 24 f)
  clear h hb
  generalize raw f = R at *
  obtain ⟨z, s, m, d, o, b⟩ := f
  unfold val at *
  simp only at *
  have n8' : (8 : Int) ≤ (n : Int) := by omega
  have n15' : (n : Int) ≤ 15 := by omega
  obtain ⟨x0, x1, x2, x3, x4, x5⟩ := X0.out
  go_enter Try.func4, Try.ntmps4
  go_wp2_with fail
  refine (K1.out _).mono ?_
  rintro e w1 ⟨rfl, hb⟩
  have B1 := Lib.hid (B0.out.trans (hb.mono B0.out.size))
  have X1 := X0.out.keep hb
  clear x0 x1 x2 x3 x4 x5 hb
  obtain ⟨x0, x1, x2, x3, x4, x5⟩ := X1
  go_wp2_with fail
  refine (K2.out _).mono ?_
  rintro e w2 ⟨v2, rfl, ho, hb⟩
  obtain ⟨g, cap, rfl, _, _⟩ := ho.form (by omega)
  have B2 := Lib.hid (B1.out.trans (hb.mono B1.out.size))
  clear x0 x1 x2 x3 x4 x5 hb ho
  go_wp2_with fail
  refine (alive_any _).mono ?_
  rintro e w3 ⟨rfl, hb⟩
  have B3 := Lib.hid (B2.out.trans (hb.mono B2.out.size))
  clear hb
  go_wp2
  go_ret
  exact ⟨rfl, B3.out⟩
set_option maxRecDepth 100000 in
set_option maxHeartbeats 4000000 in
theorem burst_yes (f : Frm) (at' burst : Nat) (w : World) (hb : f.bits < 18446744073709551616) (h : okB f = true) (ha : at' < 256) (hbu : burst < 65536) (h0 : burst ≠ 0) :
    Calls Try.prog 4 #[val f, .int .u8 (at' : Int), .int .u16 (burst : Int)] w fun e w' => e = .returned (.bool true) ∧ Below w.heap.size w w' := by
  have K1 := Lib.hid (fun W => rright_any f W hb)
  rw [h] at K1
  have K2 := Lib.hid (fun W => fenc_own f W hb h)
  have hL : Hid ((raw f).length = 8 ∨ (raw f).length = 15) := Lib.hid (by
    rw [raw_length]
    split <;> simp)
  have ST := Lib.hid (fun n place (hn : (raw f).length = n) => Ck.off_start n place hn (raw_lt f))
  have TL := Lib.hid (Ck.tight_length (raw f))
  obtain ⟨n, hn⟩ : ∃ n, (raw f).length = n := ⟨_, rfl⟩
  rw [hn] at hL K2 TL
  have HN := Lib.hid hn
  have n8 : 8 ≤ n ∧ n ≤ 15 := by
    rcases hL.out with h | h <;> omega
  have B0 := Lib.hid (alloc_below w (.cells #[.int .i64 f.zone, .int .i64 f.seq, .int .i64 f.minute, .bool f.door, .bool f.opn, .int .u64 (f.bits : Int)] 24))
  have X0 := Lib.hid (box_new w 24 f)
  clear h hb hn
  generalize raw f = R at *
  obtain ⟨z, s, m, d, o, b⟩ := f
  unfold val at *
  simp only at *
  obtain ⟨n8, n15⟩ := n8
  have n8' : (8 : Int) ≤ (n : Int) := by omega
  have n15' : (n : Int) ≤ 15 := by omega
  have t0 : ((burst : Int) == 0) = false := by rw [beq_eq_false_iff_ne]; omega
  obtain ⟨x0, x1, x2, x3, x4, x5⟩ := X0.out
  have R0 := Lib.hid (rest_start hbu h0)
  clear h0
  go_enter Try.func4, Try.ntmps4
  go_wp2_with fail
  refine (K1.out _).mono ?_
  rintro e w1 ⟨rfl, hb⟩
  have B1 := Lib.hid (B0.out.trans (hb.mono B0.out.size))
  have X1 := X0.out.keep hb
  clear x0 x1 x2 x3 x4 x5 hb
  obtain ⟨x0, x1, x2, x3, x4, x5⟩ := X1
  go_wp2_with fail
  refine (K2.out _).mono ?_
  rintro e w2 ⟨v2, rfl, ho, hb⟩
  obtain ⟨g, cap, rfl, hbg, hlg⟩ := ho.form (by omega)
  have B2 := Lib.hid (B1.out.trans (hb.mono B1.out.size))
  have O2 := Lib.hid (ho.mono B1.out.size)
  have hgb := Lib.hid (Nat.le_trans B1.out.size hbg)
  clear x0 x1 x2 x3 x4 x5 hb ho hbg hlg X0 B0 B1 K1 K2
  obtain ⟨place, hpl, hp⟩ := place_of at' n
  go_wp2_with fail
  rw [hpl]
  have T0 := Lib.hid (ST.out n place HN.out)
  clear ST hpl ha
  go_loopw [11, 12] (fun x i wr => ∃ (k Q y : Nat) (t : List Nat), k ≤ 16 ∧ i = .int .i64 k ∧ x = .int .i64 (y : Int) ∧ Hid (Rest k y Q) ∧ Hid (Ck.Off n place k Q t) ∧ y < 65536 ∧
    Hid (wr.ownsRow w.heap.size 5 1 (.slice (some ⟨g, 0, none⟩) (n + 2) cap) (n + 2) (bys t)) ∧ Hid (Below w.heap.size w wr)) (fun _ i _ => 16 - (intOf i).toNat)
  case atStart => exact ⟨0, 0, burst, Ck.tight R, by omega, rfl, rfl, R0, T0, hbu, O2, B2⟩
  case round =>
    clear T0 O2 B2 hbu t0 R0
    obtain ⟨k, Q, y, t, hk, rfl, rfl, HB, HT, hy, HO, HW⟩ := hrel
    by_cases hlt : k < 16
    · obtain ⟨y2, hy2, hyb, HY⟩ := half_is y hy
      by_cases hbit : y % 2 = 1
      · have hd : ((y : Int) % 2 == 1) = true := by rw [beq_iff_eq]; omega
        have RR := Lib.hid (show Rest (k + 1) y2 (2 * Q + 1) by have := rest_next HB.out hlt HY.out; rwa [hbit] at this)
        have TT := Lib.hid (Ck.off_turn HT.out hlt hp)
        have e0 : (place : Int) + (k : Int) = ((place + k : Nat) : Int) := by omega
        have hki : (place + k) / 8 < n + 2 := by omega
        have hkr : (place + k) % 8 < 8 := by omega
        have e1 : ((place + k : Nat) : Int) % 8 = (((place + k) % 8 : Nat) : Int) := by omega
        have e2 : ((place + k : Nat) : Int) / 8 = (((place + k) / 8 : Nat) : Int) := by omega
        have hKK : ((place + k : Nat) : Int) ≤ 10000 := by omega
        generalize (place + k) / 8 = ii at *
        generalize (place + k) % 8 = rr at *
        generalize place + k = kk at *
        have hKr : (rr : Int) ≤ 7 := by omega
        have hKr0 : (0 : Int) ≤ 7 - (rr : Int) := by omega
        clear HB HY
        go_wp2
        go_loop [14, 15] (fun bt i => ∃ m : Nat, m ≤ 7 - rr ∧ i = .int .i64 m ∧ bt = .int .u8 ((2 ^ m : Nat) : Int)) (fun _ i => 7 - rr - (intOf i).toNat)
        case atStart => exact ⟨0, by omega, rfl, rfl⟩
        case round =>
          obtain ⟨m, hm, rfl, rfl⟩ := hrel
          by_cases hml : m < 7 - rr
          · have hpw := pow_small m (by omega)
            have PP := Lib.hid (Nat.pow_succ 2 m)
            generalize 2 ^ m = z at *
            have hmi : (m : Int) < 7 - (rr : Int) := by omega
            go_wp2
            go_round
            case rel => exact ⟨m + 1, by omega, by go_num, by rw [PP.out]; go_num⟩
            case measure => simp [intOf]; omega
          · obtain rfl : m = 7 - rr := by omega
            have hmd : ((7 - rr : Nat) : Int) = 7 - (rr : Int) := by omega
            have hcell := own_cell HO.out HT.out.1 hki
            have hfr := HO.out.frozenAt ii
            have hx := getD_lt HT.out.2.1 ii
            have EL := Lib.hid (Ck.bit_less (t.getD ii 0) (7 - rr) hx (by omega))
            have EP := Lib.hid (Ck.bit_plus (t.getD ii 0) (7 - rr) hx (by omega))
            have hzz := pow_byte (7 - rr) (by omega)
            have ST1 := Lib.hid (fun u (hu : t.getD ii 0 ^^^ 2 ^ (7 - rr) = u) => own_store HO.out ii u)
            generalize t.getD ii 0 = x at *
            generalize 2 ^ (7 - rr) = z at *
            have x0 : 0 ≤ (x : Int) / (z : Int) := Int.ediv_nonneg (by omega) (by omega)
            have x1 : (x : Int) / (z : Int) ≤ (x : Int) := Int.ediv_le_self _ (by omega)
            have z0 : (0 : Int) < (z : Int) := by omega
            by_cases hs : x / z % 2 = 1
            · have hd2 : ((x : Int) / (z : Int) % 2 == 1) = true := by rw [beq_iff_eq]; exact_mod_cast hs
              obtain ⟨EX, hle⟩ := EL.out hs
              have EX' := Lib.hid EX
              clear EX hs EL EP
              have ST2 := Lib.hid (ST1.out (x - z) EX'.out)
              have hsub : (((x - z : Nat) : Nat) : Int) = (x : Int) - (z : Int) := by omega
              have ST3 := Lib.hid (hsub ▸ ST2.out)
              have TT3 := Lib.hid (EX'.out ▸ TT.out)
              clear ST2 ST1 hsub TT EX'
              go_wp2
              go_roundw
              case rel => exact ⟨k + 1, 2 * Q + 1, y2, _, by omega, by go_num, rfl, RR, TT3, hyb, ST3, Lib.hid (HW.out.setCell hgb.out _)⟩
              case measure => simp [intOf]; omega
            · have hd2 : ((x : Int) / (z : Int) % 2 == 1) = false := by rw [beq_eq_false_iff_ne]; intro e; exact hs (by exact_mod_cast e)
              obtain ⟨EX, hle⟩ := EP.out hs
              have EX' := Lib.hid EX
              clear EX hs EL EP
              have ST2 := Lib.hid (ST1.out (x + z) EX'.out)
              have hsub : (((x + z : Nat) : Nat) : Int) = (x : Int) + (z : Int) := by omega
              have ST3 := Lib.hid (hsub ▸ ST2.out)
              have TT3 := Lib.hid (EX'.out ▸ TT.out)
              clear ST2 ST1 hsub TT EX'
              go_wp2
              go_roundw
              case rel => exact ⟨k + 1, 2 * Q + 1, y2, _, by omega, by go_num, rfl, RR, TT3, hyb, ST3, Lib.hid (HW.out.setCell hgb.out _)⟩
              case measure => simp [intOf]; omega
      · have hd : ((y : Int) % 2 == 1) = false := by rw [beq_eq_false_iff_ne]; omega
        have RR := Lib.hid (show Rest (k + 1) y2 (2 * Q) by have := rest_next HB.out hlt HY.out; rwa [show y % 2 = 0 by omega, Nat.add_zero] at this)
        have TT := Lib.hid (Ck.off_skip HT.out hlt)
        clear hbit HT HB HY
        go_wp2
        go_roundw
        case rel => exact ⟨k + 1, 2 * Q, y2, t, by omega, by go_num, rfl, RR, TT, hyb, HO, HW⟩
        case measure => simp [intOf]; omega
    · obtain rfl : k = 16 := by omega
      have hQ := rest_end HB.out
      have hbad : Ck.goodB t = false := by rw [Ck.off_end HT.out, decide_eq_false hQ]
      obtain ⟨hcn, hAt⟩ := own_at HT.out.1 HT.out.2.1 HO.out
      have D := Lib.hid (fdec_any (some ⟨g, 0, none⟩) (n + 2) cap t wr hcn hAt)
      rw [dec_bad HT.out.1 hL.out hbad] at D
      unfold val zero at D
      simp only at D
      clear HT HO hAt hQ hbad hcn HB hlt
      go_wp2_with fail
      refine D.out.mono ?_
      rintro e w5 ⟨rfl, hb⟩
      have B5' : Below w.heap.size w w5 := HW.out.trans (hb.mono HW.out.size)
      have B5 := Lib.hid (B5'.alloc B5'.size (.cells (fcells zero) 24))
      have N5 := Lib.hid (Lies.new w5 24 (fcells zero))
      clear hb HW B5'
      go_wp2_with fail
      refine (alive_any _).mono ?_
      rintro e w6 ⟨rfl, hb⟩
      have B6 := Lib.hid (B5.out.trans (hb.mono B5.out.size))
      have N6 := N5.out.below hb N5.out.lt
      have m0 : w6.cell? ⟨w5.heap.size, 0, none⟩ = some (.int .i64 0) := N6.cell 0
      have m1 : w6.cell? ⟨w5.heap.size, 1, none⟩ = some (.int .i64 0) := N6.cell 1
      have m2 : w6.cell? ⟨w5.heap.size, 2, none⟩ = some (.int .i64 0) := N6.cell 2
      have m3 : w6.cell? ⟨w5.heap.size, 3, none⟩ = some (.bool false) := N6.cell 3
      have m4 : w6.cell? ⟨w5.heap.size, 4, none⟩ = some (.bool false) := N6.cell 4
      have m5 : w6.cell? ⟨w5.heap.size, 5, none⟩ = some (.int .u64 0) := N6.cell 5
      clear hb N6
      go_wp2
      go_ret
      exact ⟨rfl, B6.out⟩
theorem burst_any (f : Frm) (x y : Int) (w : World) (hb : f.bits < 18446744073709551616) (wx : (Lit.int .u8 x).wf = true) (wy : (Lit.int .u16 y).wf = true) :
    Calls Try.prog 4 #[val f, .int .u8 x, .int .u16 y] w fun e w' => e = .returned (.bool true) ∧ Below w.heap.size w w' := by
  by_cases h : okB f = true
  · have hx := nat_byte wx
    obtain ⟨k, rfl, hk⟩ := nat_word wy
    obtain ⟨a, rfl⟩ : ∃ a : Nat, x = a := ⟨x.toNat, by omega⟩
    by_cases h0 : k = 0
    · subst h0
      exact burst_zero f a w hb h
    · exact burst_yes f a k w hb h (by omega) hk h0
  · exact burst_no f x y w hb (by simpa using h)
theorem tells_any (f : Frm) (p : Option Addr) (n c : Nat) (w : World) (hb : f.bits < 18446744073709551616) (h : n ≤ c ∧ n ≤ 9223372036854775807 ∧ ∃ l, At w p n l) :
    Calls Try.prog 3 #[val f, .slice p n c] w fun e w' => e = .returned (.bool true) ∧ Below w.heap.size w w' := by
  obtain ⟨hnc, hbig, b, hA⟩ := h
  by_cases h : n ≤ 100
  · exact tells_short f p n c b w hb h hnc hA
  · exact tells_long f p n c w (by omega) hbig
end Fr
end Go.Proofs.Ytbnnijcjlafcpaa
