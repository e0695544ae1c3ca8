/- The walk over the law that a command is that of its bytes. Conditions: the contracts of package command; what comes in reads as a command, and bytes. -/
import Derived.Test.YtbahilakfgbgpaaDoorCmL2
namespace Go.Proofs.YtbahilakfgbgpaaDoor
open Go.RowKit

namespace Cm
theorem at_app {w : World} {B m : Nat} {v : Value} {l : List Nat} (hl : l.length = m) (hx : ∀ x ∈ l, x < 256) (h : w.ownsRow B 5 1 v m (bys l)) : ∃ q d, v = .slice q m d ∧ m ≤ d ∧ At w q m l := at_own hl hx h
theorem bys_app (l m : List Nat) : bys l ++ bys m = bys (l ++ m) := by simp [bys]
theorem mod_is (cu xl : Nat) (h : 0 < xl) : ∃ j : Nat, ((cu : Nat) : Int) % ((xl : Nat) : Int) = (j : Int) ∧ j < xl := ⟨cu % xl, by omega, Nat.mod_lt _ h⟩
set_option maxRecDepth 100000 in
set_option maxHeartbeats 32000000 in
theorem mback_long (I : Face) (y : Cv) (p : Option Addr) (n cp cu : Nat) (w : World) (hR : I.R w) (h : 300 < n ∨ 300 < y.n) (hn : n ≤ 9223372036854775807) (hy : y.n ≤ 9223372036854775807) : Calls Tryd.prog 4 #[cval y, .slice p n cp, .int .u8 ((cu : Nat) : Int)] w fun e w' => e = .returned (.bool true) ∧ Below w.heap.size w w' := by
  have AL := Lib.hid (fun W (h : I.R W) => malive_any I W h)
  obtain ⟨⟨ka, kb, kc, kd, ke, kf, kl⟩, kp, kn, kq⟩ := y
  simp only [cval] at h hy ⊢
  have b1 : ((n : Nat) : Int) ≤ 9223372036854775807 := by omega
  have b2 : ((kn : Nat) : Int) ≤ 9223372036854775807 := by omega
  by_cases h1 : 300 < n
  · have t1 : decide (((n : Nat) : Int) > 300) = true := by simp; omega
    clear h hn hy h1
    have B_0 := Lib.hid (Below.refl w.heap.size w)
    have R_0 := Lib.hid (hR)
    clear hR
    have B_1 := Lib.hid (B_0.out.alloc B_0.out.size (.cells #[.int .i64 ka, .int .i64 kb, .int .i64 kc, .int .i64 kd, .int .i64 ke, .int .i64 kf, .slice kp kn kq] 25))
    have R_1 := Lib.hid (I.on R_0.out (alloc_below w (.cells #[.int .i64 ka, .int .i64 kb, .int .i64 kc, .int .i64 kd, .int .i64 ke, .int .i64 kf, .slice kp kn kq] 25)))
    clear B_0 R_0
    have C_1 := Lib.hid (Lies.new w 25 #[.int .i64 ka, .int .i64 kb, .int .i64 kc, .int .i64 kd, .int .i64 ke, .int .i64 kf, .slice kp kn kq])
    go_enter Tryd.func4, Tryd.ntmps4
    go_wp2_with fail
    refine (AL.out _ R_1.out).mono ?_
    rintro e w2 ⟨rfl, hb⟩
    have B_2 := Lib.hid (B_1.out.trans (hb.mono B_1.out.size))
    have R_2 := Lib.hid (I.on R_1.out hb)
    have C_2 := Lib.hid (C_1.out.below hb C_1.out.lt)
    clear B_1 R_1 C_1
    clear hb 
    go_wp2
    go_ret
    exact ⟨rfl, B_2.out⟩
  · have t1 : decide (((n : Nat) : Int) > 300) = false := by simp; omega
    have t2 : decide (((kn : Nat) : Int) > 300) = true := by simp; omega
    clear h hn hy h1
    have B_0 := Lib.hid (Below.refl w.heap.size w)
    have R_0 := Lib.hid (hR)
    clear hR
    have B_1 := Lib.hid (B_0.out.alloc B_0.out.size (.cells #[.int .i64 ka, .int .i64 kb, .int .i64 kc, .int .i64 kd, .int .i64 ke, .int .i64 kf, .slice kp kn kq] 25))
    have R_1 := Lib.hid (I.on R_0.out (alloc_below w (.cells #[.int .i64 ka, .int .i64 kb, .int .i64 kc, .int .i64 kd, .int .i64 ke, .int .i64 kf, .slice kp kn kq] 25)))
    clear B_0 R_0
    have C_1 := Lib.hid (Lies.new w 25 #[.int .i64 ka, .int .i64 kb, .int .i64 kc, .int .i64 kd, .int .i64 ke, .int .i64 kf, .slice kp kn kq])
    have c6_1 : (w.alloc (.cells #[.int .i64 ka, .int .i64 kb, .int .i64 kc, .int .i64 kd, .int .i64 ke, .int .i64 kf, .slice kp kn kq] 25)).cell? ⟨w.heap.size, 6, none⟩ = some (.slice kp kn kq) := C_1.out.cell 6
    go_enter Tryd.func4, Tryd.ntmps4
    go_wp2_with fail
    refine (AL.out _ R_1.out).mono ?_
    rintro e w2 ⟨rfl, hb⟩
    clear c6_1
    have B_2 := Lib.hid (B_1.out.trans (hb.mono B_1.out.size))
    have R_2 := Lib.hid (I.on R_1.out hb)
    have C_2 := Lib.hid (C_1.out.below hb C_1.out.lt)
    clear B_1 R_1 C_1
    clear hb 
    go_wp2
    go_ret
    exact ⟨rfl, B_2.out⟩
set_option maxRecDepth 100000 in
set_option maxHeartbeats 32000000 in
theorem mback_short (I : Face) (y : Cv) (p : Option Addr) (n cp cu : Nat) (l : List Nat) (w : World) (hR : I.R w) (hn : n ≤ 300) (hy : y.n ≤ 300) (hnc : n ≤ cp) (hA : At w p n l) (hB : Bt w y) (hW : Wf y.x) (hk : I64 y.x.kind) (hcu : cu < 256) : Calls Tryd.prog 4 #[cval y, .slice p n cp, .int .u8 ((cu : Nat) : Int)] w fun e w' => e = .returned (.bool true) ∧ Below w.heap.size w w' := by
  have AL := Lib.hid (fun W (h : I.R W) => malive_any I W h)
  have AB := Lib.hid (fun W (hb : Below w.heap.size w W) => hA.keep hb)
  have HLL := Lib.hid hA.1
  have HLX := Lib.hid hA.2.1
  have K1 := Lib.hid (fun W (h : I.R W) (hb : Below w.heap.size w W) => I.dec p n cp l W h (hA.keep hb) (by omega) hnc)
  have K2 := Lib.hid (fun (h0 : (dec l).2 = 0) q m d W (h : I.R W) (h1 : At W q m (dec l).1.bytes ∧ m ≤ d) => show Calls Tryd.prog 6 #[cval ⟨(dec l).1, q, m, d⟩] W fun e w' => (∃ q' d', e = .returned (.tuple #[.slice q' n d', .int .i64 0]) ∧ n ≤ d' ∧ At w' q' n l) ∧ Below W.heap.size W w' from by
    obtain ⟨g1, g2, g3⟩ := raw_dec hA.2.1 h0
    have hb := dec_bytes l
    have hm := h1.1.1
    have hkk := cnt_yes (right_iff.1 g1).1
    have e := I.enc ⟨(dec l).1, q, m, d⟩ W h h1 g3 (by unfold I64; simp only; omega) (by simp only; omega)
    unfold EncEnd encL encE at e
    simp only at e
    rw [if_pos g1, if_pos g1, g2, hA.1] at e
    exact e)
  have K3 := Lib.hid (fun q q2 d d2 W (h1 : At W q n l) (h2 : At W q2 n l) => same_one q q2 n d d2 l W (by omega) h1 h2)
  have K4 := Lib.hid (fun W (h : I.R W) (hb : Below w.heap.size w W) => I.enc y W h (hB.keep hb) hW hk (by omega))
  have K5 := Lib.hid (fun W (h : I.R W) (hb : Below w.heap.size w W) => I.right y W h (hB.keep hb) hW hk (by omega))
  have K6 := Lib.hid (fun (h0 : rightB y.x = true) q d W (h : I.R W) (h1 : At W q (raw y.x).length (raw y.x)) (h2 : (raw y.x).length ≤ d) => show Calls Tryd.prog 8 #[.slice q (raw y.x).length d] W fun e w' => (∃ q m d, e = .returned (.tuple #[cval ⟨y.x, q, m, d⟩, .int .i64 0]) ∧ At w' q m y.x.bytes ∧ m ≤ d) ∧ Below W.heap.size W w' from by
    have e := I.dec q (raw y.x).length d (raw y.x) W h h1 (Nat.le_trans (raw_le h0).2 (by decide)) h2
    unfold DecEnd at e
    rw [dec_raw h0 hW] at e
    exact e)
  have K7 := Lib.hid (fun (h0 : rightB y.x = true) q j d W (h : I.R W) (hj : j < (raw y.x).length) (h1 : At W q j ((raw y.x).take j)) (h2 : j ≤ d) => show Calls Tryd.prog 8 #[.slice q j d] W fun e w' => (∃ q m d, e = .returned (.tuple #[.agg #[.int .i64 0, .int .i64 0, .int .i64 0, .int .i64 0, .int .i64 0, .int .i64 0, .slice q m d], .int .i64 2])) ∧ Below W.heap.size W w' from by
    have e := I.dec q j d ((raw y.x).take j) W h h1 (by have := (raw_le h0).2; omega) h2
    unfold DecEnd at e
    rw [dec_cut h0 hj] at e
    exact e.mono fun e w' he => ⟨by obtain ⟨⟨q, m, d, h1, _⟩, _⟩ := he; exact ⟨q, m, d, h1⟩, he.2⟩)
  have K8 := Lib.hid (fun q m d W (h : I.R W) (hb : Below w.heap.size w W) (h1 : At W q m y.x.bytes ∧ m ≤ d) => show Calls Tryd.prog 16 #[cval y, cval ⟨y.x, q, m, d⟩] W fun e w' => e = .returned (.bool true) ∧ Below W.heap.size W w' from by
    have hm := h1.1.1
    have hm2 := hB.1.1
    have e := I.same y ⟨y.x, q, m, d⟩ W h (hB.keep hb) h1 (by omega) (by simp only; omega)
    simpa using e)
  have K9 := Lib.hid (fun (h0 : rightB y.x = true) q d W (h : I.R W) (h1 : At W q ((raw y.x).length + n) (raw y.x ++ l)) (h2 : (raw y.x).length + n ≤ d) => show Calls Tryd.prog 8 #[.slice q ((raw y.x).length + n) d] W fun e w' => (∃ z q m d, e = .returned (.tuple #[cval ⟨z, q, m, d⟩, .int .i64 (dec (raw y.x ++ l)).2])) ∧ Below W.heap.size W w' from by
    have e := I.dec q ((raw y.x).length + n) d (raw y.x ++ l) W h h1 (by have := (raw_le h0).2; omega) h2
    unfold DecEnd at e
    exact e.mono fun e w' he => ⟨by obtain ⟨⟨q, m, d, h1, _⟩, _⟩ := he; exact ⟨_, q, m, d, h1⟩, he.2⟩)
  have HDM := Lib.hid (fun (h0 : rightB y.x = true) (h1 : 0 < n) => show (dec (raw y.x ++ l)).2 = 2 from by
    rw [dec_more h0 (by
      intro e
      have := hA.1
      rw [e] at this
      simp at this
      omega)])
  have RL := Lib.hid (fun (h0 : rightB y.x = true) => raw_le h0)
  have RX := Lib.hid (fun (h0 : rightB y.x = true) => raw_lt h0 hW.2)
  have EY := Lib.hid (fun (h0 : rightB y.x = true) => show encL y.x = raw y.x ∧ encE y.x = 0 from by
    unfold encL encE
    rw [if_pos h0, if_pos h0]
    exact ⟨rfl, rfl⟩)
  have EN := Lib.hid (fun (h0 : rightB y.x = false) => show encL y.x = [] ∧ encE y.x = 1 from by
    unfold encL encE
    rw [if_neg (by rw [h0]; exact Bool.false_ne_true), if_neg (by rw [h0]; exact Bool.false_ne_true)]
    exact ⟨rfl, rfl⟩)
  have t1 : decide (((n : Nat) : Int) > 300) = false := by simp; omega
  unfold EncEnd at K4
  unfold DecEnd at K1
  clear hA hB hW hk
  obtain ⟨⟨ka, kb, kc, kd, ke, kf, kl⟩, kp, kn, kq⟩ := y
  simp only [cval] at K4 K5 K6 K7 K8 K9 hy HDM EY EN RL RX ⊢
  generalize encL ⟨ka, kb, kc, kd, ke, kf, kl⟩ = L at *
  generalize encE ⟨ka, kb, kc, kd, ke, kf, kl⟩ = E at *
  generalize rightB ⟨ka, kb, kc, kd, ke, kf, kl⟩ = rb at *
  generalize raw ⟨ka, kb, kc, kd, ke, kf, kl⟩ = RW at *
  generalize (dec (RW ++ l)).2 = dm at *
  generalize dec l = dr at *
  obtain ⟨⟨da, db, dc, dd, de, df, dl⟩, dx⟩ := dr
  simp only [cval] at K1 K2
  have t2 : decide (((kn : Nat) : Int) > 300) = false := by simp; omega
  have hn3 : ((n : Nat) : Int) ≤ 300 := by omega
  have hcu3 : ((cu : Nat) : Int) < 256 := by omega
  clear hy hnc
  have B_0 := Lib.hid (Below.refl w.heap.size w)
  have R_0 := Lib.hid (hR)
  clear hR
  have B_1 := Lib.hid (B_0.out.alloc B_0.out.size (.cells #[.int .i64 ka, .int .i64 kb, .int .i64 kc, .int .i64 kd, .int .i64 ke, .int .i64 kf, .slice kp kn kq] 25))
  have R_1 := Lib.hid (I.on R_0.out (alloc_below w (.cells #[.int .i64 ka, .int .i64 kb, .int .i64 kc, .int .i64 kd, .int .i64 ke, .int .i64 kf, .slice kp kn kq] 25)))
  clear B_0 R_0
  have C_1 := Lib.hid (Lies.new w 25 #[.int .i64 ka, .int .i64 kb, .int .i64 kc, .int .i64 kd, .int .i64 ke, .int .i64 kf, .slice kp kn kq])
  have c6_1 : (w.alloc (.cells #[.int .i64 ka, .int .i64 kb, .int .i64 kc, .int .i64 kd, .int .i64 ke, .int .i64 kf, .slice kp kn kq] 25)).cell? ⟨w.heap.size, 6, none⟩ = some (.slice kp kn kq) := C_1.out.cell 6
  go_enter Tryd.func4, Tryd.ntmps4
  go_wp2_with fail
  refine (K1.out _ R_1.out B_1.out).mono ?_
  rintro e w2 ⟨⟨q3, m3, d3, rfl, hA3, hd3⟩, hb⟩
  clear c6_1
  have B_2 := Lib.hid (B_1.out.trans (hb.mono B_1.out.size))
  have R_2 := Lib.hid (I.on R_1.out hb)
  have C_2 := Lib.hid (C_1.out.below hb C_1.out.lt)
  clear B_1 R_1 C_1
  clear hb K1
  have X_2 := Lib.hid (hA3)
  have HD3 := Lib.hid hd3
  clear hA3 hd3
  have B_3 := Lib.hid (B_2.out.alloc B_2.out.size (.cells #[.int .i64 da, .int .i64 db, .int .i64 dc, .int .i64 dd, .int .i64 de, .int .i64 df, .slice q3 m3 d3] 25))
  have R_3 := Lib.hid (I.on R_2.out (alloc_below w2 (.cells #[.int .i64 da, .int .i64 db, .int .i64 dc, .int .i64 dd, .int .i64 de, .int .i64 df, .slice q3 m3 d3] 25)))
  have C_3 := Lib.hid (C_2.out.alloc (.cells #[.int .i64 da, .int .i64 db, .int .i64 dc, .int .i64 dd, .int .i64 de, .int .i64 df, .slice q3 m3 d3] 25))
  have X_3 := Lib.hid (X_2.out.keep (alloc_below w2 (.cells #[.int .i64 da, .int .i64 db, .int .i64 dc, .int .i64 dd, .int .i64 de, .int .i64 df, .slice q3 m3 d3] 25)))
  clear B_2 R_2 C_2 X_2
  have F_3 := Lib.hid (Lies.new w2 25 #[.int .i64 da, .int .i64 db, .int .i64 dc, .int .i64 dd, .int .i64 de, .int .i64 df, .slice q3 m3 d3])
  by_cases hk0 : dx = 0
  · have K2' := Lib.hid (K2.out hk0)
    have u0 : (dx == 0) = true := by simp [hk0]
    clear hk0 K2
    have f0_3 : (w2.alloc (.cells #[.int .i64 da, .int .i64 db, .int .i64 dc, .int .i64 dd, .int .i64 de, .int .i64 df, .slice q3 m3 d3] 25)).cell? ⟨w2.heap.size, 0, none⟩ = some (.int .i64 da) := F_3.out.cell 0
    have f1_3 : (w2.alloc (.cells #[.int .i64 da, .int .i64 db, .int .i64 dc, .int .i64 dd, .int .i64 de, .int .i64 df, .slice q3 m3 d3] 25)).cell? ⟨w2.heap.size, 1, none⟩ = some (.int .i64 db) := F_3.out.cell 1
    have f2_3 : (w2.alloc (.cells #[.int .i64 da, .int .i64 db, .int .i64 dc, .int .i64 dd, .int .i64 de, .int .i64 df, .slice q3 m3 d3] 25)).cell? ⟨w2.heap.size, 2, none⟩ = some (.int .i64 dc) := F_3.out.cell 2
    have f3_3 : (w2.alloc (.cells #[.int .i64 da, .int .i64 db, .int .i64 dc, .int .i64 dd, .int .i64 de, .int .i64 df, .slice q3 m3 d3] 25)).cell? ⟨w2.heap.size, 3, none⟩ = some (.int .i64 dd) := F_3.out.cell 3
    have f4_3 : (w2.alloc (.cells #[.int .i64 da, .int .i64 db, .int .i64 dc, .int .i64 dd, .int .i64 de, .int .i64 df, .slice q3 m3 d3] 25)).cell? ⟨w2.heap.size, 4, none⟩ = some (.int .i64 de) := F_3.out.cell 4
    have f5_3 : (w2.alloc (.cells #[.int .i64 da, .int .i64 db, .int .i64 dc, .int .i64 dd, .int .i64 de, .int .i64 df, .slice q3 m3 d3] 25)).cell? ⟨w2.heap.size, 5, none⟩ = some (.int .i64 df) := F_3.out.cell 5
    have f6_3 : (w2.alloc (.cells #[.int .i64 da, .int .i64 db, .int .i64 dc, .int .i64 dd, .int .i64 de, .int .i64 df, .slice q3 m3 d3] 25)).cell? ⟨w2.heap.size, 6, none⟩ = some (.slice q3 m3 d3) := F_3.out.cell 6
    go_wp2_with fail
    refine (K2'.out _ _ _ _ R_3.out ⟨X_3.out, HD3.out⟩).mono ?_
    rintro e w4 ⟨⟨q4, d4, rfl, hd4, hA4⟩, hb⟩
    clear f0_3 f1_3 f2_3 f3_3 f4_3 f5_3 f6_3
    have B_4 := Lib.hid (B_3.out.trans (hb.mono B_3.out.size))
    have R_4 := Lib.hid (I.on R_3.out hb)
    have C_4 := Lib.hid (C_3.out.below hb C_3.out.lt)
    have X_4 := Lib.hid (X_3.out.keep hb)
    have F_4 := Lib.hid (F_3.out.below hb F_3.out.lt)
    clear B_3 R_3 C_3 X_3 F_3
    clear hb K2' HD3 hd4
    have Z_4 := Lib.hid (hA4)
    clear hA4
    clear X_4 F_4
    go_wp2_with fail
    refine (K3.out _ _ _ _ _ Z_4.out (AB.out _ B_4.out)).mono ?_
    rintro e w5 ⟨rfl, hb⟩
    have B_5 := Lib.hid (B_4.out.trans (hb.mono B_4.out.size))
    have R_5 := Lib.hid (I.on R_4.out hb)
    have C_5 := Lib.hid (C_4.out.below hb C_4.out.lt)
    have Z_5 := Lib.hid (Z_4.out.keep hb)
    clear B_4 R_4 C_4 Z_4
    clear hb K3
    clear Z_5
    have c0_5 : w5.cell? ⟨w.heap.size, 0, none⟩ = some (.int .i64 ka) := C_5.out.cell 0
    have c1_5 : w5.cell? ⟨w.heap.size, 1, none⟩ = some (.int .i64 kb) := C_5.out.cell 1
    have c2_5 : w5.cell? ⟨w.heap.size, 2, none⟩ = some (.int .i64 kc) := C_5.out.cell 2
    have c3_5 : w5.cell? ⟨w.heap.size, 3, none⟩ = some (.int .i64 kd) := C_5.out.cell 3
    have c4_5 : w5.cell? ⟨w.heap.size, 4, none⟩ = some (.int .i64 ke) := C_5.out.cell 4
    have c5_5 : w5.cell? ⟨w.heap.size, 5, none⟩ = some (.int .i64 kf) := C_5.out.cell 5
    have c6_5 : w5.cell? ⟨w.heap.size, 6, none⟩ = some (.slice kp kn kq) := C_5.out.cell 6
    go_wp2_with fail
    refine (K4.out _ R_5.out B_5.out).mono ?_
    rintro e w6 ⟨⟨q1, d1, rfl, hd1, hA1⟩, hb⟩
    clear c0_5 c1_5 c2_5 c3_5 c4_5 c5_5 c6_5
    have B_6 := Lib.hid (B_5.out.trans (hb.mono B_5.out.size))
    have R_6 := Lib.hid (I.on R_5.out hb)
    have C_6 := Lib.hid (C_5.out.below hb C_5.out.lt)
    clear B_5 R_5 C_5
    clear hb K4
    have P_6 := Lib.hid (hA1)
    have HD1 := Lib.hid hd1
    clear hA1 hd1
    cases rb with
    | false =>
      obtain ⟨e1, e2⟩ := EN.out rfl
      subst e1 e2
      clear EN EY K6 K7 K8 K9 HDM RL RX
      clear P_6
      clear HD1
      have c0_6 : w6.cell? ⟨w.heap.size, 0, none⟩ = some (.int .i64 ka) := C_6.out.cell 0
      have c1_6 : w6.cell? ⟨w.heap.size, 1, none⟩ = some (.int .i64 kb) := C_6.out.cell 1
      have c2_6 : w6.cell? ⟨w.heap.size, 2, none⟩ = some (.int .i64 kc) := C_6.out.cell 2
      have c3_6 : w6.cell? ⟨w.heap.size, 3, none⟩ = some (.int .i64 kd) := C_6.out.cell 3
      have c4_6 : w6.cell? ⟨w.heap.size, 4, none⟩ = some (.int .i64 ke) := C_6.out.cell 4
      have c5_6 : w6.cell? ⟨w.heap.size, 5, none⟩ = some (.int .i64 kf) := C_6.out.cell 5
      have c6_6 : w6.cell? ⟨w.heap.size, 6, none⟩ = some (.slice kp kn kq) := C_6.out.cell 6
      go_wp2_with fail
      refine (K5.out _ R_6.out B_6.out).mono ?_
      rintro e w7 ⟨rfl, hb⟩
      clear c0_6 c1_6 c2_6 c3_6 c4_6 c5_6 c6_6
      have B_7 := Lib.hid (B_6.out.trans (hb.mono B_6.out.size))
      have R_7 := Lib.hid (I.on R_6.out hb)
      have C_7 := Lib.hid (C_6.out.below hb C_6.out.lt)
      clear B_6 R_6 C_6
      clear hb 
      go_wp2_with fail
      refine (AL.out _ R_7.out).mono ?_
      rintro e w8 ⟨rfl, hb⟩
      have B_8 := Lib.hid (B_7.out.trans (hb.mono B_7.out.size))
      have R_8 := Lib.hid (I.on R_7.out hb)
      have C_8 := Lib.hid (C_7.out.below hb C_7.out.lt)
      clear B_7 R_7 C_7
      clear hb 
      have c0_8 : w8.cell? ⟨w.heap.size, 0, none⟩ = some (.int .i64 ka) := C_8.out.cell 0
      have c1_8 : w8.cell? ⟨w.heap.size, 1, none⟩ = some (.int .i64 kb) := C_8.out.cell 1
      have c2_8 : w8.cell? ⟨w.heap.size, 2, none⟩ = some (.int .i64 kc) := C_8.out.cell 2
      have c3_8 : w8.cell? ⟨w.heap.size, 3, none⟩ = some (.int .i64 kd) := C_8.out.cell 3
      have c4_8 : w8.cell? ⟨w.heap.size, 4, none⟩ = some (.int .i64 ke) := C_8.out.cell 4
      have c5_8 : w8.cell? ⟨w.heap.size, 5, none⟩ = some (.int .i64 kf) := C_8.out.cell 5
      have c6_8 : w8.cell? ⟨w.heap.size, 6, none⟩ = some (.slice kp kn kq) := C_8.out.cell 6
      go_wp2_with fail
      refine (K5.out _ R_8.out B_8.out).mono ?_
      rintro e w9 ⟨rfl, hb⟩
      clear c0_8 c1_8 c2_8 c3_8 c4_8 c5_8 c6_8
      have B_9 := Lib.hid (B_8.out.trans (hb.mono B_8.out.size))
      have R_9 := Lib.hid (I.on R_8.out hb)
      have C_9 := Lib.hid (C_8.out.below hb C_8.out.lt)
      clear B_8 R_8 C_8
      clear hb 
      go_wp2
      go_ret
      exact ⟨rfl, B_9.out⟩
    | true =>
      obtain ⟨e1, e2⟩ := EY.out rfl
      subst e1 e2
      obtain ⟨hx1, hx2⟩ := RL.out rfl
      have HRX := Lib.hid (RX.out rfl)
      have K6' := Lib.hid (K6.out rfl)
      have K7' := Lib.hid (K7.out rfl)
      have K9' := Lib.hid (K9.out rfl)
      have HDM' := Lib.hid (HDM.out rfl)
      obtain ⟨xl, hxl⟩ : ∃ xl, L.length = xl := ⟨_, rfl⟩
      rw [hxl] at hx1 hx2 K6' K7' K9' ⊢
      have HD1' := HD1.out
      have HP := P_6.out
      rw [hxl] at HD1' HP
      have HXL := Lib.hid hxl
      clear EN EY K6 K7 K9 HDM RL RX HD1 hxl
      have HP' := Lib.hid HP
      have HD1 := Lib.hid HD1'
      clear HP HD1'
      clear P_6
      have x1 : (1 : Int) ≤ (xl : Int) := by omega
      have x2 : (xl : Int) ≤ 109 := by omega
      have x3 : (((xl : Nat) : Int) == 0) = false := by rw [beq_eq_false_iff_ne]; omega
      have hd1' : (xl : Int) ≤ (d1 : Int) := by have := HD1.out; omega
      obtain ⟨j, hj, hjx⟩ := mod_is cu xl hx1
      have hjx3 : (j : Int) < (xl : Int) := by omega
      have c0_6 : w6.cell? ⟨w.heap.size, 0, none⟩ = some (.int .i64 ka) := C_6.out.cell 0
      have c1_6 : w6.cell? ⟨w.heap.size, 1, none⟩ = some (.int .i64 kb) := C_6.out.cell 1
      have c2_6 : w6.cell? ⟨w.heap.size, 2, none⟩ = some (.int .i64 kc) := C_6.out.cell 2
      have c3_6 : w6.cell? ⟨w.heap.size, 3, none⟩ = some (.int .i64 kd) := C_6.out.cell 3
      have c4_6 : w6.cell? ⟨w.heap.size, 4, none⟩ = some (.int .i64 ke) := C_6.out.cell 4
      have c5_6 : w6.cell? ⟨w.heap.size, 5, none⟩ = some (.int .i64 kf) := C_6.out.cell 5
      have c6_6 : w6.cell? ⟨w.heap.size, 6, none⟩ = some (.slice kp kn kq) := C_6.out.cell 6
      go_wp2_with fail
      refine (K5.out _ R_6.out B_6.out).mono ?_
      rintro e w7 ⟨rfl, hb⟩
      clear c0_6 c1_6 c2_6 c3_6 c4_6 c5_6 c6_6
      have B_7 := Lib.hid (B_6.out.trans (hb.mono B_6.out.size))
      have R_7 := Lib.hid (I.on R_6.out hb)
      have C_7 := Lib.hid (C_6.out.below hb C_6.out.lt)
      have P_7 := Lib.hid (HP'.out.keep hb)
      clear B_6 R_6 C_6 HP'
      clear hb K5
      go_wp2_with fail
      refine (K6'.out _ _ _ R_7.out P_7.out HD1.out).mono ?_
      rintro e w8 ⟨⟨q5, m5, d5, rfl, hA5, hd5⟩, hb⟩
      have B_8 := Lib.hid (B_7.out.trans (hb.mono B_7.out.size))
      have R_8 := Lib.hid (I.on R_7.out hb)
      have C_8 := Lib.hid (C_7.out.below hb C_7.out.lt)
      have P_8 := Lib.hid (P_7.out.keep hb)
      clear B_7 R_7 C_7 P_7
      clear hb K6'
      have Y_8 := Lib.hid (hA5)
      have HD5 := Lib.hid hd5
      clear hA5 hd5
      have B_9 := Lib.hid (B_8.out.alloc B_8.out.size (.cells #[.int .i64 ka, .int .i64 kb, .int .i64 kc, .int .i64 kd, .int .i64 ke, .int .i64 kf, .slice q5 m5 d5] 25))
      have R_9 := Lib.hid (I.on R_8.out (alloc_below w8 (.cells #[.int .i64 ka, .int .i64 kb, .int .i64 kc, .int .i64 kd, .int .i64 ke, .int .i64 kf, .slice q5 m5 d5] 25)))
      have C_9 := Lib.hid (C_8.out.alloc (.cells #[.int .i64 ka, .int .i64 kb, .int .i64 kc, .int .i64 kd, .int .i64 ke, .int .i64 kf, .slice q5 m5 d5] 25))
      have P_9 := Lib.hid (P_8.out.keep (alloc_below w8 (.cells #[.int .i64 ka, .int .i64 kb, .int .i64 kc, .int .i64 kd, .int .i64 ke, .int .i64 kf, .slice q5 m5 d5] 25)))
      have Y_9 := Lib.hid (Y_8.out.keep (alloc_below w8 (.cells #[.int .i64 ka, .int .i64 kb, .int .i64 kc, .int .i64 kd, .int .i64 ke, .int .i64 kf, .slice q5 m5 d5] 25)))
      clear B_8 R_8 C_8 P_8 Y_8
      have G5_9 := Lib.hid (Lies.new w8 25 #[.int .i64 ka, .int .i64 kb, .int .i64 kc, .int .i64 kd, .int .i64 ke, .int .i64 kf, .slice q5 m5 d5])
      go_wp2_with fail
      refine (K7'.out _ j _ _ R_9.out hjx (P_9.out.take j (by omega)) (by have := HD1.out; omega)).mono ?_
      rintro e w10 ⟨⟨q6, m6, d6, rfl⟩, hb⟩
      have B_10 := Lib.hid (B_9.out.trans (hb.mono B_9.out.size))
      have R_10 := Lib.hid (I.on R_9.out hb)
      have C_10 := Lib.hid (C_9.out.below hb C_9.out.lt)
      have P_10 := Lib.hid (P_9.out.keep hb)
      have Y_10 := Lib.hid (Y_9.out.keep hb)
      have G5_10 := Lib.hid (G5_9.out.below hb G5_9.out.lt)
      clear B_9 R_9 C_9 P_9 Y_9 G5_9
      clear hb K7' hj
      have B_11 := Lib.hid (B_10.out.alloc B_10.out.size (.cells #[.int .i64 0, .int .i64 0, .int .i64 0, .int .i64 0, .int .i64 0, .int .i64 0, .slice q6 m6 d6] 25))
      have R_11 := Lib.hid (I.on R_10.out (alloc_below w10 (.cells #[.int .i64 0, .int .i64 0, .int .i64 0, .int .i64 0, .int .i64 0, .int .i64 0, .slice q6 m6 d6] 25)))
      have C_11 := Lib.hid (C_10.out.alloc (.cells #[.int .i64 0, .int .i64 0, .int .i64 0, .int .i64 0, .int .i64 0, .int .i64 0, .slice q6 m6 d6] 25))
      have P_11 := Lib.hid (P_10.out.keep (alloc_below w10 (.cells #[.int .i64 0, .int .i64 0, .int .i64 0, .int .i64 0, .int .i64 0, .int .i64 0, .slice q6 m6 d6] 25)))
      have Y_11 := Lib.hid (Y_10.out.keep (alloc_below w10 (.cells #[.int .i64 0, .int .i64 0, .int .i64 0, .int .i64 0, .int .i64 0, .int .i64 0, .slice q6 m6 d6] 25)))
      have G5_11 := Lib.hid (G5_10.out.alloc (.cells #[.int .i64 0, .int .i64 0, .int .i64 0, .int .i64 0, .int .i64 0, .int .i64 0, .slice q6 m6 d6] 25))
      clear B_10 R_10 C_10 P_10 Y_10 G5_10
      have c0_11 : (w10.alloc (.cells #[.int .i64 0, .int .i64 0, .int .i64 0, .int .i64 0, .int .i64 0, .int .i64 0, .slice q6 m6 d6] 25)).cell? ⟨w.heap.size, 0, none⟩ = some (.int .i64 ka) := C_11.out.cell 0
      have c1_11 : (w10.alloc (.cells #[.int .i64 0, .int .i64 0, .int .i64 0, .int .i64 0, .int .i64 0, .int .i64 0, .slice q6 m6 d6] 25)).cell? ⟨w.heap.size, 1, none⟩ = some (.int .i64 kb) := C_11.out.cell 1
      have c2_11 : (w10.alloc (.cells #[.int .i64 0, .int .i64 0, .int .i64 0, .int .i64 0, .int .i64 0, .int .i64 0, .slice q6 m6 d6] 25)).cell? ⟨w.heap.size, 2, none⟩ = some (.int .i64 kc) := C_11.out.cell 2
      have c3_11 : (w10.alloc (.cells #[.int .i64 0, .int .i64 0, .int .i64 0, .int .i64 0, .int .i64 0, .int .i64 0, .slice q6 m6 d6] 25)).cell? ⟨w.heap.size, 3, none⟩ = some (.int .i64 kd) := C_11.out.cell 3
      have c4_11 : (w10.alloc (.cells #[.int .i64 0, .int .i64 0, .int .i64 0, .int .i64 0, .int .i64 0, .int .i64 0, .slice q6 m6 d6] 25)).cell? ⟨w.heap.size, 4, none⟩ = some (.int .i64 ke) := C_11.out.cell 4
      have c5_11 : (w10.alloc (.cells #[.int .i64 0, .int .i64 0, .int .i64 0, .int .i64 0, .int .i64 0, .int .i64 0, .slice q6 m6 d6] 25)).cell? ⟨w.heap.size, 5, none⟩ = some (.int .i64 kf) := C_11.out.cell 5
      have c6_11 : (w10.alloc (.cells #[.int .i64 0, .int .i64 0, .int .i64 0, .int .i64 0, .int .i64 0, .int .i64 0, .slice q6 m6 d6] 25)).cell? ⟨w.heap.size, 6, none⟩ = some (.slice kp kn kq) := C_11.out.cell 6
      have g50_11 : (w10.alloc (.cells #[.int .i64 0, .int .i64 0, .int .i64 0, .int .i64 0, .int .i64 0, .int .i64 0, .slice q6 m6 d6] 25)).cell? ⟨w8.heap.size, 0, none⟩ = some (.int .i64 ka) := G5_11.out.cell 0
      have g51_11 : (w10.alloc (.cells #[.int .i64 0, .int .i64 0, .int .i64 0, .int .i64 0, .int .i64 0, .int .i64 0, .slice q6 m6 d6] 25)).cell? ⟨w8.heap.size, 1, none⟩ = some (.int .i64 kb) := G5_11.out.cell 1
      have g52_11 : (w10.alloc (.cells #[.int .i64 0, .int .i64 0, .int .i64 0, .int .i64 0, .int .i64 0, .int .i64 0, .slice q6 m6 d6] 25)).cell? ⟨w8.heap.size, 2, none⟩ = some (.int .i64 kc) := G5_11.out.cell 2
      have g53_11 : (w10.alloc (.cells #[.int .i64 0, .int .i64 0, .int .i64 0, .int .i64 0, .int .i64 0, .int .i64 0, .slice q6 m6 d6] 25)).cell? ⟨w8.heap.size, 3, none⟩ = some (.int .i64 kd) := G5_11.out.cell 3
      have g54_11 : (w10.alloc (.cells #[.int .i64 0, .int .i64 0, .int .i64 0, .int .i64 0, .int .i64 0, .int .i64 0, .slice q6 m6 d6] 25)).cell? ⟨w8.heap.size, 4, none⟩ = some (.int .i64 ke) := G5_11.out.cell 4
      have g55_11 : (w10.alloc (.cells #[.int .i64 0, .int .i64 0, .int .i64 0, .int .i64 0, .int .i64 0, .int .i64 0, .slice q6 m6 d6] 25)).cell? ⟨w8.heap.size, 5, none⟩ = some (.int .i64 kf) := G5_11.out.cell 5
      have g56_11 : (w10.alloc (.cells #[.int .i64 0, .int .i64 0, .int .i64 0, .int .i64 0, .int .i64 0, .int .i64 0, .slice q6 m6 d6] 25)).cell? ⟨w8.heap.size, 6, none⟩ = some (.slice q5 m5 d5) := G5_11.out.cell 6
      go_wp2_with fail
      refine (K8.out _ _ _ _ R_11.out B_11.out ⟨Y_11.out, HD5.out⟩).mono ?_
      rintro e w12 ⟨rfl, hb⟩
      clear c0_11 c1_11 c2_11 c3_11 c4_11 c5_11 c6_11 g50_11 g51_11 g52_11 g53_11 g54_11 g55_11 g56_11
      have B_12 := Lib.hid (B_11.out.trans (hb.mono B_11.out.size))
      have R_12 := Lib.hid (I.on R_11.out hb)
      have C_12 := Lib.hid (C_11.out.below hb C_11.out.lt)
      have P_12 := Lib.hid (P_11.out.keep hb)
      have Y_12 := Lib.hid (Y_11.out.keep hb)
      have G5_12 := Lib.hid (G5_11.out.below hb G5_11.out.lt)
      clear B_11 R_11 C_11 P_11 Y_11 G5_11
      clear hb K8 HD5
      clear Y_12 G5_12 C_12
      have O4 := Lib.hid (show (w12.alloc (.cells #[] 5)).ownsRow w12.heap.size 5 1 (.slice (some ⟨w12.heap.size, 0, none⟩) 0 0) 0 [] from World.ownsRow_made w12 #[] 0 (Nat.le_refl _) (Nat.zero_le _) rfl)
      have P4 := Lib.hid (P_12.out.keep (alloc_below w12 (.cells #[] 5)))
      have G4 := Lib.hid (alloc_below w12 (.cells #[] 5))
      have BX := Lib.hid (B_12.out)
      go_wp2_with (first | (at_builtin; refine wpList_app rfl (.tmp 112) (.tmp 113) rfl w12.heap.size _ 0 [] rfl O4.out q1 xl d1 _ rfl P4.out (by omega) (by simp) ?_; intro v6 w6 hown6 hg6 hat6; obtain ⟨q7, d7, rfl⟩ := own_slice hown6; rw [Nat.zero_add, List.nil_append] at hown6; have O6 := Lib.hid hown6; have G6 := Lib.hid (G4.out.grown hg6 (by simp) (fun b hb => (own_lt O4.out hb).1)); clear hown6 hg6 hat6) | (at_builtin; refine wpList_app rfl (.tmp 114) (.tmp 115) rfl w12.heap.size _ xl _ rfl O6.out p n cp _ rfl (AB.out _ (BX.out.trans (G6.out.mono BX.out.size))) (by omega) G6.out.size ?_; intro v8 w8 hown8 hg8 hat8; have O8 := Lib.hid hown8; have G8 := Lib.hid (G6.out.grown hg8 G6.out.size (fun b hb => (own_lt O6.out hb).1)); clear hown8 hg8 hat8))
      have O9 := O8.out
      rw [bys_app] at O9
      obtain ⟨q9, d9, e9, hd9, hA9⟩ := at_app (by rw [List.length_append, HXL.out, HLL.out]) (fun x hx => by
        rcases List.mem_append.1 hx with h | h
        · exact HRX.out x h
        · exact HLX.out x h) O9
      subst e9
      have AA := Lib.hid hA9
      have HD9 := Lib.hid hd9
      have R9 := Lib.hid (I.on R_12.out G8.out)
      have B9 := Lib.hid (B_12.out.trans (G8.out.mono B_12.out.size))
      clear O8 O9 hA9 hd9 O6 G6 O4 P4 G4 BX G8 AB HXL HRX HLL HLX
      clear R_12 B_12 P_12
      go_wp2_with fail
      refine (K9'.out _ _ _ R9.out AA.out HD9.out).mono ?_
      rintro e w13 ⟨⟨⟨za, zb, zc, zd, ze, zf, zl⟩, q10, m10, d10, rfl⟩, hb⟩
      have R_13 := Lib.hid (I.on R9.out hb)
      have B_13 := Lib.hid (B9.out.trans (hb.mono B9.out.size))
      clear R9 B9
      clear hb K9' AA HD9
      have R_14 := Lib.hid (I.on R_13.out (alloc_below w13 (.cells #[.int .i64 za, .int .i64 zb, .int .i64 zc, .int .i64 zd, .int .i64 ze, .int .i64 zf, .slice q10 m10 d10] 25)))
      have B_14 := Lib.hid (B_13.out.alloc B_13.out.size (.cells #[.int .i64 za, .int .i64 zb, .int .i64 zc, .int .i64 zd, .int .i64 ze, .int .i64 zf, .slice q10 m10 d10] 25))
      clear R_13 B_13
      by_cases h0 : 0 < n
      · have hdm := HDM'.out h0
        subst hdm
        have z1 : (((n : Nat) : Int) == 0) = false := by rw [beq_eq_false_iff_ne]; omega
        clear h0
        go_wp2_with fail
        refine (AL.out _ R_14.out).mono ?_
        rintro e w15 ⟨rfl, hb⟩
        have R_15 := Lib.hid (I.on R_14.out hb)
        have B_15 := Lib.hid (B_14.out.trans (hb.mono B_14.out.size))
        clear R_14 B_14
        clear hb 
        go_wp2
        go_ret
        exact ⟨rfl, B_15.out⟩
      · obtain rfl : n = 0 := by omega
        clear h0
        go_wp2_with fail
        refine (AL.out _ R_14.out).mono ?_
        rintro e w15 ⟨rfl, hb⟩
        have R_15 := Lib.hid (I.on R_14.out hb)
        have B_15 := Lib.hid (B_14.out.trans (hb.mono B_14.out.size))
        clear R_14 B_14
        clear hb 
        go_wp2
        go_ret
        exact ⟨rfl, B_15.out⟩
  · have u0 : (dx == 0) = false := by simp [hk0]
    clear hk0 K2 K3 HD3
    clear X_3 F_3
    have c0_3 : (w2.alloc (.cells #[.int .i64 da, .int .i64 db, .int .i64 dc, .int .i64 dd, .int .i64 de, .int .i64 df, .slice q3 m3 d3] 25)).cell? ⟨w.heap.size, 0, none⟩ = some (.int .i64 ka) := C_3.out.cell 0
    have c1_3 : (w2.alloc (.cells #[.int .i64 da, .int .i64 db, .int .i64 dc, .int .i64 dd, .int .i64 de, .int .i64 df, .slice q3 m3 d3] 25)).cell? ⟨w.heap.size, 1, none⟩ = some (.int .i64 kb) := C_3.out.cell 1
    have c2_3 : (w2.alloc (.cells #[.int .i64 da, .int .i64 db, .int .i64 dc, .int .i64 dd, .int .i64 de, .int .i64 df, .slice q3 m3 d3] 25)).cell? ⟨w.heap.size, 2, none⟩ = some (.int .i64 kc) := C_3.out.cell 2
    have c3_3 : (w2.alloc (.cells #[.int .i64 da, .int .i64 db, .int .i64 dc, .int .i64 dd, .int .i64 de, .int .i64 df, .slice q3 m3 d3] 25)).cell? ⟨w.heap.size, 3, none⟩ = some (.int .i64 kd) := C_3.out.cell 3
    have c4_3 : (w2.alloc (.cells #[.int .i64 da, .int .i64 db, .int .i64 dc, .int .i64 dd, .int .i64 de, .int .i64 df, .slice q3 m3 d3] 25)).cell? ⟨w.heap.size, 4, none⟩ = some (.int .i64 ke) := C_3.out.cell 4
    have c5_3 : (w2.alloc (.cells #[.int .i64 da, .int .i64 db, .int .i64 dc, .int .i64 dd, .int .i64 de, .int .i64 df, .slice q3 m3 d3] 25)).cell? ⟨w.heap.size, 5, none⟩ = some (.int .i64 kf) := C_3.out.cell 5
    have c6_3 : (w2.alloc (.cells #[.int .i64 da, .int .i64 db, .int .i64 dc, .int .i64 dd, .int .i64 de, .int .i64 df, .slice q3 m3 d3] 25)).cell? ⟨w.heap.size, 6, none⟩ = some (.slice kp kn kq) := C_3.out.cell 6
    go_wp2_with fail
    refine (K4.out _ R_3.out B_3.out).mono ?_
    rintro e w4 ⟨⟨q1, d1, rfl, hd1, hA1⟩, hb⟩
    clear c0_3 c1_3 c2_3 c3_3 c4_3 c5_3 c6_3
    have B_4 := Lib.hid (B_3.out.trans (hb.mono B_3.out.size))
    have R_4 := Lib.hid (I.on R_3.out hb)
    have C_4 := Lib.hid (C_3.out.below hb C_3.out.lt)
    clear B_3 R_3 C_3
    clear hb K4
    have P_4 := Lib.hid (hA1)
    have HD1 := Lib.hid hd1
    clear hA1 hd1
    cases rb with
    | false =>
      obtain ⟨e1, e2⟩ := EN.out rfl
      subst e1 e2
      clear EN EY K6 K7 K8 K9 HDM RL RX
      clear P_4
      clear HD1
      have c0_4 : w4.cell? ⟨w.heap.size, 0, none⟩ = some (.int .i64 ka) := C_4.out.cell 0
      have c1_4 : w4.cell? ⟨w.heap.size, 1, none⟩ = some (.int .i64 kb) := C_4.out.cell 1
      have c2_4 : w4.cell? ⟨w.heap.size, 2, none⟩ = some (.int .i64 kc) := C_4.out.cell 2
      have c3_4 : w4.cell? ⟨w.heap.size, 3, none⟩ = some (.int .i64 kd) := C_4.out.cell 3
      have c4_4 : w4.cell? ⟨w.heap.size, 4, none⟩ = some (.int .i64 ke) := C_4.out.cell 4
      have c5_4 : w4.cell? ⟨w.heap.size, 5, none⟩ = some (.int .i64 kf) := C_4.out.cell 5
      have c6_4 : w4.cell? ⟨w.heap.size, 6, none⟩ = some (.slice kp kn kq) := C_4.out.cell 6
      go_wp2_with fail
      refine (K5.out _ R_4.out B_4.out).mono ?_
      rintro e w5 ⟨rfl, hb⟩
      clear c0_4 c1_4 c2_4 c3_4 c4_4 c5_4 c6_4
      have B_5 := Lib.hid (B_4.out.trans (hb.mono B_4.out.size))
      have R_5 := Lib.hid (I.on R_4.out hb)
      have C_5 := Lib.hid (C_4.out.below hb C_4.out.lt)
      clear B_4 R_4 C_4
      clear hb 
      go_wp2_with fail
      refine (AL.out _ R_5.out).mono ?_
      rintro e w6 ⟨rfl, hb⟩
      have B_6 := Lib.hid (B_5.out.trans (hb.mono B_5.out.size))
      have R_6 := Lib.hid (I.on R_5.out hb)
      have C_6 := Lib.hid (C_5.out.below hb C_5.out.lt)
      clear B_5 R_5 C_5
      clear hb 
      have c0_6 : w6.cell? ⟨w.heap.size, 0, none⟩ = some (.int .i64 ka) := C_6.out.cell 0
      have c1_6 : w6.cell? ⟨w.heap.size, 1, none⟩ = some (.int .i64 kb) := C_6.out.cell 1
      have c2_6 : w6.cell? ⟨w.heap.size, 2, none⟩ = some (.int .i64 kc) := C_6.out.cell 2
      have c3_6 : w6.cell? ⟨w.heap.size, 3, none⟩ = some (.int .i64 kd) := C_6.out.cell 3
      have c4_6 : w6.cell? ⟨w.heap.size, 4, none⟩ = some (.int .i64 ke) := C_6.out.cell 4
      have c5_6 : w6.cell? ⟨w.heap.size, 5, none⟩ = some (.int .i64 kf) := C_6.out.cell 5
      have c6_6 : w6.cell? ⟨w.heap.size, 6, none⟩ = some (.slice kp kn kq) := C_6.out.cell 6
      go_wp2_with fail
      refine (K5.out _ R_6.out B_6.out).mono ?_
      rintro e w7 ⟨rfl, hb⟩
      clear c0_6 c1_6 c2_6 c3_6 c4_6 c5_6 c6_6
      have B_7 := Lib.hid (B_6.out.trans (hb.mono B_6.out.size))
      have R_7 := Lib.hid (I.on R_6.out hb)
      have C_7 := Lib.hid (C_6.out.below hb C_6.out.lt)
      clear B_6 R_6 C_6
      clear hb 
      go_wp2
      go_ret
      exact ⟨rfl, B_7.out⟩
    | true =>
      obtain ⟨e1, e2⟩ := EY.out rfl
      subst e1 e2
      obtain ⟨hx1, hx2⟩ := RL.out rfl
      have HRX := Lib.hid (RX.out rfl)
      have K6' := Lib.hid (K6.out rfl)
      have K7' := Lib.hid (K7.out rfl)
      have K9' := Lib.hid (K9.out rfl)
      have HDM' := Lib.hid (HDM.out rfl)
      obtain ⟨xl, hxl⟩ : ∃ xl, L.length = xl := ⟨_, rfl⟩
      rw [hxl] at hx1 hx2 K6' K7' K9' ⊢
      have HD1' := HD1.out
      have HP := P_4.out
      rw [hxl] at HD1' HP
      have HXL := Lib.hid hxl
      clear EN EY K6 K7 K9 HDM RL RX HD1 hxl
      have HP' := Lib.hid HP
      have HD1 := Lib.hid HD1'
      clear HP HD1'
      clear P_4
      have x1 : (1 : Int) ≤ (xl : Int) := by omega
      have x2 : (xl : Int) ≤ 109 := by omega
      have x3 : (((xl : Nat) : Int) == 0) = false := by rw [beq_eq_false_iff_ne]; omega
      have hd1' : (xl : Int) ≤ (d1 : Int) := by have := HD1.out; omega
      obtain ⟨j, hj, hjx⟩ := mod_is cu xl hx1
      have hjx3 : (j : Int) < (xl : Int) := by omega
      have c0_4 : w4.cell? ⟨w.heap.size, 0, none⟩ = some (.int .i64 ka) := C_4.out.cell 0
      have c1_4 : w4.cell? ⟨w.heap.size, 1, none⟩ = some (.int .i64 kb) := C_4.out.cell 1
      have c2_4 : w4.cell? ⟨w.heap.size, 2, none⟩ = some (.int .i64 kc) := C_4.out.cell 2
      have c3_4 : w4.cell? ⟨w.heap.size, 3, none⟩ = some (.int .i64 kd) := C_4.out.cell 3
      have c4_4 : w4.cell? ⟨w.heap.size, 4, none⟩ = some (.int .i64 ke) := C_4.out.cell 4
      have c5_4 : w4.cell? ⟨w.heap.size, 5, none⟩ = some (.int .i64 kf) := C_4.out.cell 5
      have c6_4 : w4.cell? ⟨w.heap.size, 6, none⟩ = some (.slice kp kn kq) := C_4.out.cell 6
      go_wp2_with fail
      refine (K5.out _ R_4.out B_4.out).mono ?_
      rintro e w5 ⟨rfl, hb⟩
      clear c0_4 c1_4 c2_4 c3_4 c4_4 c5_4 c6_4
      have B_5 := Lib.hid (B_4.out.trans (hb.mono B_4.out.size))
      have R_5 := Lib.hid (I.on R_4.out hb)
      have C_5 := Lib.hid (C_4.out.below hb C_4.out.lt)
      have P_5 := Lib.hid (HP'.out.keep hb)
      clear B_4 R_4 C_4 HP'
      clear hb K5
      go_wp2_with fail
      refine (K6'.out _ _ _ R_5.out P_5.out HD1.out).mono ?_
      rintro e w6 ⟨⟨q5, m5, d5, rfl, hA5, hd5⟩, hb⟩
      have B_6 := Lib.hid (B_5.out.trans (hb.mono B_5.out.size))
      have R_6 := Lib.hid (I.on R_5.out hb)
      have C_6 := Lib.hid (C_5.out.below hb C_5.out.lt)
      have P_6 := Lib.hid (P_5.out.keep hb)
      clear B_5 R_5 C_5 P_5
      clear hb K6'
      have Y_6 := Lib.hid (hA5)
      have HD5 := Lib.hid hd5
      clear hA5 hd5
      have B_7 := Lib.hid (B_6.out.alloc B_6.out.size (.cells #[.int .i64 ka, .int .i64 kb, .int .i64 kc, .int .i64 kd, .int .i64 ke, .int .i64 kf, .slice q5 m5 d5] 25))
      have R_7 := Lib.hid (I.on R_6.out (alloc_below w6 (.cells #[.int .i64 ka, .int .i64 kb, .int .i64 kc, .int .i64 kd, .int .i64 ke, .int .i64 kf, .slice q5 m5 d5] 25)))
      have C_7 := Lib.hid (C_6.out.alloc (.cells #[.int .i64 ka, .int .i64 kb, .int .i64 kc, .int .i64 kd, .int .i64 ke, .int .i64 kf, .slice q5 m5 d5] 25))
      have P_7 := Lib.hid (P_6.out.keep (alloc_below w6 (.cells #[.int .i64 ka, .int .i64 kb, .int .i64 kc, .int .i64 kd, .int .i64 ke, .int .i64 kf, .slice q5 m5 d5] 25)))
      have Y_7 := Lib.hid (Y_6.out.keep (alloc_below w6 (.cells #[.int .i64 ka, .int .i64 kb, .int .i64 kc, .int .i64 kd, .int .i64 ke, .int .i64 kf, .slice q5 m5 d5] 25)))
      clear B_6 R_6 C_6 P_6 Y_6
      have G5_7 := Lib.hid (Lies.new w6 25 #[.int .i64 ka, .int .i64 kb, .int .i64 kc, .int .i64 kd, .int .i64 ke, .int .i64 kf, .slice q5 m5 d5])
      go_wp2_with fail
      refine (K7'.out _ j _ _ R_7.out hjx (P_7.out.take j (by omega)) (by have := HD1.out; omega)).mono ?_
      rintro e w8 ⟨⟨q6, m6, d6, rfl⟩, hb⟩
      have B_8 := Lib.hid (B_7.out.trans (hb.mono B_7.out.size))
      have R_8 := Lib.hid (I.on R_7.out hb)
      have C_8 := Lib.hid (C_7.out.below hb C_7.out.lt)
      have P_8 := Lib.hid (P_7.out.keep hb)
      have Y_8 := Lib.hid (Y_7.out.keep hb)
      have G5_8 := Lib.hid (G5_7.out.below hb G5_7.out.lt)
      clear B_7 R_7 C_7 P_7 Y_7 G5_7
      clear hb K7' hj
      have B_9 := Lib.hid (B_8.out.alloc B_8.out.size (.cells #[.int .i64 0, .int .i64 0, .int .i64 0, .int .i64 0, .int .i64 0, .int .i64 0, .slice q6 m6 d6] 25))
      have R_9 := Lib.hid (I.on R_8.out (alloc_below w8 (.cells #[.int .i64 0, .int .i64 0, .int .i64 0, .int .i64 0, .int .i64 0, .int .i64 0, .slice q6 m6 d6] 25)))
      have C_9 := Lib.hid (C_8.out.alloc (.cells #[.int .i64 0, .int .i64 0, .int .i64 0, .int .i64 0, .int .i64 0, .int .i64 0, .slice q6 m6 d6] 25))
      have P_9 := Lib.hid (P_8.out.keep (alloc_below w8 (.cells #[.int .i64 0, .int .i64 0, .int .i64 0, .int .i64 0, .int .i64 0, .int .i64 0, .slice q6 m6 d6] 25)))
      have Y_9 := Lib.hid (Y_8.out.keep (alloc_below w8 (.cells #[.int .i64 0, .int .i64 0, .int .i64 0, .int .i64 0, .int .i64 0, .int .i64 0, .slice q6 m6 d6] 25)))
      have G5_9 := Lib.hid (G5_8.out.alloc (.cells #[.int .i64 0, .int .i64 0, .int .i64 0, .int .i64 0, .int .i64 0, .int .i64 0, .slice q6 m6 d6] 25))
      clear B_8 R_8 C_8 P_8 Y_8 G5_8
      have c0_9 : (w8.alloc (.cells #[.int .i64 0, .int .i64 0, .int .i64 0, .int .i64 0, .int .i64 0, .int .i64 0, .slice q6 m6 d6] 25)).cell? ⟨w.heap.size, 0, none⟩ = some (.int .i64 ka) := C_9.out.cell 0
      have c1_9 : (w8.alloc (.cells #[.int .i64 0, .int .i64 0, .int .i64 0, .int .i64 0, .int .i64 0, .int .i64 0, .slice q6 m6 d6] 25)).cell? ⟨w.heap.size, 1, none⟩ = some (.int .i64 kb) := C_9.out.cell 1
      have c2_9 : (w8.alloc (.cells #[.int .i64 0, .int .i64 0, .int .i64 0, .int .i64 0, .int .i64 0, .int .i64 0, .slice q6 m6 d6] 25)).cell? ⟨w.heap.size, 2, none⟩ = some (.int .i64 kc) := C_9.out.cell 2
      have c3_9 : (w8.alloc (.cells #[.int .i64 0, .int .i64 0, .int .i64 0, .int .i64 0, .int .i64 0, .int .i64 0, .slice q6 m6 d6] 25)).cell? ⟨w.heap.size, 3, none⟩ = some (.int .i64 kd) := C_9.out.cell 3
      have c4_9 : (w8.alloc (.cells #[.int .i64 0, .int .i64 0, .int .i64 0, .int .i64 0, .int .i64 0, .int .i64 0, .slice q6 m6 d6] 25)).cell? ⟨w.heap.size, 4, none⟩ = some (.int .i64 ke) := C_9.out.cell 4
      have c5_9 : (w8.alloc (.cells #[.int .i64 0, .int .i64 0, .int .i64 0, .int .i64 0, .int .i64 0, .int .i64 0, .slice q6 m6 d6] 25)).cell? ⟨w.heap.size, 5, none⟩ = some (.int .i64 kf) := C_9.out.cell 5
      have c6_9 : (w8.alloc (.cells #[.int .i64 0, .int .i64 0, .int .i64 0, .int .i64 0, .int .i64 0, .int .i64 0, .slice q6 m6 d6] 25)).cell? ⟨w.heap.size, 6, none⟩ = some (.slice kp kn kq) := C_9.out.cell 6
      have g50_9 : (w8.alloc (.cells #[.int .i64 0, .int .i64 0, .int .i64 0, .int .i64 0, .int .i64 0, .int .i64 0, .slice q6 m6 d6] 25)).cell? ⟨w6.heap.size, 0, none⟩ = some (.int .i64 ka) := G5_9.out.cell 0
      have g51_9 : (w8.alloc (.cells #[.int .i64 0, .int .i64 0, .int .i64 0, .int .i64 0, .int .i64 0, .int .i64 0, .slice q6 m6 d6] 25)).cell? ⟨w6.heap.size, 1, none⟩ = some (.int .i64 kb) := G5_9.out.cell 1
      have g52_9 : (w8.alloc (.cells #[.int .i64 0, .int .i64 0, .int .i64 0, .int .i64 0, .int .i64 0, .int .i64 0, .slice q6 m6 d6] 25)).cell? ⟨w6.heap.size, 2, none⟩ = some (.int .i64 kc) := G5_9.out.cell 2
      have g53_9 : (w8.alloc (.cells #[.int .i64 0, .int .i64 0, .int .i64 0, .int .i64 0, .int .i64 0, .int .i64 0, .slice q6 m6 d6] 25)).cell? ⟨w6.heap.size, 3, none⟩ = some (.int .i64 kd) := G5_9.out.cell 3
      have g54_9 : (w8.alloc (.cells #[.int .i64 0, .int .i64 0, .int .i64 0, .int .i64 0, .int .i64 0, .int .i64 0, .slice q6 m6 d6] 25)).cell? ⟨w6.heap.size, 4, none⟩ = some (.int .i64 ke) := G5_9.out.cell 4
      have g55_9 : (w8.alloc (.cells #[.int .i64 0, .int .i64 0, .int .i64 0, .int .i64 0, .int .i64 0, .int .i64 0, .slice q6 m6 d6] 25)).cell? ⟨w6.heap.size, 5, none⟩ = some (.int .i64 kf) := G5_9.out.cell 5
      have g56_9 : (w8.alloc (.cells #[.int .i64 0, .int .i64 0, .int .i64 0, .int .i64 0, .int .i64 0, .int .i64 0, .slice q6 m6 d6] 25)).cell? ⟨w6.heap.size, 6, none⟩ = some (.slice q5 m5 d5) := G5_9.out.cell 6
      go_wp2_with fail
      refine (K8.out _ _ _ _ R_9.out B_9.out ⟨Y_9.out, HD5.out⟩).mono ?_
      rintro e w10 ⟨rfl, hb⟩
      clear c0_9 c1_9 c2_9 c3_9 c4_9 c5_9 c6_9 g50_9 g51_9 g52_9 g53_9 g54_9 g55_9 g56_9
      have B_10 := Lib.hid (B_9.out.trans (hb.mono B_9.out.size))
      have R_10 := Lib.hid (I.on R_9.out hb)
      have C_10 := Lib.hid (C_9.out.below hb C_9.out.lt)
      have P_10 := Lib.hid (P_9.out.keep hb)
      have Y_10 := Lib.hid (Y_9.out.keep hb)
      have G5_10 := Lib.hid (G5_9.out.below hb G5_9.out.lt)
      clear B_9 R_9 C_9 P_9 Y_9 G5_9
      clear hb K8 HD5
      clear Y_10 G5_10 C_10
      have O4 := Lib.hid (show (w10.alloc (.cells #[] 5)).ownsRow w10.heap.size 5 1 (.slice (some ⟨w10.heap.size, 0, none⟩) 0 0) 0 [] from World.ownsRow_made w10 #[] 0 (Nat.le_refl _) (Nat.zero_le _) rfl)
      have P4 := Lib.hid (P_10.out.keep (alloc_below w10 (.cells #[] 5)))
      have G4 := Lib.hid (alloc_below w10 (.cells #[] 5))
      have BX := Lib.hid (B_10.out)
      go_wp2_with (first | (at_builtin; refine wpList_app rfl (.tmp 112) (.tmp 113) rfl w10.heap.size _ 0 [] rfl O4.out q1 xl d1 _ rfl P4.out (by omega) (by simp) ?_; intro v6 w6 hown6 hg6 hat6; obtain ⟨q7, d7, rfl⟩ := own_slice hown6; rw [Nat.zero_add, List.nil_append] at hown6; have O6 := Lib.hid hown6; have G6 := Lib.hid (G4.out.grown hg6 (by simp) (fun b hb => (own_lt O4.out hb).1)); clear hown6 hg6 hat6) | (at_builtin; refine wpList_app rfl (.tmp 114) (.tmp 115) rfl w10.heap.size _ xl _ rfl O6.out p n cp _ rfl (AB.out _ (BX.out.trans (G6.out.mono BX.out.size))) (by omega) G6.out.size ?_; intro v8 w8 hown8 hg8 hat8; have O8 := Lib.hid hown8; have G8 := Lib.hid (G6.out.grown hg8 G6.out.size (fun b hb => (own_lt O6.out hb).1)); clear hown8 hg8 hat8))
      have O9 := O8.out
      rw [bys_app] at O9
      obtain ⟨q9, d9, e9, hd9, hA9⟩ := at_app (by rw [List.length_append, HXL.out, HLL.out]) (fun x hx => by
        rcases List.mem_append.1 hx with h | h
        · exact HRX.out x h
        · exact HLX.out x h) O9
      subst e9
      have AA := Lib.hid hA9
      have HD9 := Lib.hid hd9
      have R9 := Lib.hid (I.on R_10.out G8.out)
      have B9 := Lib.hid (B_10.out.trans (G8.out.mono B_10.out.size))
      clear O8 O9 hA9 hd9 O6 G6 O4 P4 G4 BX G8 AB HXL HRX HLL HLX
      clear R_10 B_10 P_10
      go_wp2_with fail
      refine (K9'.out _ _ _ R9.out AA.out HD9.out).mono ?_
      rintro e w11 ⟨⟨⟨za, zb, zc, zd, ze, zf, zl⟩, q10, m10, d10, rfl⟩, hb⟩
      have R_11 := Lib.hid (I.on R9.out hb)
      have B_11 := Lib.hid (B9.out.trans (hb.mono B9.out.size))
      clear R9 B9
      clear hb K9' AA HD9
      have R_12 := Lib.hid (I.on R_11.out (alloc_below w11 (.cells #[.int .i64 za, .int .i64 zb, .int .i64 zc, .int .i64 zd, .int .i64 ze, .int .i64 zf, .slice q10 m10 d10] 25)))
      have B_12 := Lib.hid (B_11.out.alloc B_11.out.size (.cells #[.int .i64 za, .int .i64 zb, .int .i64 zc, .int .i64 zd, .int .i64 ze, .int .i64 zf, .slice q10 m10 d10] 25))
      clear R_11 B_11
      by_cases h0 : 0 < n
      · have hdm := HDM'.out h0
        subst hdm
        have z1 : (((n : Nat) : Int) == 0) = false := by rw [beq_eq_false_iff_ne]; omega
        clear h0
        go_wp2_with fail
        refine (AL.out _ R_12.out).mono ?_
        rintro e w13 ⟨rfl, hb⟩
        have R_13 := Lib.hid (I.on R_12.out hb)
        have B_13 := Lib.hid (B_12.out.trans (hb.mono B_12.out.size))
        clear R_12 B_12
        clear hb 
        go_wp2
        go_ret
        exact ⟨rfl, B_13.out⟩
      · obtain rfl : n = 0 := by omega
        clear h0
        go_wp2_with fail
        refine (AL.out _ R_12.out).mono ?_
        rintro e w13 ⟨rfl, hb⟩
        have R_13 := Lib.hid (I.on R_12.out hb)
        have B_13 := Lib.hid (B_12.out.trans (hb.mono B_12.out.size))
        clear R_12 B_12
        clear hb 
        go_wp2
        go_ret
        exact ⟨rfl, B_13.out⟩
end Cm
end Go.Proofs.YtbahilakfgbgpaaDoor
