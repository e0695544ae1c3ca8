/- The walk over the law that holds package command against the document's answer. Conditions: the contracts of package command; what comes in reads as commands, and bytes. -/
import Derived.Test.YtbahilakfgbgpaaDoorCmL1
import Derived.Test.YtbahilakfgbgpaaDoorRng
namespace Go.Proofs.YtbahilakfgbgpaaDoor
open Go.RowKit

namespace Cm
theorem dec_bytes (l : List Nat) : (dec l).1.bytes.length ≤ 64 := by
  rcases dec_err l with h | h
  · cases l with
    | nil => decide
    | cons x r =>
      by_cases h0 : x = 0
      · subst h0
        rw [dec_run] at h ⊢
        split
        · simp
          omega
        · simp [cm0]
      · by_cases hc : 0 ≤ cnt x
        · rw [dec_nums h0 hc] at h ⊢
          split
          · simp [cmOf]
          · simp [cm0]
        · have e : dec (x :: r) = (cm0, 2) := by
            show (if cnt x < 0 then (cm0, (2 : Int)) else _) = _
            rw [if_pos (by omega)]
          rw [e]
          simp [cm0]
  · rw [h]
    simp [cm0]
set_option maxRecDepth 100000 in
set_option maxHeartbeats 32000000 in
theorem mtells_long (I : Face) (y z : Cv) (p : Option Addr) (n cp : Nat) (w : World) (hR : I.R w) (h : 300 < n ∨ 300 < y.n ∨ 300 < z.n) (hn : n ≤ 9223372036854775807) (hy : y.n ≤ 9223372036854775807) (hz : z.n ≤ 9223372036854775807) : Calls Tryd.prog 3 #[cval y, cval z, .slice p n cp] w fun e w' => e = .returned (.bool true) ∧ Below w.heap.size w w' := by
  have AL := Lib.hid (fun W (h : I.R W) => malive_any I W h)
  obtain ⟨⟨ka, kb, kc, kd, ke, kf, kl⟩, kp, kn, kq⟩ := y
  obtain ⟨⟨ja, jb, jc, jd, je, jf, jl⟩, jp, jn, jq⟩ := z
  simp only [cval] at h hy hz ⊢
  have b1 : ((n : Nat) : Int) ≤ 9223372036854775807 := by omega
  have b2 : ((kn : Nat) : Int) ≤ 9223372036854775807 := by omega
  have b3 : ((jn : Nat) : Int) ≤ 9223372036854775807 := by omega
  by_cases h1 : 300 < n
  · have t1 : decide (((n : Nat) : Int) > 300) = true := by simp; omega
    clear h hn hy hz h1
    have B_0 := Lib.hid (Below.refl w.heap.size w)
    have R_0 := Lib.hid (hR)
    clear hR
    have B_1 := Lib.hid (B_0.out.alloc B_0.out.size (.cells #[.int .i64 ka, .int .i64 kb, .int .i64 kc, .int .i64 kd, .int .i64 ke, .int .i64 kf, .slice kp kn kq] 25))
    have R_1 := Lib.hid (I.on R_0.out (alloc_below w (.cells #[.int .i64 ka, .int .i64 kb, .int .i64 kc, .int .i64 kd, .int .i64 ke, .int .i64 kf, .slice kp kn kq] 25)))
    clear B_0 R_0
    have C_1 := Lib.hid (Lies.new w 25 #[.int .i64 ka, .int .i64 kb, .int .i64 kc, .int .i64 kd, .int .i64 ke, .int .i64 kf, .slice kp kn kq])
    have B_2 := Lib.hid (B_1.out.alloc B_1.out.size (.cells #[.int .i64 ja, .int .i64 jb, .int .i64 jc, .int .i64 jd, .int .i64 je, .int .i64 jf, .slice jp jn jq] 25))
    have R_2 := Lib.hid (I.on R_1.out (alloc_below (w.alloc (.cells #[.int .i64 ka, .int .i64 kb, .int .i64 kc, .int .i64 kd, .int .i64 ke, .int .i64 kf, .slice kp kn kq] 25)) (.cells #[.int .i64 ja, .int .i64 jb, .int .i64 jc, .int .i64 jd, .int .i64 je, .int .i64 jf, .slice jp jn jq] 25)))
    have C_2 := Lib.hid (C_1.out.alloc (.cells #[.int .i64 ja, .int .i64 jb, .int .i64 jc, .int .i64 jd, .int .i64 je, .int .i64 jf, .slice jp jn jq] 25))
    clear B_1 R_1 C_1
    have E_2 := Lib.hid (show Lies ((w.alloc (.cells #[.int .i64 ka, .int .i64 kb, .int .i64 kc, .int .i64 kd, .int .i64 ke, .int .i64 kf, .slice kp kn kq] 25)).alloc (.cells #[.int .i64 ja, .int .i64 jb, .int .i64 jc, .int .i64 jd, .int .i64 je, .int .i64 jf, .slice jp jn jq] 25)) (w.heap.size + 1) 25 #[.int .i64 ja, .int .i64 jb, .int .i64 jc, .int .i64 jd, .int .i64 je, .int .i64 jf, .slice jp jn jq] by simpa using Lies.new (w.alloc (.cells #[.int .i64 ka, .int .i64 kb, .int .i64 kc, .int .i64 kd, .int .i64 ke, .int .i64 kf, .slice kp kn kq] 25)) 25 #[.int .i64 ja, .int .i64 jb, .int .i64 jc, .int .i64 jd, .int .i64 je, .int .i64 jf, .slice jp jn jq])
    go_enter Tryd.func3, Tryd.ntmps3
    go_wp2_with fail
    refine (AL.out _ R_2.out).mono ?_
    rintro e w3 ⟨rfl, hb⟩
    have B_3 := Lib.hid (B_2.out.trans (hb.mono B_2.out.size))
    have R_3 := Lib.hid (I.on R_2.out hb)
    have C_3 := Lib.hid (C_2.out.below hb C_2.out.lt)
    have E_3 := Lib.hid (E_2.out.below hb E_2.out.lt)
    clear B_2 R_2 C_2 E_2
    clear hb 
    go_wp2
    go_ret
    exact ⟨rfl, B_3.out⟩
  · have t1 : decide (((n : Nat) : Int) > 300) = false := by simp; omega
    by_cases h2 : 300 < kn
    · have t2 : decide (((kn : Nat) : Int) > 300) = true := by simp; omega
      clear h hn hy hz h1 h2
      have B_0 := Lib.hid (Below.refl w.heap.size w)
      have R_0 := Lib.hid (hR)
      clear hR
      have B_1 := Lib.hid (B_0.out.alloc B_0.out.size (.cells #[.int .i64 ka, .int .i64 kb, .int .i64 kc, .int .i64 kd, .int .i64 ke, .int .i64 kf, .slice kp kn kq] 25))
      have R_1 := Lib.hid (I.on R_0.out (alloc_below w (.cells #[.int .i64 ka, .int .i64 kb, .int .i64 kc, .int .i64 kd, .int .i64 ke, .int .i64 kf, .slice kp kn kq] 25)))
      clear B_0 R_0
      have C_1 := Lib.hid (Lies.new w 25 #[.int .i64 ka, .int .i64 kb, .int .i64 kc, .int .i64 kd, .int .i64 ke, .int .i64 kf, .slice kp kn kq])
      have B_2 := Lib.hid (B_1.out.alloc B_1.out.size (.cells #[.int .i64 ja, .int .i64 jb, .int .i64 jc, .int .i64 jd, .int .i64 je, .int .i64 jf, .slice jp jn jq] 25))
      have R_2 := Lib.hid (I.on R_1.out (alloc_below (w.alloc (.cells #[.int .i64 ka, .int .i64 kb, .int .i64 kc, .int .i64 kd, .int .i64 ke, .int .i64 kf, .slice kp kn kq] 25)) (.cells #[.int .i64 ja, .int .i64 jb, .int .i64 jc, .int .i64 jd, .int .i64 je, .int .i64 jf, .slice jp jn jq] 25)))
      have C_2 := Lib.hid (C_1.out.alloc (.cells #[.int .i64 ja, .int .i64 jb, .int .i64 jc, .int .i64 jd, .int .i64 je, .int .i64 jf, .slice jp jn jq] 25))
      clear B_1 R_1 C_1
      have E_2 := Lib.hid (show Lies ((w.alloc (.cells #[.int .i64 ka, .int .i64 kb, .int .i64 kc, .int .i64 kd, .int .i64 ke, .int .i64 kf, .slice kp kn kq] 25)).alloc (.cells #[.int .i64 ja, .int .i64 jb, .int .i64 jc, .int .i64 jd, .int .i64 je, .int .i64 jf, .slice jp jn jq] 25)) (w.heap.size + 1) 25 #[.int .i64 ja, .int .i64 jb, .int .i64 jc, .int .i64 jd, .int .i64 je, .int .i64 jf, .slice jp jn jq] by simpa using Lies.new (w.alloc (.cells #[.int .i64 ka, .int .i64 kb, .int .i64 kc, .int .i64 kd, .int .i64 ke, .int .i64 kf, .slice kp kn kq] 25)) 25 #[.int .i64 ja, .int .i64 jb, .int .i64 jc, .int .i64 jd, .int .i64 je, .int .i64 jf, .slice jp jn jq])
      have c6_2 : ((w.alloc (.cells #[.int .i64 ka, .int .i64 kb, .int .i64 kc, .int .i64 kd, .int .i64 ke, .int .i64 kf, .slice kp kn kq] 25)).alloc (.cells #[.int .i64 ja, .int .i64 jb, .int .i64 jc, .int .i64 jd, .int .i64 je, .int .i64 jf, .slice jp jn jq] 25)).cell? ⟨w.heap.size, 6, none⟩ = some (.slice kp kn kq) := C_2.out.cell 6
      go_enter Tryd.func3, Tryd.ntmps3
      go_wp2_with fail
      refine (AL.out _ R_2.out).mono ?_
      rintro e w3 ⟨rfl, hb⟩
      clear c6_2
      have B_3 := Lib.hid (B_2.out.trans (hb.mono B_2.out.size))
      have R_3 := Lib.hid (I.on R_2.out hb)
      have C_3 := Lib.hid (C_2.out.below hb C_2.out.lt)
      have E_3 := Lib.hid (E_2.out.below hb E_2.out.lt)
      clear B_2 R_2 C_2 E_2
      clear hb 
      go_wp2
      go_ret
      exact ⟨rfl, B_3.out⟩
    · have t2 : decide (((kn : Nat) : Int) > 300) = false := by simp; omega
      have t3 : decide (((jn : Nat) : Int) > 300) = true := by simp; omega
      clear h hn hy hz h1 h2
      have B_0 := Lib.hid (Below.refl w.heap.size w)
      have R_0 := Lib.hid (hR)
      clear hR
      have B_1 := Lib.hid (B_0.out.alloc B_0.out.size (.cells #[.int .i64 ka, .int .i64 kb, .int .i64 kc, .int .i64 kd, .int .i64 ke, .int .i64 kf, .slice kp kn kq] 25))
      have R_1 := Lib.hid (I.on R_0.out (alloc_below w (.cells #[.int .i64 ka, .int .i64 kb, .int .i64 kc, .int .i64 kd, .int .i64 ke, .int .i64 kf, .slice kp kn kq] 25)))
      clear B_0 R_0
      have C_1 := Lib.hid (Lies.new w 25 #[.int .i64 ka, .int .i64 kb, .int .i64 kc, .int .i64 kd, .int .i64 ke, .int .i64 kf, .slice kp kn kq])
      have B_2 := Lib.hid (B_1.out.alloc B_1.out.size (.cells #[.int .i64 ja, .int .i64 jb, .int .i64 jc, .int .i64 jd, .int .i64 je, .int .i64 jf, .slice jp jn jq] 25))
      have R_2 := Lib.hid (I.on R_1.out (alloc_below (w.alloc (.cells #[.int .i64 ka, .int .i64 kb, .int .i64 kc, .int .i64 kd, .int .i64 ke, .int .i64 kf, .slice kp kn kq] 25)) (.cells #[.int .i64 ja, .int .i64 jb, .int .i64 jc, .int .i64 jd, .int .i64 je, .int .i64 jf, .slice jp jn jq] 25)))
      have C_2 := Lib.hid (C_1.out.alloc (.cells #[.int .i64 ja, .int .i64 jb, .int .i64 jc, .int .i64 jd, .int .i64 je, .int .i64 jf, .slice jp jn jq] 25))
      clear B_1 R_1 C_1
      have E_2 := Lib.hid (show Lies ((w.alloc (.cells #[.int .i64 ka, .int .i64 kb, .int .i64 kc, .int .i64 kd, .int .i64 ke, .int .i64 kf, .slice kp kn kq] 25)).alloc (.cells #[.int .i64 ja, .int .i64 jb, .int .i64 jc, .int .i64 jd, .int .i64 je, .int .i64 jf, .slice jp jn jq] 25)) (w.heap.size + 1) 25 #[.int .i64 ja, .int .i64 jb, .int .i64 jc, .int .i64 jd, .int .i64 je, .int .i64 jf, .slice jp jn jq] by simpa using Lies.new (w.alloc (.cells #[.int .i64 ka, .int .i64 kb, .int .i64 kc, .int .i64 kd, .int .i64 ke, .int .i64 kf, .slice kp kn kq] 25)) 25 #[.int .i64 ja, .int .i64 jb, .int .i64 jc, .int .i64 jd, .int .i64 je, .int .i64 jf, .slice jp jn jq])
      have c6_2 : ((w.alloc (.cells #[.int .i64 ka, .int .i64 kb, .int .i64 kc, .int .i64 kd, .int .i64 ke, .int .i64 kf, .slice kp kn kq] 25)).alloc (.cells #[.int .i64 ja, .int .i64 jb, .int .i64 jc, .int .i64 jd, .int .i64 je, .int .i64 jf, .slice jp jn jq] 25)).cell? ⟨w.heap.size, 6, none⟩ = some (.slice kp kn kq) := C_2.out.cell 6
      have e6_2 : ((w.alloc (.cells #[.int .i64 ka, .int .i64 kb, .int .i64 kc, .int .i64 kd, .int .i64 ke, .int .i64 kf, .slice kp kn kq] 25)).alloc (.cells #[.int .i64 ja, .int .i64 jb, .int .i64 jc, .int .i64 jd, .int .i64 je, .int .i64 jf, .slice jp jn jq] 25)).cell? ⟨(w.heap.size + 1), 6, none⟩ = some (.slice jp jn jq) := E_2.out.cell 6
      go_enter Tryd.func3, Tryd.ntmps3
      go_wp2_with fail
      refine (AL.out _ R_2.out).mono ?_
      rintro e w3 ⟨rfl, hb⟩
      clear c6_2 e6_2
      have B_3 := Lib.hid (B_2.out.trans (hb.mono B_2.out.size))
      have R_3 := Lib.hid (I.on R_2.out hb)
      have C_3 := Lib.hid (C_2.out.below hb C_2.out.lt)
      have E_3 := Lib.hid (E_2.out.below hb E_2.out.lt)
      clear B_2 R_2 C_2 E_2
      clear hb 
      go_wp2
      go_ret
      exact ⟨rfl, B_3.out⟩
set_option maxRecDepth 100000 in
set_option maxHeartbeats 32000000 in
theorem mtells_short (I : Face) (y z : Cv) (p : Option Addr) (n cp : Nat) (l : List Nat) (w : World) (hR : I.R w) (hn : n ≤ 300) (hy : y.n ≤ 300) (hz : z.n ≤ 300) (hnc : n ≤ cp) (hA : At w p n l) (hB : Bt w y) (hC : Bt w z) (hW : Wf y.x) (hk : I64 y.x.kind) : Calls Tryd.prog 3 #[cval y, cval z, .slice p n cp] w fun e w' => e = .returned (.bool true) ∧ Below w.heap.size w w' := by
  have AL := Lib.hid (fun W (h : I.R W) => malive_any I W h)
  have K1 := Lib.hid (fun W (h : I.R W) (hb : Below w.heap.size w W) => I.enc y W h (hB.keep hb) hW hk (by omega))
  have K2 := Lib.hid (fun W (hb : Below w.heap.size w W) => r18enc_any y W (hB.keep hb) (by omega))
  have K3 := Lib.hid (fun W (h : I.R W) (hb : Below w.heap.size w W) => I.dec p n cp l W h (hA.keep hb) (by omega) hnc)
  have K4 := Lib.hid (fun W (hb : Below w.heap.size w W) => r18dec_any p n cp l W (hA.keep hb) (by omega) hnc)
  have K5 := Lib.hid (fun q q2 d d2 W hA hA2 => same_one q q2 (encL y.x).length d d2 (encL y.x) W (Nat.le_trans (encL_len y.x) (by decide)) hA hA2)
  have K6 := Lib.hid (fun q m d q2 m2 d2 W (h1 : At W q m (dec l).1.bytes ∧ m ≤ d) (h2 : At W q2 m2 (dec l).1.bytes ∧ m2 ≤ d2) => show Calls Tryd.prog 11 #[cval ⟨(dec l).1, q, m, d⟩, cval ⟨(dec l).1, q2, m2, d2⟩] W fun e w' => e = .returned (.bool true) ∧ Below W.heap.size W w' from by
    have hb := dec_bytes l
    have hm := h1.1.1
    have h := r18same_any ⟨(dec l).1, q, m, d⟩ ⟨(dec l).1, q2, m2, d2⟩ W h1 h2 (by simp only; omega)
    simpa using h)
  have K7 := Lib.hid (fun W (h : I.R W) => I.num y.x.kind W h hk)
  have K8 := Lib.hid (fun W => r18num_below y.x.kind W)
  have K9 := Lib.hid (fun W (h : I.R W) (hb : Below w.heap.size w W) => I.right y W h (hB.keep hb) hW hk (by omega))
  have K10 := Lib.hid (fun W => r18right_any y W hB.len (by omega))
  have K11 := Lib.hid (fun W (h : I.R W) (hb : Below w.heap.size w W) => I.same y z W h (hB.keep hb) (hC.keep hb) (by omega) (by omega))
  have K12 := Lib.hid (fun W (hb : Below w.heap.size w W) => r18same_any y z W (hB.keep hb) (hC.keep hb) (by omega))
  have t1 : decide (((n : Nat) : Int) > 300) = false := by simp; omega
  unfold EncEnd at K1 K2
  unfold DecEnd at K3 K4
  clear hA hB hC hW hk
  generalize decide (y.x = z.x) = sb at *
  obtain ⟨⟨ka, kb, kc, kd, ke, kf, kl⟩, kp, kn, kq⟩ := y
  obtain ⟨⟨ja, jb, jc, jd, je, jf, jl⟩, jp, jn, jq⟩ := z
  simp only [cval] at K1 K2 K5 K7 K8 K9 K10 K11 K12 hy hz ⊢
  generalize encL ⟨ka, kb, kc, kd, ke, kf, kl⟩ = L at *
  generalize encE ⟨ka, kb, kc, kd, ke, kf, kl⟩ = E at *
  generalize rightB ⟨ka, kb, kc, kd, ke, kf, kl⟩ = rb at *
  generalize cnt ka = nk at *
  generalize dec l = dr at *
  obtain ⟨⟨da, db, dc, dd, de, df, dl⟩, dx⟩ := dr
  simp only [cval] at K3 K4 K6
  have t2 : decide (((kn : Nat) : Int) > 300) = false := by simp; omega
  have t3 : decide (((jn : Nat) : Int) > 300) = false := by simp; omega
  have hn3 : ((n : Nat) : Int) ≤ 300 := by omega
  have u1 : (nk == nk) = true := by simp
  have u2 : (rb == rb) = true := by cases rb <;> rfl
  have u3 : (E == E) = true := by simp
  have u4 : (dx == dx) = true := by simp
  have u5 : (sb == sb) = true := by cases sb <;> rfl
  clear hn hy hz hnc
  have B_0 := Lib.hid (Below.refl w.heap.size w)
  have R_0 := Lib.hid (hR)
  clear hR
  have B_1 := Lib.hid (B_0.out.alloc B_0.out.size (.cells #[.int .i64 ka, .int .i64 kb, .int .i64 kc, .int .i64 kd, .int .i64 ke, .int .i64 kf, .slice kp kn kq] 25))
  have R_1 := Lib.hid (I.on R_0.out (alloc_below w (.cells #[.int .i64 ka, .int .i64 kb, .int .i64 kc, .int .i64 kd, .int .i64 ke, .int .i64 kf, .slice kp kn kq] 25)))
  clear B_0 R_0
  have C_1 := Lib.hid (Lies.new w 25 #[.int .i64 ka, .int .i64 kb, .int .i64 kc, .int .i64 kd, .int .i64 ke, .int .i64 kf, .slice kp kn kq])
  have B_2 := Lib.hid (B_1.out.alloc B_1.out.size (.cells #[.int .i64 ja, .int .i64 jb, .int .i64 jc, .int .i64 jd, .int .i64 je, .int .i64 jf, .slice jp jn jq] 25))
  have R_2 := Lib.hid (I.on R_1.out (alloc_below (w.alloc (.cells #[.int .i64 ka, .int .i64 kb, .int .i64 kc, .int .i64 kd, .int .i64 ke, .int .i64 kf, .slice kp kn kq] 25)) (.cells #[.int .i64 ja, .int .i64 jb, .int .i64 jc, .int .i64 jd, .int .i64 je, .int .i64 jf, .slice jp jn jq] 25)))
  have C_2 := Lib.hid (C_1.out.alloc (.cells #[.int .i64 ja, .int .i64 jb, .int .i64 jc, .int .i64 jd, .int .i64 je, .int .i64 jf, .slice jp jn jq] 25))
  clear B_1 R_1 C_1
  have E_2 := Lib.hid (show Lies ((w.alloc (.cells #[.int .i64 ka, .int .i64 kb, .int .i64 kc, .int .i64 kd, .int .i64 ke, .int .i64 kf, .slice kp kn kq] 25)).alloc (.cells #[.int .i64 ja, .int .i64 jb, .int .i64 jc, .int .i64 jd, .int .i64 je, .int .i64 jf, .slice jp jn jq] 25)) (w.heap.size + 1) 25 #[.int .i64 ja, .int .i64 jb, .int .i64 jc, .int .i64 jd, .int .i64 je, .int .i64 jf, .slice jp jn jq] by simpa using Lies.new (w.alloc (.cells #[.int .i64 ka, .int .i64 kb, .int .i64 kc, .int .i64 kd, .int .i64 ke, .int .i64 kf, .slice kp kn kq] 25)) 25 #[.int .i64 ja, .int .i64 jb, .int .i64 jc, .int .i64 jd, .int .i64 je, .int .i64 jf, .slice jp jn jq])
  have c6_2 : ((w.alloc (.cells #[.int .i64 ka, .int .i64 kb, .int .i64 kc, .int .i64 kd, .int .i64 ke, .int .i64 kf, .slice kp kn kq] 25)).alloc (.cells #[.int .i64 ja, .int .i64 jb, .int .i64 jc, .int .i64 jd, .int .i64 je, .int .i64 jf, .slice jp jn jq] 25)).cell? ⟨w.heap.size, 6, none⟩ = some (.slice kp kn kq) := C_2.out.cell 6
  have e6_2 : ((w.alloc (.cells #[.int .i64 ka, .int .i64 kb, .int .i64 kc, .int .i64 kd, .int .i64 ke, .int .i64 kf, .slice kp kn kq] 25)).alloc (.cells #[.int .i64 ja, .int .i64 jb, .int .i64 jc, .int .i64 jd, .int .i64 je, .int .i64 jf, .slice jp jn jq] 25)).cell? ⟨(w.heap.size + 1), 6, none⟩ = some (.slice jp jn jq) := E_2.out.cell 6
  have c0_2 : ((w.alloc (.cells #[.int .i64 ka, .int .i64 kb, .int .i64 kc, .int .i64 kd, .int .i64 ke, .int .i64 kf, .slice kp kn kq] 25)).alloc (.cells #[.int .i64 ja, .int .i64 jb, .int .i64 jc, .int .i64 jd, .int .i64 je, .int .i64 jf, .slice jp jn jq] 25)).cell? ⟨w.heap.size, 0, none⟩ = some (.int .i64 ka) := C_2.out.cell 0
  have c1_2 : ((w.alloc (.cells #[.int .i64 ka, .int .i64 kb, .int .i64 kc, .int .i64 kd, .int .i64 ke, .int .i64 kf, .slice kp kn kq] 25)).alloc (.cells #[.int .i64 ja, .int .i64 jb, .int .i64 jc, .int .i64 jd, .int .i64 je, .int .i64 jf, .slice jp jn jq] 25)).cell? ⟨w.heap.size, 1, none⟩ = some (.int .i64 kb) := C_2.out.cell 1
  have c2_2 : ((w.alloc (.cells #[.int .i64 ka, .int .i64 kb, .int .i64 kc, .int .i64 kd, .int .i64 ke, .int .i64 kf, .slice kp kn kq] 25)).alloc (.cells #[.int .i64 ja, .int .i64 jb, .int .i64 jc, .int .i64 jd, .int .i64 je, .int .i64 jf, .slice jp jn jq] 25)).cell? ⟨w.heap.size, 2, none⟩ = some (.int .i64 kc) := C_2.out.cell 2
  have c3_2 : ((w.alloc (.cells #[.int .i64 ka, .int .i64 kb, .int .i64 kc, .int .i64 kd, .int .i64 ke, .int .i64 kf, .slice kp kn kq] 25)).alloc (.cells #[.int .i64 ja, .int .i64 jb, .int .i64 jc, .int .i64 jd, .int .i64 je, .int .i64 jf, .slice jp jn jq] 25)).cell? ⟨w.heap.size, 3, none⟩ = some (.int .i64 kd) := C_2.out.cell 3
  have c4_2 : ((w.alloc (.cells #[.int .i64 ka, .int .i64 kb, .int .i64 kc, .int .i64 kd, .int .i64 ke, .int .i64 kf, .slice kp kn kq] 25)).alloc (.cells #[.int .i64 ja, .int .i64 jb, .int .i64 jc, .int .i64 jd, .int .i64 je, .int .i64 jf, .slice jp jn jq] 25)).cell? ⟨w.heap.size, 4, none⟩ = some (.int .i64 ke) := C_2.out.cell 4
  have c5_2 : ((w.alloc (.cells #[.int .i64 ka, .int .i64 kb, .int .i64 kc, .int .i64 kd, .int .i64 ke, .int .i64 kf, .slice kp kn kq] 25)).alloc (.cells #[.int .i64 ja, .int .i64 jb, .int .i64 jc, .int .i64 jd, .int .i64 je, .int .i64 jf, .slice jp jn jq] 25)).cell? ⟨w.heap.size, 5, none⟩ = some (.int .i64 kf) := C_2.out.cell 5
  go_enter Tryd.func3, Tryd.ntmps3
  go_wp2_with fail
  refine (K1.out _ R_2.out B_2.out).mono ?_
  rintro e w3 ⟨⟨q1, d1, rfl, hd1, hA1⟩, hb⟩
  clear c6_2 e6_2 c0_2 c1_2 c2_2 c3_2 c4_2 c5_2
  have B_3 := Lib.hid (B_2.out.trans (hb.mono B_2.out.size))
  have R_3 := Lib.hid (I.on R_2.out hb)
  have C_3 := Lib.hid (C_2.out.below hb C_2.out.lt)
  have E_3 := Lib.hid (E_2.out.below hb E_2.out.lt)
  clear B_2 R_2 C_2 E_2
  clear hb K1
  have P_3 := Lib.hid (hA1)
  clear hA1 hd1
  have c0_3 : w3.cell? ⟨w.heap.size, 0, none⟩ = some (.int .i64 ka) := C_3.out.cell 0
  have c1_3 : w3.cell? ⟨w.heap.size, 1, none⟩ = some (.int .i64 kb) := C_3.out.cell 1
  have c2_3 : w3.cell? ⟨w.heap.size, 2, none⟩ = some (.int .i64 kc) := C_3.out.cell 2
  have c3_3 : w3.cell? ⟨w.heap.size, 3, none⟩ = some (.int .i64 kd) := C_3.out.cell 3
  have c4_3 : w3.cell? ⟨w.heap.size, 4, none⟩ = some (.int .i64 ke) := C_3.out.cell 4
  have c5_3 : w3.cell? ⟨w.heap.size, 5, none⟩ = some (.int .i64 kf) := C_3.out.cell 5
  have c6_3 : w3.cell? ⟨w.heap.size, 6, none⟩ = some (.slice kp kn kq) := C_3.out.cell 6
  go_wp2_with fail
  refine (K2.out _ B_3.out).mono ?_
  rintro e w4 ⟨⟨q2, d2, rfl, hd2, hA2⟩, hb⟩
  clear c0_3 c1_3 c2_3 c3_3 c4_3 c5_3 c6_3
  have B_4 := Lib.hid (B_3.out.trans (hb.mono B_3.out.size))
  have R_4 := Lib.hid (I.on R_3.out hb)
  have C_4 := Lib.hid (C_3.out.below hb C_3.out.lt)
  have E_4 := Lib.hid (E_3.out.below hb E_3.out.lt)
  have P_4 := Lib.hid (P_3.out.keep hb)
  clear B_3 R_3 C_3 E_3 P_3
  clear hb K2
  have Q_4 := Lib.hid (hA2)
  clear hA2 hd2
  go_wp2_with fail
  refine (K3.out _ R_4.out B_4.out).mono ?_
  rintro e w5 ⟨⟨q3, m3, d3, rfl, hA3, hd3⟩, hb⟩
  have B_5 := Lib.hid (B_4.out.trans (hb.mono B_4.out.size))
  have R_5 := Lib.hid (I.on R_4.out hb)
  have C_5 := Lib.hid (C_4.out.below hb C_4.out.lt)
  have E_5 := Lib.hid (E_4.out.below hb E_4.out.lt)
  have P_5 := Lib.hid (P_4.out.keep hb)
  have Q_5 := Lib.hid (Q_4.out.keep hb)
  clear B_4 R_4 C_4 E_4 P_4 Q_4
  clear hb K3
  have X_5 := Lib.hid (hA3)
  have HD3 := Lib.hid hd3
  clear hA3 hd3
  have B_6 := Lib.hid (B_5.out.alloc B_5.out.size (.cells #[.int .i64 da, .int .i64 db, .int .i64 dc, .int .i64 dd, .int .i64 de, .int .i64 df, .slice q3 m3 d3] 25))
  have R_6 := Lib.hid (I.on R_5.out (alloc_below w5 (.cells #[.int .i64 da, .int .i64 db, .int .i64 dc, .int .i64 dd, .int .i64 de, .int .i64 df, .slice q3 m3 d3] 25)))
  have C_6 := Lib.hid (C_5.out.alloc (.cells #[.int .i64 da, .int .i64 db, .int .i64 dc, .int .i64 dd, .int .i64 de, .int .i64 df, .slice q3 m3 d3] 25))
  have E_6 := Lib.hid (E_5.out.alloc (.cells #[.int .i64 da, .int .i64 db, .int .i64 dc, .int .i64 dd, .int .i64 de, .int .i64 df, .slice q3 m3 d3] 25))
  have P_6 := Lib.hid (P_5.out.keep (alloc_below w5 (.cells #[.int .i64 da, .int .i64 db, .int .i64 dc, .int .i64 dd, .int .i64 de, .int .i64 df, .slice q3 m3 d3] 25)))
  have Q_6 := Lib.hid (Q_5.out.keep (alloc_below w5 (.cells #[.int .i64 da, .int .i64 db, .int .i64 dc, .int .i64 dd, .int .i64 de, .int .i64 df, .slice q3 m3 d3] 25)))
  have X_6 := Lib.hid (X_5.out.keep (alloc_below w5 (.cells #[.int .i64 da, .int .i64 db, .int .i64 dc, .int .i64 dd, .int .i64 de, .int .i64 df, .slice q3 m3 d3] 25)))
  clear B_5 R_5 C_5 E_5 P_5 Q_5 X_5
  have F_6 := Lib.hid (Lies.new w5 25 #[.int .i64 da, .int .i64 db, .int .i64 dc, .int .i64 dd, .int .i64 de, .int .i64 df, .slice q3 m3 d3])
  go_wp2_with fail
  refine (K4.out _ B_6.out).mono ?_
  rintro e w7 ⟨⟨q4, m4, d4, rfl, hA4, hd4⟩, hb⟩
  have B_7 := Lib.hid (B_6.out.trans (hb.mono B_6.out.size))
  have R_7 := Lib.hid (I.on R_6.out hb)
  have C_7 := Lib.hid (C_6.out.below hb C_6.out.lt)
  have E_7 := Lib.hid (E_6.out.below hb E_6.out.lt)
  have P_7 := Lib.hid (P_6.out.keep hb)
  have Q_7 := Lib.hid (Q_6.out.keep hb)
  have X_7 := Lib.hid (X_6.out.keep hb)
  have F_7 := Lib.hid (F_6.out.below hb F_6.out.lt)
  clear B_6 R_6 C_6 E_6 P_6 Q_6 X_6 F_6
  clear hb K4
  have Y_7 := Lib.hid (hA4)
  have HD4 := Lib.hid hd4
  clear hA4 hd4
  have B_8 := Lib.hid (B_7.out.alloc B_7.out.size (.cells #[.int .i64 da, .int .i64 db, .int .i64 dc, .int .i64 dd, .int .i64 de, .int .i64 df, .slice q4 m4 d4] 25))
  have R_8 := Lib.hid (I.on R_7.out (alloc_below w7 (.cells #[.int .i64 da, .int .i64 db, .int .i64 dc, .int .i64 dd, .int .i64 de, .int .i64 df, .slice q4 m4 d4] 25)))
  have C_8 := Lib.hid (C_7.out.alloc (.cells #[.int .i64 da, .int .i64 db, .int .i64 dc, .int .i64 dd, .int .i64 de, .int .i64 df, .slice q4 m4 d4] 25))
  have E_8 := Lib.hid (E_7.out.alloc (.cells #[.int .i64 da, .int .i64 db, .int .i64 dc, .int .i64 dd, .int .i64 de, .int .i64 df, .slice q4 m4 d4] 25))
  have P_8 := Lib.hid (P_7.out.keep (alloc_below w7 (.cells #[.int .i64 da, .int .i64 db, .int .i64 dc, .int .i64 dd, .int .i64 de, .int .i64 df, .slice q4 m4 d4] 25)))
  have Q_8 := Lib.hid (Q_7.out.keep (alloc_below w7 (.cells #[.int .i64 da, .int .i64 db, .int .i64 dc, .int .i64 dd, .int .i64 de, .int .i64 df, .slice q4 m4 d4] 25)))
  have X_8 := Lib.hid (X_7.out.keep (alloc_below w7 (.cells #[.int .i64 da, .int .i64 db, .int .i64 dc, .int .i64 dd, .int .i64 de, .int .i64 df, .slice q4 m4 d4] 25)))
  have F_8 := Lib.hid (F_7.out.alloc (.cells #[.int .i64 da, .int .i64 db, .int .i64 dc, .int .i64 dd, .int .i64 de, .int .i64 df, .slice q4 m4 d4] 25))
  have Y_8 := Lib.hid (Y_7.out.keep (alloc_below w7 (.cells #[.int .i64 da, .int .i64 db, .int .i64 dc, .int .i64 dd, .int .i64 de, .int .i64 df, .slice q4 m4 d4] 25)))
  clear B_7 R_7 C_7 E_7 P_7 Q_7 X_7 F_7 Y_7
  have H_8 := Lib.hid (Lies.new w7 25 #[.int .i64 da, .int .i64 db, .int .i64 dc, .int .i64 dd, .int .i64 de, .int .i64 df, .slice q4 m4 d4])
  go_wp2_with fail
  refine (K5.out _ _ _ _ _ P_8.out Q_8.out).mono ?_
  rintro e w9 ⟨rfl, hb⟩
  have B_9 := Lib.hid (B_8.out.trans (hb.mono B_8.out.size))
  have R_9 := Lib.hid (I.on R_8.out hb)
  have C_9 := Lib.hid (C_8.out.below hb C_8.out.lt)
  have E_9 := Lib.hid (E_8.out.below hb E_8.out.lt)
  have P_9 := Lib.hid (P_8.out.keep hb)
  have Q_9 := Lib.hid (Q_8.out.keep hb)
  have X_9 := Lib.hid (X_8.out.keep hb)
  have F_9 := Lib.hid (F_8.out.below hb F_8.out.lt)
  have Y_9 := Lib.hid (Y_8.out.keep hb)
  have H_9 := Lib.hid (H_8.out.below hb H_8.out.lt)
  clear B_8 R_8 C_8 E_8 P_8 Q_8 X_8 F_8 Y_8 H_8
  clear hb K5
  clear P_9 Q_9
  have f0_9 : w9.cell? ⟨w5.heap.size, 0, none⟩ = some (.int .i64 da) := F_9.out.cell 0
  have f1_9 : w9.cell? ⟨w5.heap.size, 1, none⟩ = some (.int .i64 db) := F_9.out.cell 1
  have f2_9 : w9.cell? ⟨w5.heap.size, 2, none⟩ = some (.int .i64 dc) := F_9.out.cell 2
  have f3_9 : w9.cell? ⟨w5.heap.size, 3, none⟩ = some (.int .i64 dd) := F_9.out.cell 3
  have f4_9 : w9.cell? ⟨w5.heap.size, 4, none⟩ = some (.int .i64 de) := F_9.out.cell 4
  have f5_9 : w9.cell? ⟨w5.heap.size, 5, none⟩ = some (.int .i64 df) := F_9.out.cell 5
  have f6_9 : w9.cell? ⟨w5.heap.size, 6, none⟩ = some (.slice q3 m3 d3) := F_9.out.cell 6
  have h0_9 : w9.cell? ⟨w7.heap.size, 0, none⟩ = some (.int .i64 da) := H_9.out.cell 0
  have h1_9 : w9.cell? ⟨w7.heap.size, 1, none⟩ = some (.int .i64 db) := H_9.out.cell 1
  have h2_9 : w9.cell? ⟨w7.heap.size, 2, none⟩ = some (.int .i64 dc) := H_9.out.cell 2
  have h3_9 : w9.cell? ⟨w7.heap.size, 3, none⟩ = some (.int .i64 dd) := H_9.out.cell 3
  have h4_9 : w9.cell? ⟨w7.heap.size, 4, none⟩ = some (.int .i64 de) := H_9.out.cell 4
  have h5_9 : w9.cell? ⟨w7.heap.size, 5, none⟩ = some (.int .i64 df) := H_9.out.cell 5
  have h6_9 : w9.cell? ⟨w7.heap.size, 6, none⟩ = some (.slice q4 m4 d4) := H_9.out.cell 6
  go_wp2_with fail
  refine (K6.out _ _ _ _ _ _ _ ⟨X_9.out, HD3.out⟩ ⟨Y_9.out, HD4.out⟩).mono ?_
  rintro e w10 ⟨rfl, hb⟩
  clear f0_9 f1_9 f2_9 f3_9 f4_9 f5_9 f6_9 h0_9 h1_9 h2_9 h3_9 h4_9 h5_9 h6_9
  have B_10 := Lib.hid (B_9.out.trans (hb.mono B_9.out.size))
  have R_10 := Lib.hid (I.on R_9.out hb)
  have C_10 := Lib.hid (C_9.out.below hb C_9.out.lt)
  have E_10 := Lib.hid (E_9.out.below hb E_9.out.lt)
  have X_10 := Lib.hid (X_9.out.keep hb)
  have F_10 := Lib.hid (F_9.out.below hb F_9.out.lt)
  have Y_10 := Lib.hid (Y_9.out.keep hb)
  have H_10 := Lib.hid (H_9.out.below hb H_9.out.lt)
  clear B_9 R_9 C_9 E_9 X_9 F_9 Y_9 H_9
  clear hb K6 HD3 HD4
  clear X_10 Y_10 F_10 H_10
  go_wp2_with fail
  have hb : Below w10.heap.size w10 w10.drew := ⟨rfl, rfl, rfl, Nat.le_refl _, fun _ _ => rfl⟩
  have B_11 := Lib.hid (B_10.out.trans (hb.mono B_10.out.size))
  have R_11 := Lib.hid (I.on R_10.out hb)
  have C_11 := Lib.hid (C_10.out.below hb C_10.out.lt)
  have E_11 := Lib.hid (E_10.out.below hb E_10.out.lt)
  clear B_10 R_10 C_10 E_10
  clear hb
  have c0_11 : w10.drew.cell? ⟨w.heap.size, 0, none⟩ = some (.int .i64 ka) := C_11.out.cell 0
  have c1_11 : w10.drew.cell? ⟨w.heap.size, 1, none⟩ = some (.int .i64 kb) := C_11.out.cell 1
  have c2_11 : w10.drew.cell? ⟨w.heap.size, 2, none⟩ = some (.int .i64 kc) := C_11.out.cell 2
  have c3_11 : w10.drew.cell? ⟨w.heap.size, 3, none⟩ = some (.int .i64 kd) := C_11.out.cell 3
  have c4_11 : w10.drew.cell? ⟨w.heap.size, 4, none⟩ = some (.int .i64 ke) := C_11.out.cell 4
  have c5_11 : w10.drew.cell? ⟨w.heap.size, 5, none⟩ = some (.int .i64 kf) := C_11.out.cell 5
  have c6_11 : w10.drew.cell? ⟨w.heap.size, 6, none⟩ = some (.slice kp kn kq) := C_11.out.cell 6
  have e0_11 : w10.drew.cell? ⟨(w.heap.size + 1), 0, none⟩ = some (.int .i64 ja) := E_11.out.cell 0
  have e1_11 : w10.drew.cell? ⟨(w.heap.size + 1), 1, none⟩ = some (.int .i64 jb) := E_11.out.cell 1
  have e2_11 : w10.drew.cell? ⟨(w.heap.size + 1), 2, none⟩ = some (.int .i64 jc) := E_11.out.cell 2
  have e3_11 : w10.drew.cell? ⟨(w.heap.size + 1), 3, none⟩ = some (.int .i64 jd) := E_11.out.cell 3
  have e4_11 : w10.drew.cell? ⟨(w.heap.size + 1), 4, none⟩ = some (.int .i64 je) := E_11.out.cell 4
  have e5_11 : w10.drew.cell? ⟨(w.heap.size + 1), 5, none⟩ = some (.int .i64 jf) := E_11.out.cell 5
  have e6_11 : w10.drew.cell? ⟨(w.heap.size + 1), 6, none⟩ = some (.slice jp jn jq) := E_11.out.cell 6
  refine region_T 43 (fun w' => w'.cell? ⟨w.heap.size, 0, none⟩ = some (.int .i64 ka) ∧ w'.cell? ⟨w.heap.size, 1, none⟩ = some (.int .i64 kb) ∧ w'.cell? ⟨w.heap.size, 2, none⟩ = some (.int .i64 kc) ∧ w'.cell? ⟨w.heap.size, 3, none⟩ = some (.int .i64 kd) ∧ w'.cell? ⟨w.heap.size, 4, none⟩ = some (.int .i64 ke) ∧ w'.cell? ⟨w.heap.size, 5, none⟩ = some (.int .i64 kf) ∧ w'.cell? ⟨w.heap.size, 6, none⟩ = some (.slice kp kn kq) ∧ w'.cell? ⟨(w.heap.size + 1), 0, none⟩ = some (.int .i64 ja) ∧ w'.cell? ⟨(w.heap.size + 1), 1, none⟩ = some (.int .i64 jb) ∧ w'.cell? ⟨(w.heap.size + 1), 2, none⟩ = some (.int .i64 jc) ∧ w'.cell? ⟨(w.heap.size + 1), 3, none⟩ = some (.int .i64 jd) ∧ w'.cell? ⟨(w.heap.size + 1), 4, none⟩ = some (.int .i64 je) ∧ w'.cell? ⟨(w.heap.size + 1), 5, none⟩ = some (.int .i64 jf) ∧ w'.cell? ⟨(w.heap.size + 1), 6, none⟩ = some (.slice jp jn jq)) (by kernel_rfl) ⟨c0_11, c1_11, c2_11, c3_11, c4_11, c5_11, c6_11, e0_11, e1_11, e2_11, e3_11, e4_11, e5_11, e6_11⟩ (fun hS => ?_)
  clear c0_11 c1_11 c2_11 c3_11 c4_11 c5_11 c6_11 e0_11 e1_11 e2_11 e3_11 e4_11 e5_11 e6_11
  refine oneL (i := 0) (by kernel_rfl) rfl (fun K hK => ?_)
  go_simp
  clear hS
  refine (AL.out _ R_11.out).mono ?_
  rintro e w12 ⟨rfl, hb⟩
  have B_12 := Lib.hid (B_11.out.trans (hb.mono B_11.out.size))
  have R_12 := Lib.hid (I.on R_11.out hb)
  have C_12 := Lib.hid (C_11.out.below hb C_11.out.lt)
  have E_12 := Lib.hid (E_11.out.below hb E_11.out.lt)
  clear B_11 R_11 C_11 E_11
  clear hb AL
  have c0_12 : w12.cell? ⟨w.heap.size, 0, none⟩ = some (.int .i64 ka) := C_12.out.cell 0
  have c1_12 : w12.cell? ⟨w.heap.size, 1, none⟩ = some (.int .i64 kb) := C_12.out.cell 1
  have c2_12 : w12.cell? ⟨w.heap.size, 2, none⟩ = some (.int .i64 kc) := C_12.out.cell 2
  have c3_12 : w12.cell? ⟨w.heap.size, 3, none⟩ = some (.int .i64 kd) := C_12.out.cell 3
  have c4_12 : w12.cell? ⟨w.heap.size, 4, none⟩ = some (.int .i64 ke) := C_12.out.cell 4
  have c5_12 : w12.cell? ⟨w.heap.size, 5, none⟩ = some (.int .i64 kf) := C_12.out.cell 5
  have c6_12 : w12.cell? ⟨w.heap.size, 6, none⟩ = some (.slice kp kn kq) := C_12.out.cell 6
  have e0_12 : w12.cell? ⟨(w.heap.size + 1), 0, none⟩ = some (.int .i64 ja) := E_12.out.cell 0
  have e1_12 : w12.cell? ⟨(w.heap.size + 1), 1, none⟩ = some (.int .i64 jb) := E_12.out.cell 1
  have e2_12 : w12.cell? ⟨(w.heap.size + 1), 2, none⟩ = some (.int .i64 jc) := E_12.out.cell 2
  have e3_12 : w12.cell? ⟨(w.heap.size + 1), 3, none⟩ = some (.int .i64 jd) := E_12.out.cell 3
  have e4_12 : w12.cell? ⟨(w.heap.size + 1), 4, none⟩ = some (.int .i64 je) := E_12.out.cell 4
  have e5_12 : w12.cell? ⟨(w.heap.size + 1), 5, none⟩ = some (.int .i64 jf) := E_12.out.cell 5
  have e6_12 : w12.cell? ⟨(w.heap.size + 1), 6, none⟩ = some (.slice jp jn jq) := E_12.out.cell 6
  refine hK.out _ _ (fun _ => ⟨c0_12, c1_12, c2_12, c3_12, c4_12, c5_12, c6_12, e0_12, e1_12, e2_12, e3_12, e4_12, e5_12, e6_12⟩) ?_
  clear hK K
  try simp only [Act.put, List.setIfInBounds_toArray, List.set_cons_zero, List.set_cons_succ]
  have hS := And.intro c0_12 (And.intro c1_12 (And.intro c2_12 (And.intro c3_12 (And.intro c4_12 (And.intro c5_12 (And.intro c6_12 (And.intro e0_12 (And.intro e1_12 (And.intro e2_12 (And.intro e3_12 (And.intro e4_12 (And.intro e5_12 (e6_12)))))))))))))
  clear c0_12 c1_12 c2_12 c3_12 c4_12 c5_12 c6_12 e0_12 e1_12 e2_12 e3_12 e4_12 e5_12 e6_12
  refine takeL (i := 1) (v := ?_) rfl (by kernel_rfl) (by kernel_rfl) (by kernel_rfl) (by kernel_rfl) (by kernel_rfl) (fun _ _ _ h => h) (Or.inl ⟨by rfl, ?_⟩) (by assumption) ?_
  rotate_left
  · (intro w' hSw; (try dsimp only at hSw); go_simp; with_reducible rfl)
  try simp only [Act.put, List.setIfInBounds_toArray, List.set_cons_zero, List.set_cons_succ]
  refine takeL (i := 2) (v := ?_) rfl (by kernel_rfl) (by kernel_rfl) (by kernel_rfl) (by kernel_rfl) (by kernel_rfl) (fun _ _ _ h => h) (Or.inl ⟨by rfl, ?_⟩) (by assumption) ?_
  rotate_left
  · (intro w' hSw; (try dsimp only at hSw); go_simp; with_reducible rfl)
  try simp only [Act.put, List.setIfInBounds_toArray, List.set_cons_zero, List.set_cons_succ]
  refine takeL (i := 3) (v := ?_) rfl (by kernel_rfl) (by kernel_rfl) (by kernel_rfl) (by kernel_rfl) (by kernel_rfl) (fun _ _ _ h => h) (Or.inl ⟨by rfl, ?_⟩) (by assumption) ?_
  rotate_left
  · (intro w' hSw; (try dsimp only at hSw); go_simp; with_reducible rfl)
  try simp only [Act.put, List.setIfInBounds_toArray, List.set_cons_zero, List.set_cons_succ]
  refine takeL (i := 5) (v := ?_) rfl (by kernel_rfl) (by kernel_rfl) (by kernel_rfl) (by kernel_rfl) (by kernel_rfl) (fun _ _ _ h => h) (Or.inl ⟨by rfl, ?_⟩) (by assumption) ?_
  rotate_left
  · (intro w' hSw; (try dsimp only at hSw); go_simp; with_reducible rfl)
  try simp only [Act.put, List.setIfInBounds_toArray, List.set_cons_zero, List.set_cons_succ]
  refine takeL (i := 6) (v := ?_) rfl (by kernel_rfl) (by kernel_rfl) (by kernel_rfl) (by kernel_rfl) (by kernel_rfl) (fun _ _ _ h => h) (Or.inl ⟨by rfl, ?_⟩) (by assumption) ?_
  rotate_left
  · (intro w' hSw; (try dsimp only at hSw); go_simp; with_reducible rfl)
  try simp only [Act.put, List.setIfInBounds_toArray, List.set_cons_zero, List.set_cons_succ]
  refine oneL (i := 4) (by kernel_rfl) rfl (fun K hK => ?_)
  go_simp
  clear hS
  refine (K7.out _ R_12.out).mono ?_
  rintro e w13 ⟨rfl, hb⟩
  have B_13 := Lib.hid (B_12.out.trans (hb.mono B_12.out.size))
  have R_13 := Lib.hid (I.on R_12.out hb)
  have C_13 := Lib.hid (C_12.out.below hb C_12.out.lt)
  have E_13 := Lib.hid (E_12.out.below hb E_12.out.lt)
  clear B_12 R_12 C_12 E_12
  clear hb K7
  have c0_13 : w13.cell? ⟨w.heap.size, 0, none⟩ = some (.int .i64 ka) := C_13.out.cell 0
  have c1_13 : w13.cell? ⟨w.heap.size, 1, none⟩ = some (.int .i64 kb) := C_13.out.cell 1
  have c2_13 : w13.cell? ⟨w.heap.size, 2, none⟩ = some (.int .i64 kc) := C_13.out.cell 2
  have c3_13 : w13.cell? ⟨w.heap.size, 3, none⟩ = some (.int .i64 kd) := C_13.out.cell 3
  have c4_13 : w13.cell? ⟨w.heap.size, 4, none⟩ = some (.int .i64 ke) := C_13.out.cell 4
  have c5_13 : w13.cell? ⟨w.heap.size, 5, none⟩ = some (.int .i64 kf) := C_13.out.cell 5
  have c6_13 : w13.cell? ⟨w.heap.size, 6, none⟩ = some (.slice kp kn kq) := C_13.out.cell 6
  have e0_13 : w13.cell? ⟨(w.heap.size + 1), 0, none⟩ = some (.int .i64 ja) := E_13.out.cell 0
  have e1_13 : w13.cell? ⟨(w.heap.size + 1), 1, none⟩ = some (.int .i64 jb) := E_13.out.cell 1
  have e2_13 : w13.cell? ⟨(w.heap.size + 1), 2, none⟩ = some (.int .i64 jc) := E_13.out.cell 2
  have e3_13 : w13.cell? ⟨(w.heap.size + 1), 3, none⟩ = some (.int .i64 jd) := E_13.out.cell 3
  have e4_13 : w13.cell? ⟨(w.heap.size + 1), 4, none⟩ = some (.int .i64 je) := E_13.out.cell 4
  have e5_13 : w13.cell? ⟨(w.heap.size + 1), 5, none⟩ = some (.int .i64 jf) := E_13.out.cell 5
  have e6_13 : w13.cell? ⟨(w.heap.size + 1), 6, none⟩ = some (.slice jp jn jq) := E_13.out.cell 6
  refine hK.out _ _ (fun _ => ⟨c0_13, c1_13, c2_13, c3_13, c4_13, c5_13, c6_13, e0_13, e1_13, e2_13, e3_13, e4_13, e5_13, e6_13⟩) ?_
  clear hK K
  try simp only [Act.put, List.setIfInBounds_toArray, List.set_cons_zero, List.set_cons_succ]
  have hS := And.intro c0_13 (And.intro c1_13 (And.intro c2_13 (And.intro c3_13 (And.intro c4_13 (And.intro c5_13 (And.intro c6_13 (And.intro e0_13 (And.intro e1_13 (And.intro e2_13 (And.intro e3_13 (And.intro e4_13 (And.intro e5_13 (e6_13)))))))))))))
  clear c0_13 c1_13 c2_13 c3_13 c4_13 c5_13 c6_13 e0_13 e1_13 e2_13 e3_13 e4_13 e5_13 e6_13
  refine oneL (i := 7) (by kernel_rfl) rfl (fun K hK => ?_)
  go_simp
  clear hS
  refine (K8.out _).mono ?_
  rintro e w14 ⟨rfl, hb⟩
  have B_14 := Lib.hid (B_13.out.trans (hb.mono B_13.out.size))
  have R_14 := Lib.hid (I.on R_13.out hb)
  have C_14 := Lib.hid (C_13.out.below hb C_13.out.lt)
  have E_14 := Lib.hid (E_13.out.below hb E_13.out.lt)
  clear B_13 R_13 C_13 E_13
  clear hb K8
  have c0_14 : w14.cell? ⟨w.heap.size, 0, none⟩ = some (.int .i64 ka) := C_14.out.cell 0
  have c1_14 : w14.cell? ⟨w.heap.size, 1, none⟩ = some (.int .i64 kb) := C_14.out.cell 1
  have c2_14 : w14.cell? ⟨w.heap.size, 2, none⟩ = some (.int .i64 kc) := C_14.out.cell 2
  have c3_14 : w14.cell? ⟨w.heap.size, 3, none⟩ = some (.int .i64 kd) := C_14.out.cell 3
  have c4_14 : w14.cell? ⟨w.heap.size, 4, none⟩ = some (.int .i64 ke) := C_14.out.cell 4
  have c5_14 : w14.cell? ⟨w.heap.size, 5, none⟩ = some (.int .i64 kf) := C_14.out.cell 5
  have c6_14 : w14.cell? ⟨w.heap.size, 6, none⟩ = some (.slice kp kn kq) := C_14.out.cell 6
  have e0_14 : w14.cell? ⟨(w.heap.size + 1), 0, none⟩ = some (.int .i64 ja) := E_14.out.cell 0
  have e1_14 : w14.cell? ⟨(w.heap.size + 1), 1, none⟩ = some (.int .i64 jb) := E_14.out.cell 1
  have e2_14 : w14.cell? ⟨(w.heap.size + 1), 2, none⟩ = some (.int .i64 jc) := E_14.out.cell 2
  have e3_14 : w14.cell? ⟨(w.heap.size + 1), 3, none⟩ = some (.int .i64 jd) := E_14.out.cell 3
  have e4_14 : w14.cell? ⟨(w.heap.size + 1), 4, none⟩ = some (.int .i64 je) := E_14.out.cell 4
  have e5_14 : w14.cell? ⟨(w.heap.size + 1), 5, none⟩ = some (.int .i64 jf) := E_14.out.cell 5
  have e6_14 : w14.cell? ⟨(w.heap.size + 1), 6, none⟩ = some (.slice jp jn jq) := E_14.out.cell 6
  refine hK.out _ _ (fun _ => ⟨c0_14, c1_14, c2_14, c3_14, c4_14, c5_14, c6_14, e0_14, e1_14, e2_14, e3_14, e4_14, e5_14, e6_14⟩) ?_
  clear hK K
  try simp only [Act.put, List.setIfInBounds_toArray, List.set_cons_zero, List.set_cons_succ]
  have hS := And.intro c0_14 (And.intro c1_14 (And.intro c2_14 (And.intro c3_14 (And.intro c4_14 (And.intro c5_14 (And.intro c6_14 (And.intro e0_14 (And.intro e1_14 (And.intro e2_14 (And.intro e3_14 (And.intro e4_14 (And.intro e5_14 (e6_14)))))))))))))
  clear c0_14 c1_14 c2_14 c3_14 c4_14 c5_14 c6_14 e0_14 e1_14 e2_14 e3_14 e4_14 e5_14 e6_14
  refine takeL (i := 8) (v := ?_) rfl (by kernel_rfl) (by kernel_rfl) (by kernel_rfl) (by kernel_rfl) (by kernel_rfl) (fun _ _ _ h => h) (Or.inl ⟨by rfl, ?_⟩) (by assumption) ?_
  rotate_left
  · (intro w' hSw; (try dsimp only at hSw); go_simp; with_reducible rfl)
  try simp only [Act.put, List.setIfInBounds_toArray, List.set_cons_zero, List.set_cons_succ]
  refine takeL (i := 9) (v := ?_) rfl (by kernel_rfl) (by kernel_rfl) (by kernel_rfl) (by kernel_rfl) (by kernel_rfl) (fun _ _ _ h => h) (Or.inl ⟨by rfl, ?_⟩) (by assumption) ?_
  rotate_left
  · (intro w' hSw; (try dsimp only at hSw); go_simp; with_reducible rfl)
  try simp only [Act.put, List.setIfInBounds_toArray, List.set_cons_zero, List.set_cons_succ]
  refine takeL (i := 10) (v := ?_) rfl (by kernel_rfl) (by kernel_rfl) (by kernel_rfl) (by kernel_rfl) (by kernel_rfl) (fun _ _ _ h => h) (Or.inl ⟨by rfl, ?_⟩) (by assumption) ?_
  rotate_left
  · (intro w' hSw; (try dsimp only at hSw); go_simp; with_reducible rfl)
  try simp only [Act.put, List.setIfInBounds_toArray, List.set_cons_zero, List.set_cons_succ]
  refine takeL (i := 11) (v := ?_) rfl (by kernel_rfl) (by kernel_rfl) (by kernel_rfl) (by kernel_rfl) (by kernel_rfl) (fun _ _ _ h => h) (Or.inl ⟨by rfl, ?_⟩) (by assumption) ?_
  rotate_left
  · (intro w' hSw; (try dsimp only at hSw); go_simp; with_reducible rfl)
  try simp only [Act.put, List.setIfInBounds_toArray, List.set_cons_zero, List.set_cons_succ]
  refine takeL (i := 13) (v := ?_) rfl (by kernel_rfl) (by kernel_rfl) (by kernel_rfl) (by kernel_rfl) (by kernel_rfl) (fun _ _ _ h => h) (Or.inl ⟨by rfl, ?_⟩) (by assumption) ?_
  rotate_left
  · (intro w' hSw; (try dsimp only at hSw); go_simp; with_reducible rfl)
  try simp only [Act.put, List.setIfInBounds_toArray, List.set_cons_zero, List.set_cons_succ]
  refine oneL (i := 12) (by kernel_rfl) rfl (fun K hK => ?_)
  go_simp
  clear hS
  refine (K9.out _ R_14.out B_14.out).mono ?_
  rintro e w15 ⟨rfl, hb⟩
  have B_15 := Lib.hid (B_14.out.trans (hb.mono B_14.out.size))
  have R_15 := Lib.hid (I.on R_14.out hb)
  have C_15 := Lib.hid (C_14.out.below hb C_14.out.lt)
  have E_15 := Lib.hid (E_14.out.below hb E_14.out.lt)
  clear B_14 R_14 C_14 E_14
  clear hb K9
  have c0_15 : w15.cell? ⟨w.heap.size, 0, none⟩ = some (.int .i64 ka) := C_15.out.cell 0
  have c1_15 : w15.cell? ⟨w.heap.size, 1, none⟩ = some (.int .i64 kb) := C_15.out.cell 1
  have c2_15 : w15.cell? ⟨w.heap.size, 2, none⟩ = some (.int .i64 kc) := C_15.out.cell 2
  have c3_15 : w15.cell? ⟨w.heap.size, 3, none⟩ = some (.int .i64 kd) := C_15.out.cell 3
  have c4_15 : w15.cell? ⟨w.heap.size, 4, none⟩ = some (.int .i64 ke) := C_15.out.cell 4
  have c5_15 : w15.cell? ⟨w.heap.size, 5, none⟩ = some (.int .i64 kf) := C_15.out.cell 5
  have c6_15 : w15.cell? ⟨w.heap.size, 6, none⟩ = some (.slice kp kn kq) := C_15.out.cell 6
  have e0_15 : w15.cell? ⟨(w.heap.size + 1), 0, none⟩ = some (.int .i64 ja) := E_15.out.cell 0
  have e1_15 : w15.cell? ⟨(w.heap.size + 1), 1, none⟩ = some (.int .i64 jb) := E_15.out.cell 1
  have e2_15 : w15.cell? ⟨(w.heap.size + 1), 2, none⟩ = some (.int .i64 jc) := E_15.out.cell 2
  have e3_15 : w15.cell? ⟨(w.heap.size + 1), 3, none⟩ = some (.int .i64 jd) := E_15.out.cell 3
  have e4_15 : w15.cell? ⟨(w.heap.size + 1), 4, none⟩ = some (.int .i64 je) := E_15.out.cell 4
  have e5_15 : w15.cell? ⟨(w.heap.size + 1), 5, none⟩ = some (.int .i64 jf) := E_15.out.cell 5
  have e6_15 : w15.cell? ⟨(w.heap.size + 1), 6, none⟩ = some (.slice jp jn jq) := E_15.out.cell 6
  refine hK.out _ _ (fun _ => ⟨c0_15, c1_15, c2_15, c3_15, c4_15, c5_15, c6_15, e0_15, e1_15, e2_15, e3_15, e4_15, e5_15, e6_15⟩) ?_
  clear hK K
  try simp only [Act.put, List.setIfInBounds_toArray, List.set_cons_zero, List.set_cons_succ]
  have hS := And.intro c0_15 (And.intro c1_15 (And.intro c2_15 (And.intro c3_15 (And.intro c4_15 (And.intro c5_15 (And.intro c6_15 (And.intro e0_15 (And.intro e1_15 (And.intro e2_15 (And.intro e3_15 (And.intro e4_15 (And.intro e5_15 (e6_15)))))))))))))
  clear c0_15 c1_15 c2_15 c3_15 c4_15 c5_15 c6_15 e0_15 e1_15 e2_15 e3_15 e4_15 e5_15 e6_15
  refine oneL (i := 14) (by kernel_rfl) rfl (fun K hK => ?_)
  go_simp
  clear hS
  refine (K10.out _).mono ?_
  rintro e w16 ⟨rfl, hb⟩
  have B_16 := Lib.hid (B_15.out.trans (hb.mono B_15.out.size))
  have R_16 := Lib.hid (I.on R_15.out hb)
  have C_16 := Lib.hid (C_15.out.below hb C_15.out.lt)
  have E_16 := Lib.hid (E_15.out.below hb E_15.out.lt)
  clear B_15 R_15 C_15 E_15
  clear hb K10
  have c0_16 : w16.cell? ⟨w.heap.size, 0, none⟩ = some (.int .i64 ka) := C_16.out.cell 0
  have c1_16 : w16.cell? ⟨w.heap.size, 1, none⟩ = some (.int .i64 kb) := C_16.out.cell 1
  have c2_16 : w16.cell? ⟨w.heap.size, 2, none⟩ = some (.int .i64 kc) := C_16.out.cell 2
  have c3_16 : w16.cell? ⟨w.heap.size, 3, none⟩ = some (.int .i64 kd) := C_16.out.cell 3
  have c4_16 : w16.cell? ⟨w.heap.size, 4, none⟩ = some (.int .i64 ke) := C_16.out.cell 4
  have c5_16 : w16.cell? ⟨w.heap.size, 5, none⟩ = some (.int .i64 kf) := C_16.out.cell 5
  have c6_16 : w16.cell? ⟨w.heap.size, 6, none⟩ = some (.slice kp kn kq) := C_16.out.cell 6
  have e0_16 : w16.cell? ⟨(w.heap.size + 1), 0, none⟩ = some (.int .i64 ja) := E_16.out.cell 0
  have e1_16 : w16.cell? ⟨(w.heap.size + 1), 1, none⟩ = some (.int .i64 jb) := E_16.out.cell 1
  have e2_16 : w16.cell? ⟨(w.heap.size + 1), 2, none⟩ = some (.int .i64 jc) := E_16.out.cell 2
  have e3_16 : w16.cell? ⟨(w.heap.size + 1), 3, none⟩ = some (.int .i64 jd) := E_16.out.cell 3
  have e4_16 : w16.cell? ⟨(w.heap.size + 1), 4, none⟩ = some (.int .i64 je) := E_16.out.cell 4
  have e5_16 : w16.cell? ⟨(w.heap.size + 1), 5, none⟩ = some (.int .i64 jf) := E_16.out.cell 5
  have e6_16 : w16.cell? ⟨(w.heap.size + 1), 6, none⟩ = some (.slice jp jn jq) := E_16.out.cell 6
  refine hK.out _ _ (fun _ => ⟨c0_16, c1_16, c2_16, c3_16, c4_16, c5_16, c6_16, e0_16, e1_16, e2_16, e3_16, e4_16, e5_16, e6_16⟩) ?_
  clear hK K
  try simp only [Act.put, List.setIfInBounds_toArray, List.set_cons_zero, List.set_cons_succ]
  have hS := And.intro c0_16 (And.intro c1_16 (And.intro c2_16 (And.intro c3_16 (And.intro c4_16 (And.intro c5_16 (And.intro c6_16 (And.intro e0_16 (And.intro e1_16 (And.intro e2_16 (And.intro e3_16 (And.intro e4_16 (And.intro e5_16 (e6_16)))))))))))))
  clear c0_16 c1_16 c2_16 c3_16 c4_16 c5_16 c6_16 e0_16 e1_16 e2_16 e3_16 e4_16 e5_16 e6_16
  refine takeL (i := 15) (v := ?_) rfl (by kernel_rfl) (by kernel_rfl) (by kernel_rfl) (by kernel_rfl) (by kernel_rfl) (fun _ _ _ h => h) (Or.inl ⟨by rfl, ?_⟩) (by assumption) ?_
  rotate_left
  · (intro w' hSw; (try dsimp only at hSw); go_simp; with_reducible rfl)
  try simp only [Act.put, List.setIfInBounds_toArray, List.set_cons_zero, List.set_cons_succ]
  refine takeL (i := 16) (v := ?_) rfl (by kernel_rfl) (by kernel_rfl) (by kernel_rfl) (by kernel_rfl) (by kernel_rfl) (fun _ _ _ h => h) (Or.inl ⟨by rfl, ?_⟩) (by assumption) ?_
  rotate_left
  · (intro w' hSw; (try dsimp only at hSw); go_simp; with_reducible rfl)
  try simp only [Act.put, List.setIfInBounds_toArray, List.set_cons_zero, List.set_cons_succ]
  refine takeL (i := 17) (v := ?_) rfl (by kernel_rfl) (by kernel_rfl) (by kernel_rfl) (by kernel_rfl) (by kernel_rfl) (fun _ _ _ h => h) (Or.inl ⟨by rfl, ?_⟩) (by assumption) ?_
  rotate_left
  · (intro w' hSw; (try dsimp only at hSw); go_simp; with_reducible rfl)
  try simp only [Act.put, List.setIfInBounds_toArray, List.set_cons_zero, List.set_cons_succ]
  refine takeL (i := 18) (v := ?_) rfl (by kernel_rfl) (by kernel_rfl) (by kernel_rfl) (by kernel_rfl) (by kernel_rfl) (fun _ _ _ h => h) (Or.inl ⟨by rfl, ?_⟩) (by assumption) ?_
  rotate_left
  · (intro w' hSw; (try dsimp only at hSw); go_simp; with_reducible rfl)
  try simp only [Act.put, List.setIfInBounds_toArray, List.set_cons_zero, List.set_cons_succ]
  refine takeL (i := 19) (v := ?_) rfl (by kernel_rfl) (by kernel_rfl) (by kernel_rfl) (by kernel_rfl) (by kernel_rfl) (fun _ _ _ h => h) (Or.inl ⟨by rfl, ?_⟩) (by assumption) ?_
  rotate_left
  · (intro w' hSw; (try dsimp only at hSw); go_simp; with_reducible rfl)
  try simp only [Act.put, List.setIfInBounds_toArray, List.set_cons_zero, List.set_cons_succ]
  refine takeL (i := 20) (v := ?_) rfl (by kernel_rfl) (by kernel_rfl) (by kernel_rfl) (by kernel_rfl) (by kernel_rfl) (fun _ _ _ h => h) (Or.inl ⟨by rfl, ?_⟩) (by assumption) ?_
  rotate_left
  · (intro w' hSw; (try dsimp only at hSw); go_simp; with_reducible rfl)
  try simp only [Act.put, List.setIfInBounds_toArray, List.set_cons_zero, List.set_cons_succ]
  refine takeL (i := 21) (v := ?_) rfl (by kernel_rfl) (by kernel_rfl) (by kernel_rfl) (by kernel_rfl) (by kernel_rfl) (fun _ _ _ h => h) (Or.inl ⟨by rfl, ?_⟩) (by assumption) ?_
  rotate_left
  · (intro w' hSw; (try dsimp only at hSw); go_simp; with_reducible rfl)
  try simp only [Act.put, List.setIfInBounds_toArray, List.set_cons_zero, List.set_cons_succ]
  refine takeL (i := 22) (v := ?_) rfl (by kernel_rfl) (by kernel_rfl) (by kernel_rfl) (by kernel_rfl) (by kernel_rfl) (fun _ _ _ h => h) (Or.inl ⟨by rfl, ?_⟩) (by assumption) ?_
  rotate_left
  · (intro w' hSw; (try dsimp only at hSw); go_simp; with_reducible rfl)
  try simp only [Act.put, List.setIfInBounds_toArray, List.set_cons_zero, List.set_cons_succ]
  refine takeL (i := 23) (v := ?_) rfl (by kernel_rfl) (by kernel_rfl) (by kernel_rfl) (by kernel_rfl) (by kernel_rfl) (fun _ _ _ h => h) (Or.inl ⟨by rfl, ?_⟩) (by assumption) ?_
  rotate_left
  · (intro w' hSw; (try dsimp only at hSw); go_simp; with_reducible rfl)
  try simp only [Act.put, List.setIfInBounds_toArray, List.set_cons_zero, List.set_cons_succ]
  refine takeL (i := 24) (v := ?_) rfl (by kernel_rfl) (by kernel_rfl) (by kernel_rfl) (by kernel_rfl) (by kernel_rfl) (fun _ _ _ h => h) (Or.inl ⟨by rfl, ?_⟩) (by assumption) ?_
  rotate_left
  · (intro w' hSw; (try dsimp only at hSw); go_simp; with_reducible rfl)
  try simp only [Act.put, List.setIfInBounds_toArray, List.set_cons_zero, List.set_cons_succ]
  refine takeL (i := 25) (v := ?_) rfl (by kernel_rfl) (by kernel_rfl) (by kernel_rfl) (by kernel_rfl) (by kernel_rfl) (fun _ _ _ h => h) (Or.inl ⟨by rfl, ?_⟩) (by assumption) ?_
  rotate_left
  · (intro w' hSw; (try dsimp only at hSw); go_simp; with_reducible rfl)
  try simp only [Act.put, List.setIfInBounds_toArray, List.set_cons_zero, List.set_cons_succ]
  refine takeL (i := 26) (v := ?_) rfl (by kernel_rfl) (by kernel_rfl) (by kernel_rfl) (by kernel_rfl) (by kernel_rfl) (fun _ _ _ h => h) (Or.inl ⟨by rfl, ?_⟩) (by assumption) ?_
  rotate_left
  · (intro w' hSw; (try dsimp only at hSw); go_simp; with_reducible rfl)
  try simp only [Act.put, List.setIfInBounds_toArray, List.set_cons_zero, List.set_cons_succ]
  refine takeL (i := 27) (v := ?_) rfl (by kernel_rfl) (by kernel_rfl) (by kernel_rfl) (by kernel_rfl) (by kernel_rfl) (fun _ _ _ h => h) (Or.inl ⟨by rfl, ?_⟩) (by assumption) ?_
  rotate_left
  · (intro w' hSw; (try dsimp only at hSw); go_simp; with_reducible rfl)
  try simp only [Act.put, List.setIfInBounds_toArray, List.set_cons_zero, List.set_cons_succ]
  refine takeL (i := 28) (v := ?_) rfl (by kernel_rfl) (by kernel_rfl) (by kernel_rfl) (by kernel_rfl) (by kernel_rfl) (fun _ _ _ h => h) (Or.inl ⟨by rfl, ?_⟩) (by assumption) ?_
  rotate_left
  · (intro w' hSw; (try dsimp only at hSw); go_simp; with_reducible rfl)
  try simp only [Act.put, List.setIfInBounds_toArray, List.set_cons_zero, List.set_cons_succ]
  refine takeL (i := 29) (v := ?_) rfl (by kernel_rfl) (by kernel_rfl) (by kernel_rfl) (by kernel_rfl) (by kernel_rfl) (fun _ _ _ h => h) (Or.inl ⟨by rfl, ?_⟩) (by assumption) ?_
  rotate_left
  · (intro w' hSw; (try dsimp only at hSw); go_simp; with_reducible rfl)
  try simp only [Act.put, List.setIfInBounds_toArray, List.set_cons_zero, List.set_cons_succ]
  refine takeL (i := 30) (v := ?_) rfl (by kernel_rfl) (by kernel_rfl) (by kernel_rfl) (by kernel_rfl) (by kernel_rfl) (fun _ _ _ h => h) (Or.inl ⟨by rfl, ?_⟩) (by assumption) ?_
  rotate_left
  · (intro w' hSw; (try dsimp only at hSw); go_simp; with_reducible rfl)
  try simp only [Act.put, List.setIfInBounds_toArray, List.set_cons_zero, List.set_cons_succ]
  refine takeL (i := 31) (v := ?_) rfl (by kernel_rfl) (by kernel_rfl) (by kernel_rfl) (by kernel_rfl) (by kernel_rfl) (fun _ _ _ h => h) (Or.inl ⟨by rfl, ?_⟩) (by assumption) ?_
  rotate_left
  · (intro w' hSw; (try dsimp only at hSw); go_simp; with_reducible rfl)
  try simp only [Act.put, List.setIfInBounds_toArray, List.set_cons_zero, List.set_cons_succ]
  refine takeL (i := 32) (v := ?_) rfl (by kernel_rfl) (by kernel_rfl) (by kernel_rfl) (by kernel_rfl) (by kernel_rfl) (fun _ _ _ h => h) (Or.inl ⟨by rfl, ?_⟩) (by assumption) ?_
  rotate_left
  · (intro w' hSw; (try dsimp only at hSw); go_simp; with_reducible rfl)
  try simp only [Act.put, List.setIfInBounds_toArray, List.set_cons_zero, List.set_cons_succ]
  refine takeL (i := 33) (v := ?_) rfl (by kernel_rfl) (by kernel_rfl) (by kernel_rfl) (by kernel_rfl) (by kernel_rfl) (fun _ _ _ h => h) (Or.inl ⟨by rfl, ?_⟩) (by assumption) ?_
  rotate_left
  · (intro w' hSw; (try dsimp only at hSw); go_simp; with_reducible rfl)
  try simp only [Act.put, List.setIfInBounds_toArray, List.set_cons_zero, List.set_cons_succ]
  refine takeL (i := 34) (v := ?_) rfl (by kernel_rfl) (by kernel_rfl) (by kernel_rfl) (by kernel_rfl) (by kernel_rfl) (fun _ _ _ h => h) (Or.inl ⟨by rfl, ?_⟩) (by assumption) ?_
  rotate_left
  · (intro w' hSw; (try dsimp only at hSw); go_simp; with_reducible rfl)
  try simp only [Act.put, List.setIfInBounds_toArray, List.set_cons_zero, List.set_cons_succ]
  refine takeL (i := 35) (v := ?_) rfl (by kernel_rfl) (by kernel_rfl) (by kernel_rfl) (by kernel_rfl) (by kernel_rfl) (fun _ _ _ h => h) (Or.inl ⟨by rfl, ?_⟩) (by assumption) ?_
  rotate_left
  · (intro w' hSw; (try dsimp only at hSw); go_simp; with_reducible rfl)
  try simp only [Act.put, List.setIfInBounds_toArray, List.set_cons_zero, List.set_cons_succ]
  refine takeL (i := 37) (v := ?_) rfl (by kernel_rfl) (by kernel_rfl) (by kernel_rfl) (by kernel_rfl) (by kernel_rfl) (fun _ _ _ h => h) (Or.inl ⟨by rfl, ?_⟩) (by assumption) ?_
  rotate_left
  · (intro w' hSw; (try dsimp only at hSw); go_simp; with_reducible rfl)
  try simp only [Act.put, List.setIfInBounds_toArray, List.set_cons_zero, List.set_cons_succ]
  refine takeL (i := 38) (v := ?_) rfl (by kernel_rfl) (by kernel_rfl) (by kernel_rfl) (by kernel_rfl) (by kernel_rfl) (fun _ _ _ h => h) (Or.inl ⟨by rfl, ?_⟩) (by assumption) ?_
  rotate_left
  · (intro w' hSw; (try dsimp only at hSw); go_simp; with_reducible rfl)
  try simp only [Act.put, List.setIfInBounds_toArray, List.set_cons_zero, List.set_cons_succ]
  refine oneL (i := 36) (by kernel_rfl) rfl (fun K hK => ?_)
  go_simp
  clear hS
  refine (K11.out _ R_16.out B_16.out).mono ?_
  rintro e w17 ⟨rfl, hb⟩
  have B_17 := Lib.hid (B_16.out.trans (hb.mono B_16.out.size))
  have R_17 := Lib.hid (I.on R_16.out hb)
  have C_17 := Lib.hid (C_16.out.below hb C_16.out.lt)
  have E_17 := Lib.hid (E_16.out.below hb E_16.out.lt)
  clear B_16 R_16 C_16 E_16
  clear hb K11
  have c0_17 : w17.cell? ⟨w.heap.size, 0, none⟩ = some (.int .i64 ka) := C_17.out.cell 0
  have c1_17 : w17.cell? ⟨w.heap.size, 1, none⟩ = some (.int .i64 kb) := C_17.out.cell 1
  have c2_17 : w17.cell? ⟨w.heap.size, 2, none⟩ = some (.int .i64 kc) := C_17.out.cell 2
  have c3_17 : w17.cell? ⟨w.heap.size, 3, none⟩ = some (.int .i64 kd) := C_17.out.cell 3
  have c4_17 : w17.cell? ⟨w.heap.size, 4, none⟩ = some (.int .i64 ke) := C_17.out.cell 4
  have c5_17 : w17.cell? ⟨w.heap.size, 5, none⟩ = some (.int .i64 kf) := C_17.out.cell 5
  have c6_17 : w17.cell? ⟨w.heap.size, 6, none⟩ = some (.slice kp kn kq) := C_17.out.cell 6
  have e0_17 : w17.cell? ⟨(w.heap.size + 1), 0, none⟩ = some (.int .i64 ja) := E_17.out.cell 0
  have e1_17 : w17.cell? ⟨(w.heap.size + 1), 1, none⟩ = some (.int .i64 jb) := E_17.out.cell 1
  have e2_17 : w17.cell? ⟨(w.heap.size + 1), 2, none⟩ = some (.int .i64 jc) := E_17.out.cell 2
  have e3_17 : w17.cell? ⟨(w.heap.size + 1), 3, none⟩ = some (.int .i64 jd) := E_17.out.cell 3
  have e4_17 : w17.cell? ⟨(w.heap.size + 1), 4, none⟩ = some (.int .i64 je) := E_17.out.cell 4
  have e5_17 : w17.cell? ⟨(w.heap.size + 1), 5, none⟩ = some (.int .i64 jf) := E_17.out.cell 5
  have e6_17 : w17.cell? ⟨(w.heap.size + 1), 6, none⟩ = some (.slice jp jn jq) := E_17.out.cell 6
  refine hK.out _ _ (fun _ => ⟨c0_17, c1_17, c2_17, c3_17, c4_17, c5_17, c6_17, e0_17, e1_17, e2_17, e3_17, e4_17, e5_17, e6_17⟩) ?_
  clear hK K
  try simp only [Act.put, List.setIfInBounds_toArray, List.set_cons_zero, List.set_cons_succ]
  have hS := And.intro c0_17 (And.intro c1_17 (And.intro c2_17 (And.intro c3_17 (And.intro c4_17 (And.intro c5_17 (And.intro c6_17 (And.intro e0_17 (And.intro e1_17 (And.intro e2_17 (And.intro e3_17 (And.intro e4_17 (And.intro e5_17 (e6_17)))))))))))))
  clear c0_17 c1_17 c2_17 c3_17 c4_17 c5_17 c6_17 e0_17 e1_17 e2_17 e3_17 e4_17 e5_17 e6_17
  refine oneL (i := 39) (by kernel_rfl) rfl (fun K hK => ?_)
  go_simp
  clear hS
  refine (K12.out _ B_17.out).mono ?_
  rintro e w18 ⟨rfl, hb⟩
  have B_18 := Lib.hid (B_17.out.trans (hb.mono B_17.out.size))
  have R_18 := Lib.hid (I.on R_17.out hb)
  have C_18 := Lib.hid (C_17.out.below hb C_17.out.lt)
  have E_18 := Lib.hid (E_17.out.below hb E_17.out.lt)
  clear B_17 R_17 C_17 E_17
  clear hb K12
  have c0_18 : w18.cell? ⟨w.heap.size, 0, none⟩ = some (.int .i64 ka) := C_18.out.cell 0
  have c1_18 : w18.cell? ⟨w.heap.size, 1, none⟩ = some (.int .i64 kb) := C_18.out.cell 1
  have c2_18 : w18.cell? ⟨w.heap.size, 2, none⟩ = some (.int .i64 kc) := C_18.out.cell 2
  have c3_18 : w18.cell? ⟨w.heap.size, 3, none⟩ = some (.int .i64 kd) := C_18.out.cell 3
  have c4_18 : w18.cell? ⟨w.heap.size, 4, none⟩ = some (.int .i64 ke) := C_18.out.cell 4
  have c5_18 : w18.cell? ⟨w.heap.size, 5, none⟩ = some (.int .i64 kf) := C_18.out.cell 5
  have c6_18 : w18.cell? ⟨w.heap.size, 6, none⟩ = some (.slice kp kn kq) := C_18.out.cell 6
  have e0_18 : w18.cell? ⟨(w.heap.size + 1), 0, none⟩ = some (.int .i64 ja) := E_18.out.cell 0
  have e1_18 : w18.cell? ⟨(w.heap.size + 1), 1, none⟩ = some (.int .i64 jb) := E_18.out.cell 1
  have e2_18 : w18.cell? ⟨(w.heap.size + 1), 2, none⟩ = some (.int .i64 jc) := E_18.out.cell 2
  have e3_18 : w18.cell? ⟨(w.heap.size + 1), 3, none⟩ = some (.int .i64 jd) := E_18.out.cell 3
  have e4_18 : w18.cell? ⟨(w.heap.size + 1), 4, none⟩ = some (.int .i64 je) := E_18.out.cell 4
  have e5_18 : w18.cell? ⟨(w.heap.size + 1), 5, none⟩ = some (.int .i64 jf) := E_18.out.cell 5
  have e6_18 : w18.cell? ⟨(w.heap.size + 1), 6, none⟩ = some (.slice jp jn jq) := E_18.out.cell 6
  refine hK.out _ _ (fun _ => ⟨c0_18, c1_18, c2_18, c3_18, c4_18, c5_18, c6_18, e0_18, e1_18, e2_18, e3_18, e4_18, e5_18, e6_18⟩) ?_
  clear hK K
  try simp only [Act.put, List.setIfInBounds_toArray, List.set_cons_zero, List.set_cons_succ]
  have hS := And.intro c0_18 (And.intro c1_18 (And.intro c2_18 (And.intro c3_18 (And.intro c4_18 (And.intro c5_18 (And.intro c6_18 (And.intro e0_18 (And.intro e1_18 (And.intro e2_18 (And.intro e3_18 (And.intro e4_18 (And.intro e5_18 (e6_18)))))))))))))
  clear c0_18 c1_18 c2_18 c3_18 c4_18 c5_18 c6_18 e0_18 e1_18 e2_18 e3_18 e4_18 e5_18 e6_18
  refine takeL (i := 40) (v := ?_) rfl (by kernel_rfl) (by kernel_rfl) (by kernel_rfl) (by kernel_rfl) (by kernel_rfl) (fun _ _ _ h => h) (Or.inl ⟨by rfl, ?_⟩) (by assumption) ?_
  rotate_left
  · (intro w' hSw; (try dsimp only at hSw); go_simp; with_reducible rfl)
  try simp only [Act.put, List.setIfInBounds_toArray, List.set_cons_zero, List.set_cons_succ]
  refine takeL (i := 41) (v := ?_) rfl (by kernel_rfl) (by kernel_rfl) (by kernel_rfl) (by kernel_rfl) (by kernel_rfl) (fun _ _ _ h => h) (Or.inl ⟨by rfl, ?_⟩) (by assumption) ?_
  rotate_left
  · (intro w' hSw; (try dsimp only at hSw); go_simp; with_reducible rfl)
  try simp only [Act.put, List.setIfInBounds_toArray, List.set_cons_zero, List.set_cons_succ]
  refine takeL (i := 42) (v := ?_) rfl (by kernel_rfl) (by kernel_rfl) (by kernel_rfl) (by kernel_rfl) (by kernel_rfl) (fun _ _ _ h => h) (Or.inl ⟨by rfl, ?_⟩) (by assumption) ?_
  rotate_left
  · (intro w' hSw; (try dsimp only at hSw); go_simp; with_reducible rfl)
  try simp only [Act.put, List.setIfInBounds_toArray, List.set_cons_zero, List.set_cons_succ]
  refine doneO (by kernel_rfl) ?_ _
  clear hS
  go_wp2
  go_ret
  exact ⟨rfl, B_18.out⟩
end Cm
end Go.Proofs.YtbahilakfgbgpaaDoor
