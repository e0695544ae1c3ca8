/- Walks over the document's answer of layer 17: a certificate's bytes, a number of bytes. No condition but those written. -/
import Derived.Test.YtklhapekfgcplaaCe1
import Derived.Test.YtklhapekfgcplaaOb4
namespace Go.Proofs.Ytklhapekfgcplaa
open Go.RowKit

namespace Ce
theorem rwrote_below {w wi w' : World} {B g : Nat} {v : Value} {s0 s : Option (List Nat)} (hp : Ob.RW wi B g v s0) (hb : Below B w wi) (h : Ob.RWrote wi B g v s w') : ∃ v', Ob.RW w' B g v' s ∧ Below B w w' := by
  obtain ⟨v', hp', ht, _⟩ := h
  exact ⟨v', hp', ht.below hb (Nat.le_trans hp.1 (Nat.le_of_lt (hp.foot (.inl rfl)).2)) (fun i hi => (hp.foot hi).1)⟩
theorem short_some {l : List Nat} {n : Nat} (h : l.length ≤ n) : Ob.short (some l) n := fun l' e => by
  injection e with e
  rw [← e]
  exact h
theorem rw_new (w : World) : Ob.RW (w.alloc (.cells #[.slice none 0 0, .int .i64 0] 61)) w.heap.size w.heap.size (.slice none 0 0) (some []) :=
  ⟨Nat.le_refl _, Lies.new w 61 _, ⟨rfl, .inl ⟨rfl, rfl⟩⟩, fun x hx => by simp at hx⟩
theorem wnum_eight {l : List Nat} {n : Nat} (hn : n ≤ 4611686018427387904) : Oc.wnum (some l) n 8 = some (l ++ Oc.be 8 n) := by
  rw [Oc.wnum_yes l (Oc.fit_mk (by omega) (by omega) (by simp; omega))]
  rfl
theorem u64_nat {n : Nat} (h : n ≤ 4611686018427387904) : IntKind.u64.wrap (n : Int) = (n : Int) := by
  simp [IntKind.wrap, IntKind.bits, IntKind.signed]
  omega
set_option maxRecDepth 100000 in
set_option maxHeartbeats 8000000 in
theorem r17enc_no (c : Ct) (w : World) (h : rightB c = false) : Calls Try.prog 9 #[cval c] w fun e w' => e = .returned (.tuple #[.slice none 0 0, .int .i64 1]) ∧ Below w.heap.size w w' := by
  have R := Lib.hid (fun W => r17right_any c W)
  rw [h] at R
  obtain ⟨ka, kb, kc, kd, ke, kf, kg, kh⟩ := c
  simp only [cval] at R ⊢
  have B0 := Lib.hid (alloc_below w (.cells #[.int .i64 ka, .int .i64 kb, .int .i64 kc, .int .i64 kd, .int .i64 ke, .int .i64 kf, .int .i64 kg, .int .i64 kh] 23))
  have X0 := Lib.hid (Lies.new w 23 #[.int .i64 ka, .int .i64 kb, .int .i64 kc, .int .i64 kd, .int .i64 ke, .int .i64 kf, .int .i64 kg, .int .i64 kh])
  have x0 : (w.alloc (.cells #[.int .i64 ka, .int .i64 kb, .int .i64 kc, .int .i64 kd, .int .i64 ke, .int .i64 kf, .int .i64 kg, .int .i64 kh] 23)).cell? ⟨w.heap.size, 0, none⟩ = some (.int .i64 ka) := X0.out.cell 0
  have x1 : (w.alloc (.cells #[.int .i64 ka, .int .i64 kb, .int .i64 kc, .int .i64 kd, .int .i64 ke, .int .i64 kf, .int .i64 kg, .int .i64 kh] 23)).cell? ⟨w.heap.size, 1, none⟩ = some (.int .i64 kb) := X0.out.cell 1
  have x2 : (w.alloc (.cells #[.int .i64 ka, .int .i64 kb, .int .i64 kc, .int .i64 kd, .int .i64 ke, .int .i64 kf, .int .i64 kg, .int .i64 kh] 23)).cell? ⟨w.heap.size, 2, none⟩ = some (.int .i64 kc) := X0.out.cell 2
  have x3 : (w.alloc (.cells #[.int .i64 ka, .int .i64 kb, .int .i64 kc, .int .i64 kd, .int .i64 ke, .int .i64 kf, .int .i64 kg, .int .i64 kh] 23)).cell? ⟨w.heap.size, 3, none⟩ = some (.int .i64 kd) := X0.out.cell 3
  have x4 : (w.alloc (.cells #[.int .i64 ka, .int .i64 kb, .int .i64 kc, .int .i64 kd, .int .i64 ke, .int .i64 kf, .int .i64 kg, .int .i64 kh] 23)).cell? ⟨w.heap.size, 4, none⟩ = some (.int .i64 ke) := X0.out.cell 4
  have x5 : (w.alloc (.cells #[.int .i64 ka, .int .i64 kb, .int .i64 kc, .int .i64 kd, .int .i64 ke, .int .i64 kf, .int .i64 kg, .int .i64 kh] 23)).cell? ⟨w.heap.size, 5, none⟩ = some (.int .i64 kf) := X0.out.cell 5
  have x6 : (w.alloc (.cells #[.int .i64 ka, .int .i64 kb, .int .i64 kc, .int .i64 kd, .int .i64 ke, .int .i64 kf, .int .i64 kg, .int .i64 kh] 23)).cell? ⟨w.heap.size, 6, none⟩ = some (.int .i64 kg) := X0.out.cell 6
  have x7 : (w.alloc (.cells #[.int .i64 ka, .int .i64 kb, .int .i64 kc, .int .i64 kd, .int .i64 ke, .int .i64 kf, .int .i64 kg, .int .i64 kh] 23)).cell? ⟨w.heap.size, 7, none⟩ = some (.int .i64 kh) := X0.out.cell 7
  clear h X0
  go_enter Try.func9, Try.ntmps9
  go_wp2_with fail
  refine (R.out _).mono ?_
  rintro e w1 ⟨rfl, hb⟩
  have B1 := Lib.hid (B0.out.trans (hb.mono B0.out.size))
  clear hb B0 R x0 x1 x2 x3 x4 x5 x6 x7
  go_wp2
  go_ret2
  exact ⟨rfl, B1.out⟩
set_option maxRecDepth 100000 in
set_option maxHeartbeats 8000000 in
theorem r17enc_yes (c : Ct) (w : World) (h : rightB c = true) : Calls Try.prog 9 #[cval c] w fun e w' => ∃ q d, e = .returned (.tuple #[.slice q 66 d, .int .i64 0]) ∧ 66 ≤ d ∧ At w' q 66 (Ck.tight (raw c)) ∧ Below w.heap.size w w' := by
  have R := Lib.hid (fun W => r17right_any c W)
  rw [h] at R
  have hr := right_iff.1 h
  obtain ⟨ka, kb, kc, kd, ke, kf, kg, kh⟩ := c
  have h0 := hr ka (by simp [fld])
  have h1 := hr kb (by simp [fld])
  have h2 := hr kc (by simp [fld])
  have h3 := hr kd (by simp [fld])
  have h4 := hr ke (by simp [fld])
  have h5 := hr kf (by simp [fld])
  have h6 := hr kg (by simp [fld])
  have h7 := hr kh (by simp [fld])
  obtain ⟨ka, rfl⟩ : ∃ n : Nat, ka = n := ⟨ka.toNat, by omega⟩
  obtain ⟨kb, rfl⟩ : ∃ n : Nat, kb = n := ⟨kb.toNat, by omega⟩
  obtain ⟨kc, rfl⟩ : ∃ n : Nat, kc = n := ⟨kc.toNat, by omega⟩
  obtain ⟨kd, rfl⟩ : ∃ n : Nat, kd = n := ⟨kd.toNat, by omega⟩
  obtain ⟨ke, rfl⟩ : ∃ n : Nat, ke = n := ⟨ke.toNat, by omega⟩
  obtain ⟨kf, rfl⟩ : ∃ n : Nat, kf = n := ⟨kf.toNat, by omega⟩
  obtain ⟨kg, rfl⟩ : ∃ n : Nat, kg = n := ⟨kg.toNat, by omega⟩
  obtain ⟨kh, rfl⟩ : ∃ n : Nat, kh = n := ⟨kh.toNat, by omega⟩
  have U0 := Lib.hid (u64_nat (n := ka) (by omega))
  have N0 := Lib.hid (fun l => wnum_eight (l := l) (n := ka) (by omega))
  have L0 := Lib.hid (show ka < 18446744073709551616 by omega)
  have U1 := Lib.hid (u64_nat (n := kb) (by omega))
  have N1 := Lib.hid (fun l => wnum_eight (l := l) (n := kb) (by omega))
  have L1 := Lib.hid (show kb < 18446744073709551616 by omega)
  have U2 := Lib.hid (u64_nat (n := kc) (by omega))
  have N2 := Lib.hid (fun l => wnum_eight (l := l) (n := kc) (by omega))
  have L2 := Lib.hid (show kc < 18446744073709551616 by omega)
  have U3 := Lib.hid (u64_nat (n := kd) (by omega))
  have N3 := Lib.hid (fun l => wnum_eight (l := l) (n := kd) (by omega))
  have L3 := Lib.hid (show kd < 18446744073709551616 by omega)
  have U4 := Lib.hid (u64_nat (n := ke) (by omega))
  have N4 := Lib.hid (fun l => wnum_eight (l := l) (n := ke) (by omega))
  have L4 := Lib.hid (show ke < 18446744073709551616 by omega)
  have U5 := Lib.hid (u64_nat (n := kf) (by omega))
  have N5 := Lib.hid (fun l => wnum_eight (l := l) (n := kf) (by omega))
  have L5 := Lib.hid (show kf < 18446744073709551616 by omega)
  have U6 := Lib.hid (u64_nat (n := kg) (by omega))
  have N6 := Lib.hid (fun l => wnum_eight (l := l) (n := kg) (by omega))
  have L6 := Lib.hid (show kg < 18446744073709551616 by omega)
  have U7 := Lib.hid (u64_nat (n := kh) (by omega))
  have N7 := Lib.hid (fun l => wnum_eight (l := l) (n := kh) (by omega))
  have L7 := Lib.hid (show kh < 18446744073709551616 by omega)
  have HR := Lib.hid (show raw ⟨(ka : Nat), (kb : Nat), (kc : Nat), (kd : Nat), (ke : Nat), (kf : Nat), (kg : Nat), (kh : Nat)⟩ = [] ++ Oc.be 8 ka ++ Oc.be 8 kb ++ Oc.be 8 kc ++ Oc.be 8 kd ++ Oc.be 8 ke ++ Oc.be 8 kf ++ Oc.be 8 kg ++ Oc.be 8 kh by simp [raw, fld])
  have RL := Lib.hid (raw_length ⟨(ka : Nat), (kb : Nat), (kc : Nat), (kd : Nat), (ke : Nat), (kf : Nat), (kg : Nat), (kh : Nat)⟩)
  simp only [cval] at R ⊢
  have B0 := Lib.hid (alloc_below w (.cells #[.int .i64 (ka : Nat), .int .i64 (kb : Nat), .int .i64 (kc : Nat), .int .i64 (kd : Nat), .int .i64 (ke : Nat), .int .i64 (kf : Nat), .int .i64 (kg : Nat), .int .i64 (kh : Nat)] 23))
  have X0 := Lib.hid (Lies.new w 23 #[.int .i64 (ka : Nat), .int .i64 (kb : Nat), .int .i64 (kc : Nat), .int .i64 (kd : Nat), .int .i64 (ke : Nat), .int .i64 (kf : Nat), .int .i64 (kg : Nat), .int .i64 (kh : Nat)])
  have x0 : (w.alloc (.cells #[.int .i64 (ka : Nat), .int .i64 (kb : Nat), .int .i64 (kc : Nat), .int .i64 (kd : Nat), .int .i64 (ke : Nat), .int .i64 (kf : Nat), .int .i64 (kg : Nat), .int .i64 (kh : Nat)] 23)).cell? ⟨w.heap.size, 0, none⟩ = some (.int .i64 (ka : Nat)) := X0.out.cell 0
  have x1 : (w.alloc (.cells #[.int .i64 (ka : Nat), .int .i64 (kb : Nat), .int .i64 (kc : Nat), .int .i64 (kd : Nat), .int .i64 (ke : Nat), .int .i64 (kf : Nat), .int .i64 (kg : Nat), .int .i64 (kh : Nat)] 23)).cell? ⟨w.heap.size, 1, none⟩ = some (.int .i64 (kb : Nat)) := X0.out.cell 1
  have x2 : (w.alloc (.cells #[.int .i64 (ka : Nat), .int .i64 (kb : Nat), .int .i64 (kc : Nat), .int .i64 (kd : Nat), .int .i64 (ke : Nat), .int .i64 (kf : Nat), .int .i64 (kg : Nat), .int .i64 (kh : Nat)] 23)).cell? ⟨w.heap.size, 2, none⟩ = some (.int .i64 (kc : Nat)) := X0.out.cell 2
  have x3 : (w.alloc (.cells #[.int .i64 (ka : Nat), .int .i64 (kb : Nat), .int .i64 (kc : Nat), .int .i64 (kd : Nat), .int .i64 (ke : Nat), .int .i64 (kf : Nat), .int .i64 (kg : Nat), .int .i64 (kh : Nat)] 23)).cell? ⟨w.heap.size, 3, none⟩ = some (.int .i64 (kd : Nat)) := X0.out.cell 3
  have x4 : (w.alloc (.cells #[.int .i64 (ka : Nat), .int .i64 (kb : Nat), .int .i64 (kc : Nat), .int .i64 (kd : Nat), .int .i64 (ke : Nat), .int .i64 (kf : Nat), .int .i64 (kg : Nat), .int .i64 (kh : Nat)] 23)).cell? ⟨w.heap.size, 4, none⟩ = some (.int .i64 (ke : Nat)) := X0.out.cell 4
  have x5 : (w.alloc (.cells #[.int .i64 (ka : Nat), .int .i64 (kb : Nat), .int .i64 (kc : Nat), .int .i64 (kd : Nat), .int .i64 (ke : Nat), .int .i64 (kf : Nat), .int .i64 (kg : Nat), .int .i64 (kh : Nat)] 23)).cell? ⟨w.heap.size, 5, none⟩ = some (.int .i64 (kf : Nat)) := X0.out.cell 5
  have x6 : (w.alloc (.cells #[.int .i64 (ka : Nat), .int .i64 (kb : Nat), .int .i64 (kc : Nat), .int .i64 (kd : Nat), .int .i64 (ke : Nat), .int .i64 (kf : Nat), .int .i64 (kg : Nat), .int .i64 (kh : Nat)] 23)).cell? ⟨w.heap.size, 6, none⟩ = some (.int .i64 (kg : Nat)) := X0.out.cell 6
  have x7 : (w.alloc (.cells #[.int .i64 (ka : Nat), .int .i64 (kb : Nat), .int .i64 (kc : Nat), .int .i64 (kd : Nat), .int .i64 (ke : Nat), .int .i64 (kf : Nat), .int .i64 (kg : Nat), .int .i64 (kh : Nat)] 23)).cell? ⟨w.heap.size, 7, none⟩ = some (.int .i64 (kh : Nat)) := X0.out.cell 7
  clear h hr h0 h1 h2 h3 h4 h5 h6 h7
  go_enter Try.func9, Try.ntmps9
  go_wp2_with fail
  refine (R.out _).mono ?_
  rintro e w1 ⟨rfl, hb⟩
  have B1 := Lib.hid (B0.out.trans (hb.mono B0.out.size))
  have X1 := Lib.hid (X0.out.below hb X0.out.lt)
  clear hb B0 X0 R x0 x1 x2 x3 x4 x5 x6 x7
  have P2 := Lib.hid (rw_new w1)
  have C2 := Lib.hid (alloc_below w1 (.cells #[.slice none 0 0, .int .i64 0] 61))
  have x0 : (w1.alloc (.cells #[.slice none 0 0, .int .i64 0] 61)).cell? ⟨w.heap.size, 0, none⟩ = some (.int .i64 (ka : Nat)) := (X1.out.below C2.out X1.out.lt).cell 0
  go_wp2_with fail
  refine (Ob.rint_any _ _ _ _ (ka : Nat) ka _ P2.out U0.out L0.out (short_some (by simp))).mono ?_
  rintro e w3 ⟨rfl, hw⟩
  rw [N0.out] at hw
  obtain ⟨v3, p3, c3⟩ := rwrote_below P2.out C2.out hw
  have P3 := Lib.hid p3
  have C3 := Lib.hid c3
  clear x0 hw p3 c3 P2 C2 N0 U0 L0
  have x1 : w3.cell? ⟨w.heap.size, 1, none⟩ = some (.int .i64 (kb : Nat)) := (X1.out.below C3.out X1.out.lt).cell 1
  go_wp2_with fail
  refine (Ob.rint_any _ _ _ _ (kb : Nat) kb _ P3.out U1.out L1.out (short_some (by simp [Oc.be_length]))).mono ?_
  rintro e w4 ⟨rfl, hw⟩
  rw [N1.out] at hw
  obtain ⟨v4, p4, c4⟩ := rwrote_below P3.out C3.out hw
  have P4 := Lib.hid p4
  have C4 := Lib.hid c4
  clear x1 hw p4 c4 P3 C3 N1 U1 L1
  have x2 : w4.cell? ⟨w.heap.size, 2, none⟩ = some (.int .i64 (kc : Nat)) := (X1.out.below C4.out X1.out.lt).cell 2
  go_wp2_with fail
  refine (Ob.rint_any _ _ _ _ (kc : Nat) kc _ P4.out U2.out L2.out (short_some (by simp [Oc.be_length]))).mono ?_
  rintro e w5 ⟨rfl, hw⟩
  rw [N2.out] at hw
  obtain ⟨v5, p5, c5⟩ := rwrote_below P4.out C4.out hw
  have P5 := Lib.hid p5
  have C5 := Lib.hid c5
  clear x2 hw p5 c5 P4 C4 N2 U2 L2
  have x3 : w5.cell? ⟨w.heap.size, 3, none⟩ = some (.int .i64 (kd : Nat)) := (X1.out.below C5.out X1.out.lt).cell 3
  go_wp2_with fail
  refine (Ob.rint_any _ _ _ _ (kd : Nat) kd _ P5.out U3.out L3.out (short_some (by simp [Oc.be_length]))).mono ?_
  rintro e w6 ⟨rfl, hw⟩
  rw [N3.out] at hw
  obtain ⟨v6, p6, c6⟩ := rwrote_below P5.out C5.out hw
  have P6 := Lib.hid p6
  have C6 := Lib.hid c6
  clear x3 hw p6 c6 P5 C5 N3 U3 L3
  have x4 : w6.cell? ⟨w.heap.size, 4, none⟩ = some (.int .i64 (ke : Nat)) := (X1.out.below C6.out X1.out.lt).cell 4
  go_wp2_with fail
  refine (Ob.rint_any _ _ _ _ (ke : Nat) ke _ P6.out U4.out L4.out (short_some (by simp [Oc.be_length]))).mono ?_
  rintro e w7 ⟨rfl, hw⟩
  rw [N4.out] at hw
  obtain ⟨v7, p7, c7⟩ := rwrote_below P6.out C6.out hw
  have P7 := Lib.hid p7
  have C7 := Lib.hid c7
  clear x4 hw p7 c7 P6 C6 N4 U4 L4
  have x5 : w7.cell? ⟨w.heap.size, 5, none⟩ = some (.int .i64 (kf : Nat)) := (X1.out.below C7.out X1.out.lt).cell 5
  go_wp2_with fail
  refine (Ob.rint_any _ _ _ _ (kf : Nat) kf _ P7.out U5.out L5.out (short_some (by simp [Oc.be_length]))).mono ?_
  rintro e w8 ⟨rfl, hw⟩
  rw [N5.out] at hw
  obtain ⟨v8, p8, c8⟩ := rwrote_below P7.out C7.out hw
  have P8 := Lib.hid p8
  have C8 := Lib.hid c8
  clear x5 hw p8 c8 P7 C7 N5 U5 L5
  have x6 : w8.cell? ⟨w.heap.size, 6, none⟩ = some (.int .i64 (kg : Nat)) := (X1.out.below C8.out X1.out.lt).cell 6
  go_wp2_with fail
  refine (Ob.rint_any _ _ _ _ (kg : Nat) kg _ P8.out U6.out L6.out (short_some (by simp [Oc.be_length]))).mono ?_
  rintro e w9 ⟨rfl, hw⟩
  rw [N6.out] at hw
  obtain ⟨v9, p9, c9⟩ := rwrote_below P8.out C8.out hw
  have P9 := Lib.hid p9
  have C9 := Lib.hid c9
  clear x6 hw p9 c9 P8 C8 N6 U6 L6
  have x7 : w9.cell? ⟨w.heap.size, 7, none⟩ = some (.int .i64 (kh : Nat)) := (X1.out.below C9.out X1.out.lt).cell 7
  go_wp2_with fail
  refine (Ob.rint_any _ _ _ _ (kh : Nat) kh _ P9.out U7.out L7.out (short_some (by simp [Oc.be_length]))).mono ?_
  rintro e w10 ⟨rfl, hw⟩
  rw [N7.out] at hw
  obtain ⟨v10, p10, c10⟩ := rwrote_below P9.out C9.out hw
  rw [← HR.out] at p10
  obtain ⟨hB7, hl7, ho7, hx7⟩ := p10
  have cv : w10.cell? ⟨w1.heap.size, 0, none⟩ = some v10 := hl7.cell 0
  obtain ⟨q7, d7, rfl, hd7, hA7⟩ := at_own rfl hx7 ho7
  rw [RL.out] at hA7 cv
  have S := Lib.hid (Ck.rseal_any q7 _ d7 _ w10 (by decide) hA7)
  have C10 := Lib.hid c10
  clear x7 hw c10 P9 C9 hB7 hl7 ho7 hx7 hA7 N7 U7 L7
  go_wp2_with fail
  refine S.out.mono ?_
  rintro e w11 ⟨q8, d8, rfl, hd8, hA8, hb8⟩
  have A8 := Lib.hid hA8
  have B8 := Lib.hid ((B1.out.trans (C10.out.mono B1.out.size)).trans (hb8.mono (Nat.le_trans B1.out.size C10.out.size)))
  clear hA8 hb8
  go_wp2
  go_ret2
  exact ⟨q8, d8, rfl, hd8, A8.out, B8.out⟩
end Ce
end Go.Proofs.Ytklhapekfgcplaa
