/- An act of layer 12's law. Condition: the contracts of packages master and stock. -/
import Derived.Test.YtkfmkchonlajpaaGreatQ07
import Derived.WalkMore
namespace Go.Proofs.YtkfmkchonlajpaaGreat
open Go.RowKit

namespace Lo
/-- What an act says, and leaves. -/
noncomputable def actS (Z : List Ms.Zn) (P : List Ms.Pd) (s : Stk) (r a b c d now : Int) : Say × Stk :=
  if r = 2 ∨ r = 3 then ((0, (moveS Z s a b now).1), (moveS Z s a b now).2) else if r = 4 then splitS s a b else if r = 5 then ((0, (mergeS s a b).1), (mergeS s a b).2)
  else if r = 6 then ((0, (markS s a b c d).1), (markS s a b c d).2) else if r = 7 then ((0, (leaveS s a now).1), (leaveS s a now).2) else recvS Z P s a b c d now
section
variable {M : Ms.Face} {I : Face M} {X : Nat → Prop} {base : Nat} {w W : World} {h hm g gm : Nat} {s s2 : Stk} {m m2 : Nat} {Z : List Ms.Zn} {P : List Ms.Pd}
theorem four_lt (p : Four I X base w W h hm g gm s s2 m m2 Z P) : ∀ k, X k → k < W.heap.size := by
  obtain ⟨bs, bm, Bg, Bm, F, Fm, v, vz, vp, l, q⟩ := p
  exact fun k hk => (q.fx k hk).1
theorem still_trans {a b c : World} (h1 : Still X a b) (h2 : Still X b c) : Still X a c := by
  obtain ⟨T1, t1, k1⟩ := h1
  obtain ⟨T2, t2, k2⟩ := h2
  exact ⟨fun i => T1 i ∨ T2 i, (t1.mono (fun i _ hi => .inl hi)).trans t2 (fun i hi => .inl (.inr hi)), fun k hk e => e.elim (k1 k hk) (k2 k hk)⟩
theorem still_below {a b : World} (hb : Below a.heap.size a b) : Still X a b := ⟨fun _ => False, Turn.of_below hb, fun _ _ e => e⟩
theorem still_less {a b : World} {Y : Nat → Prop} (h : Still Y a b) (hY : ∀ k, X k → Y k) : Still X a b := by
  obtain ⟨T, t, k⟩ := h
  exact ⟨T, t, fun i hi => k i (hY i hi)⟩
theorem four_mono (p : Four I X base w W h hm g gm s s2 m m2 Z P) {k k2 : Nat} (h1 : m ≤ k) (h2 : m2 ≤ k2) : Four I X base w W h hm g gm s s2 k k2 Z P := by
  obtain ⟨bs, bm, Bg, Bm, F, Fm, v, vz, vp, l, q⟩ := p
  exact ⟨bs, bm, Bg, Bm, F, Fm, v, vz, vp, l, ⟨q.pk.st, q.pk.ms, q.pk.apart, q.pk.good.mono h1, q.pk.gz, q.pk.gp, q.pk.lz, q.pk.lp, q.pk.below, q.pk.size, q.pk.low⟩, q.rm, q.rs, q.eq, q.good2.mono h2, q.fa, q.fb, q.fc, q.low2, q.fx⟩
set_option maxRecDepth 100000 in
set_option maxHeartbeats 16000000 in
theorem do_0 (p : Four I X base w W h hm g gm s s2 m m2 Z P) (kd a b c d on now : Int) (hk0 : 0 ≤ kd) (hr : kd % 8 = 0) (hI : Hid (m + 1 < 100000 ∧ I64 a ∧ I64 b ∧ I64 c ∧ I64 d ∧ I64 now)) :
    Calls Tryz.prog 7 #[.pointer (some ⟨h, 0, none⟩), .pointer (some ⟨hm, 0, none⟩), .agg #[.int .u8 kd, .int .i64 a, .int .i64 b, .int .i64 c, .int .i64 d, .int .u8 on], .int .i64 now] W fun e w' =>
      e = .returned (.agg #[.int .i64 (actS Z P s (kd % 8) a b c d now).1.1, .int .i64 ((actS Z P s (kd % 8) a b c d now).1.2 : Nat)]) ∧ Four I X base w w' h hm g gm (actS Z P s (kd % 8) a b c d now).2 s2 (m + 2) m2 Z P ∧ Still X W w' := by
  have HV : Hid (actS Z P s (kd % 8) a b c d now = recvS Z P s a b c d now) := Lib.hid (by unfold actS; rw [hr]; rfl)
  generalize actS Z P s (kd % 8) a b c d now = R at *
  have t8 : kd.tmod 8 = 0 := by rw [Int.tmod_eq_emod_of_nonneg hk0]; exact hr
  obtain ⟨W1, hW1⟩ : ∃ W1, W.alloc (.cells #[.int .u8 kd, .int .i64 a, .int .i64 b, .int .i64 c, .int .i64 d, .int .u8 on] 39) = W1 := ⟨_, rfl⟩
  have b1 : Below W.heap.size W W1 := by rw [← hW1]; exact alloc_below W _
  have X6 : Lies W1 W.heap.size 39 #[.int .u8 kd, .int .i64 a, .int .i64 b, .int .i64 c, .int .i64 d, .int .u8 on] := by rw [← hW1]; exact Lies.new W _ _
  obtain ⟨W2, hW2⟩ : ∃ W2, W1.alloc (.cells #[.int .i64 0, .int .i64 0] 42) = W2 := ⟨_, rfl⟩
  have b2 : Below W1.heap.size W1 W2 := by rw [← hW2]; exact alloc_below W1 _
  have X7 := Lib.hid (X6.below b2 X6.lt)
  have X8 : Hid (Lies W2 W1.heap.size 42 #[.int .i64 0, .int .i64 0]) := Lib.hid (by rw [← hW2]; exact Lies.new W1 _ _)
  have p2 := Lib.hid (four_more (four_keep p b1) b2 (Nat.le_refl _) X8.out.lt)
  have B2 := Lib.hid (b1.trans (b2.mono b1.size))
  have k0 : W2.cell? ⟨W.heap.size, 0, none⟩ = some (.int .u8 kd) := X7.out.cell 0
  have k1 : W2.cell? ⟨W.heap.size, 1, none⟩ = some (.int .i64 a) := X7.out.cell 1
  have k2 : W2.cell? ⟨W.heap.size, 2, none⟩ = some (.int .i64 b) := X7.out.cell 2
  have k3 : W2.cell? ⟨W.heap.size, 3, none⟩ = some (.int .i64 c) := X7.out.cell 3
  have k4 : W2.cell? ⟨W.heap.size, 4, none⟩ = some (.int .i64 d) := X7.out.cell 4
  have HB1 := Lib.hid b1
  have HX := Lib.hid (four_lt p)
  clear b1 b2 X6 p
  go_enter Tryz.func7, Tryz.ntmps7
  go_wp2_with fail
  refine (four_recv1 p2.out (by have := hI.out.1; omega) hI.out.2.1 hI.out.2.2.1 hI.out.2.2.2.1 hI.out.2.2.2.2.1 hI.out.2.2.2.2.2).mono ?_
  rintro e W3 ⟨rfl, p3, st⟩
  have x8 := st.lies (.inr rfl) X8.out
  clear k0 k1 k2 k3 k4
  have f0 : W3.frozen? ⟨W1.heap.size, 0, none⟩ = false := x8.frozen 0
  have f1 : W3.frozen? ⟨W1.heap.size, 1, none⟩ = false := x8.frozen 1
  have c0 : W3.cell? ⟨W1.heap.size, 0, none⟩ = some (.int .i64 0) := x8.cell 0
  have c1 : W3.cell? ⟨W1.heap.size, 1, none⟩ = some (.int .i64 0) := x8.cell 1
  generalize recvS Z P s a b c d now = V at *
  have p4 := Lib.hid (four_free p3 (T := fun k => k = W1.heap.size) (((Turn.refl (fun k => k = W1.heap.size) W3).setCell (p := ⟨W1.heap.size, 0, none⟩) (.inl rfl) (.int .i64 V.1.1)).setCell (p := ⟨W1.heap.size, 1, none⟩) (.inl rfl) (.int .i64 (V.1.2 : Nat))) (fun k hk => .inr hk))
  have s4 : Hid (Still X W ((W3.setCell ⟨W1.heap.size, 0, none⟩ (.int .i64 V.1.1)).setCell ⟨W1.heap.size, 1, none⟩ (.int .i64 (V.1.2 : Nat)))) := Lib.hid (still_trans (still_trans (still_below B2.out) (still_less st (fun k hk => .inl hk))) ⟨fun k => k = W1.heap.size, ((Turn.refl (fun k => k = W1.heap.size) W3).setCell (p := ⟨W1.heap.size, 0, none⟩) (.inl rfl) _).setCell (p := ⟨W1.heap.size, 1, none⟩) (.inl rfl) _, fun k hk e => by
    have h1 := HX.out k hk
    have h2 := HB1.out.size
    omega⟩)
  have x9 : Hid (Lies ((W3.setCell ⟨W1.heap.size, 0, none⟩ (.int .i64 V.1.1)).setCell ⟨W1.heap.size, 1, none⟩ (.int .i64 (V.1.2 : Nat))) W1.heap.size 42 #[.int .i64 V.1.1, .int .i64 (V.1.2 : Nat)]) := Lib.hid (by simpa using (x8.set_ 0 (.int .i64 V.1.1)).set_ 1 (.int .i64 (V.1.2 : Nat)))
  clear p3 st x8
  go_wp2
  obtain ⟨W4, hW4⟩ : ∃ W4, (W3.setCell ⟨W1.heap.size, 0, none⟩ (.int .i64 V.1.1)).setCell ⟨W1.heap.size, 1, none⟩ (.int .i64 (V.1.2 : Nat)) = W4 := ⟨_, rfl⟩
  rw [hW4] at p4 s4 x9 ⊢
  clear hW4 f0 f1 c0 c1
  have r0 : W4.cell? ⟨W1.heap.size, 0, none⟩ = some (.int .i64 V.1.1) := x9.out.cell 0
  have r1 : W4.cell? ⟨W1.heap.size, 1, none⟩ = some (.int .i64 (V.1.2 : Nat)) := x9.out.cell 1
  refine bodyPost_ret (v := .agg #[.int .i64 V.1.1, .int .i64 (V.1.2 : Nat)]) (by simp [results, Tryz.results7, go_sem, r0, r1]) rfl ⟨by rw [HV.out], ?_, s4.out⟩
  rw [HV.out]
  exact four_mono (four_less p4.out (fun k hk => .inl hk)) (by omega) (Nat.le_refl _)
set_option maxRecDepth 100000 in
set_option maxHeartbeats 16000000 in
theorem do_1 (p : Four I X base w W h hm g gm s s2 m m2 Z P) (kd a b c d on now : Int) (hk0 : 0 ≤ kd) (hr : kd % 8 = 1) (hI : Hid (m + 1 < 100000 ∧ I64 a ∧ I64 b ∧ I64 c ∧ I64 d ∧ I64 now)) :
    Calls Tryz.prog 7 #[.pointer (some ⟨h, 0, none⟩), .pointer (some ⟨hm, 0, none⟩), .agg #[.int .u8 kd, .int .i64 a, .int .i64 b, .int .i64 c, .int .i64 d, .int .u8 on], .int .i64 now] W fun e w' =>
      e = .returned (.agg #[.int .i64 (actS Z P s (kd % 8) a b c d now).1.1, .int .i64 ((actS Z P s (kd % 8) a b c d now).1.2 : Nat)]) ∧ Four I X base w w' h hm g gm (actS Z P s (kd % 8) a b c d now).2 s2 (m + 2) m2 Z P ∧ Still X W w' := by
  have HV : Hid (actS Z P s (kd % 8) a b c d now = recvS Z P s a b c d now) := Lib.hid (by unfold actS; rw [hr]; rfl)
  generalize actS Z P s (kd % 8) a b c d now = R at *
  have t8 : kd.tmod 8 = 1 := by rw [Int.tmod_eq_emod_of_nonneg hk0]; exact hr
  obtain ⟨W1, hW1⟩ : ∃ W1, W.alloc (.cells #[.int .u8 kd, .int .i64 a, .int .i64 b, .int .i64 c, .int .i64 d, .int .u8 on] 39) = W1 := ⟨_, rfl⟩
  have b1 : Below W.heap.size W W1 := by rw [← hW1]; exact alloc_below W _
  have X6 : Lies W1 W.heap.size 39 #[.int .u8 kd, .int .i64 a, .int .i64 b, .int .i64 c, .int .i64 d, .int .u8 on] := by rw [← hW1]; exact Lies.new W _ _
  obtain ⟨W2, hW2⟩ : ∃ W2, W1.alloc (.cells #[.int .i64 0, .int .i64 0] 42) = W2 := ⟨_, rfl⟩
  have b2 : Below W1.heap.size W1 W2 := by rw [← hW2]; exact alloc_below W1 _
  have X7 := Lib.hid (X6.below b2 X6.lt)
  have X8 : Hid (Lies W2 W1.heap.size 42 #[.int .i64 0, .int .i64 0]) := Lib.hid (by rw [← hW2]; exact Lies.new W1 _ _)
  have p2 := Lib.hid (four_more (four_keep p b1) b2 (Nat.le_refl _) X8.out.lt)
  have B2 := Lib.hid (b1.trans (b2.mono b1.size))
  have k0 : W2.cell? ⟨W.heap.size, 0, none⟩ = some (.int .u8 kd) := X7.out.cell 0
  have k1 : W2.cell? ⟨W.heap.size, 1, none⟩ = some (.int .i64 a) := X7.out.cell 1
  have k2 : W2.cell? ⟨W.heap.size, 2, none⟩ = some (.int .i64 b) := X7.out.cell 2
  have k3 : W2.cell? ⟨W.heap.size, 3, none⟩ = some (.int .i64 c) := X7.out.cell 3
  have k4 : W2.cell? ⟨W.heap.size, 4, none⟩ = some (.int .i64 d) := X7.out.cell 4
  have HB1 := Lib.hid b1
  have HX := Lib.hid (four_lt p)
  clear b1 b2 X6 p
  go_enter Tryz.func7, Tryz.ntmps7
  go_wp2_with fail
  refine (four_recv1 p2.out (by have := hI.out.1; omega) hI.out.2.1 hI.out.2.2.1 hI.out.2.2.2.1 hI.out.2.2.2.2.1 hI.out.2.2.2.2.2).mono ?_
  rintro e W3 ⟨rfl, p3, st⟩
  have x8 := st.lies (.inr rfl) X8.out
  clear k0 k1 k2 k3 k4
  have f0 : W3.frozen? ⟨W1.heap.size, 0, none⟩ = false := x8.frozen 0
  have f1 : W3.frozen? ⟨W1.heap.size, 1, none⟩ = false := x8.frozen 1
  have c0 : W3.cell? ⟨W1.heap.size, 0, none⟩ = some (.int .i64 0) := x8.cell 0
  have c1 : W3.cell? ⟨W1.heap.size, 1, none⟩ = some (.int .i64 0) := x8.cell 1
  generalize recvS Z P s a b c d now = V at *
  have p4 := Lib.hid (four_free p3 (T := fun k => k = W1.heap.size) (((Turn.refl (fun k => k = W1.heap.size) W3).setCell (p := ⟨W1.heap.size, 0, none⟩) (.inl rfl) (.int .i64 V.1.1)).setCell (p := ⟨W1.heap.size, 1, none⟩) (.inl rfl) (.int .i64 (V.1.2 : Nat))) (fun k hk => .inr hk))
  have s4 : Hid (Still X W ((W3.setCell ⟨W1.heap.size, 0, none⟩ (.int .i64 V.1.1)).setCell ⟨W1.heap.size, 1, none⟩ (.int .i64 (V.1.2 : Nat)))) := Lib.hid (still_trans (still_trans (still_below B2.out) (still_less st (fun k hk => .inl hk))) ⟨fun k => k = W1.heap.size, ((Turn.refl (fun k => k = W1.heap.size) W3).setCell (p := ⟨W1.heap.size, 0, none⟩) (.inl rfl) _).setCell (p := ⟨W1.heap.size, 1, none⟩) (.inl rfl) _, fun k hk e => by
    have h1 := HX.out k hk
    have h2 := HB1.out.size
    omega⟩)
  have x9 : Hid (Lies ((W3.setCell ⟨W1.heap.size, 0, none⟩ (.int .i64 V.1.1)).setCell ⟨W1.heap.size, 1, none⟩ (.int .i64 (V.1.2 : Nat))) W1.heap.size 42 #[.int .i64 V.1.1, .int .i64 (V.1.2 : Nat)]) := Lib.hid (by simpa using (x8.set_ 0 (.int .i64 V.1.1)).set_ 1 (.int .i64 (V.1.2 : Nat)))
  clear p3 st x8
  go_wp2
  obtain ⟨W4, hW4⟩ : ∃ W4, (W3.setCell ⟨W1.heap.size, 0, none⟩ (.int .i64 V.1.1)).setCell ⟨W1.heap.size, 1, none⟩ (.int .i64 (V.1.2 : Nat)) = W4 := ⟨_, rfl⟩
  rw [hW4] at p4 s4 x9 ⊢
  clear hW4 f0 f1 c0 c1
  have r0 : W4.cell? ⟨W1.heap.size, 0, none⟩ = some (.int .i64 V.1.1) := x9.out.cell 0
  have r1 : W4.cell? ⟨W1.heap.size, 1, none⟩ = some (.int .i64 (V.1.2 : Nat)) := x9.out.cell 1
  refine bodyPost_ret (v := .agg #[.int .i64 V.1.1, .int .i64 (V.1.2 : Nat)]) (by simp [results, Tryz.results7, go_sem, r0, r1]) rfl ⟨by rw [HV.out], ?_, s4.out⟩
  rw [HV.out]
  exact four_mono (four_less p4.out (fun k hk => .inl hk)) (by omega) (Nat.le_refl _)
set_option maxRecDepth 100000 in
set_option maxHeartbeats 16000000 in
theorem do_2 (p : Four I X base w W h hm g gm s s2 m m2 Z P) (kd a b c d on now : Int) (hk0 : 0 ≤ kd) (hr : kd % 8 = 2) (hI : Hid (m + 1 < 100000 ∧ I64 a ∧ I64 b ∧ I64 c ∧ I64 d ∧ I64 now)) :
    Calls Tryz.prog 7 #[.pointer (some ⟨h, 0, none⟩), .pointer (some ⟨hm, 0, none⟩), .agg #[.int .u8 kd, .int .i64 a, .int .i64 b, .int .i64 c, .int .i64 d, .int .u8 on], .int .i64 now] W fun e w' =>
      e = .returned (.agg #[.int .i64 (actS Z P s (kd % 8) a b c d now).1.1, .int .i64 ((actS Z P s (kd % 8) a b c d now).1.2 : Nat)]) ∧ Four I X base w w' h hm g gm (actS Z P s (kd % 8) a b c d now).2 s2 (m + 2) m2 Z P ∧ Still X W w' := by
  have HV : Hid (actS Z P s (kd % 8) a b c d now = ((0, (moveS Z s a b now).1), (moveS Z s a b now).2)) := Lib.hid (by unfold actS; rw [hr]; rfl)
  generalize actS Z P s (kd % 8) a b c d now = R at *
  have t8 : kd.tmod 8 = 2 := by rw [Int.tmod_eq_emod_of_nonneg hk0]; exact hr
  obtain ⟨W1, hW1⟩ : ∃ W1, W.alloc (.cells #[.int .u8 kd, .int .i64 a, .int .i64 b, .int .i64 c, .int .i64 d, .int .u8 on] 39) = W1 := ⟨_, rfl⟩
  have b1 : Below W.heap.size W W1 := by rw [← hW1]; exact alloc_below W _
  have X6 : Lies W1 W.heap.size 39 #[.int .u8 kd, .int .i64 a, .int .i64 b, .int .i64 c, .int .i64 d, .int .u8 on] := by rw [← hW1]; exact Lies.new W _ _
  obtain ⟨W2, hW2⟩ : ∃ W2, W1.alloc (.cells #[.int .i64 0, .int .i64 0] 42) = W2 := ⟨_, rfl⟩
  have b2 : Below W1.heap.size W1 W2 := by rw [← hW2]; exact alloc_below W1 _
  have X7 := Lib.hid (X6.below b2 X6.lt)
  have X8 : Hid (Lies W2 W1.heap.size 42 #[.int .i64 0, .int .i64 0]) := Lib.hid (by rw [← hW2]; exact Lies.new W1 _ _)
  have p2 := Lib.hid (four_more (four_keep p b1) b2 (Nat.le_refl _) X8.out.lt)
  have B2 := Lib.hid (b1.trans (b2.mono b1.size))
  have k0 : W2.cell? ⟨W.heap.size, 0, none⟩ = some (.int .u8 kd) := X7.out.cell 0
  have k1 : W2.cell? ⟨W.heap.size, 1, none⟩ = some (.int .i64 a) := X7.out.cell 1
  have k2 : W2.cell? ⟨W.heap.size, 2, none⟩ = some (.int .i64 b) := X7.out.cell 2
  have k3 : W2.cell? ⟨W.heap.size, 3, none⟩ = some (.int .i64 c) := X7.out.cell 3
  have k4 : W2.cell? ⟨W.heap.size, 4, none⟩ = some (.int .i64 d) := X7.out.cell 4
  have HB1 := Lib.hid b1
  have HX := Lib.hid (four_lt p)
  clear b1 b2 X6 p
  go_enter Tryz.func7, Tryz.ntmps7
  go_wp2_with fail
  refine (four_move1 p2.out (by have := hI.out.1; omega) hI.out.2.1 hI.out.2.2.1 hI.out.2.2.2.2.2).mono ?_
  rintro e W3 ⟨rfl, p3, st⟩
  have x8 := st.lies (.inr rfl) X8.out
  clear k0 k1 k2 k3 k4
  have f0 : W3.frozen? ⟨W1.heap.size, 0, none⟩ = false := x8.frozen 0
  have f1 : W3.frozen? ⟨W1.heap.size, 1, none⟩ = false := x8.frozen 1
  have c0 : W3.cell? ⟨W1.heap.size, 0, none⟩ = some (.int .i64 0) := x8.cell 0
  have c1 : W3.cell? ⟨W1.heap.size, 1, none⟩ = some (.int .i64 0) := x8.cell 1
  generalize moveS Z s a b now = V at *
  have p4 := Lib.hid (four_free p3 (T := fun k => k = W1.heap.size) (((Turn.refl (fun k => k = W1.heap.size) W3).setCell (p := ⟨W1.heap.size, 0, none⟩) (.inl rfl) (.int .i64 0)).setCell (p := ⟨W1.heap.size, 1, none⟩) (.inl rfl) (.int .i64 (V.1 : Nat))) (fun k hk => .inr hk))
  have s4 : Hid (Still X W ((W3.setCell ⟨W1.heap.size, 0, none⟩ (.int .i64 0)).setCell ⟨W1.heap.size, 1, none⟩ (.int .i64 (V.1 : Nat)))) := Lib.hid (still_trans (still_trans (still_below B2.out) (still_less st (fun k hk => .inl hk))) ⟨fun k => k = W1.heap.size, ((Turn.refl (fun k => k = W1.heap.size) W3).setCell (p := ⟨W1.heap.size, 0, none⟩) (.inl rfl) _).setCell (p := ⟨W1.heap.size, 1, none⟩) (.inl rfl) _, fun k hk e => by
    have h1 := HX.out k hk
    have h2 := HB1.out.size
    omega⟩)
  have x9 : Hid (Lies ((W3.setCell ⟨W1.heap.size, 0, none⟩ (.int .i64 0)).setCell ⟨W1.heap.size, 1, none⟩ (.int .i64 (V.1 : Nat))) W1.heap.size 42 #[.int .i64 0, .int .i64 (V.1 : Nat)]) := Lib.hid (by simpa using (x8.set_ 0 (.int .i64 0)).set_ 1 (.int .i64 (V.1 : Nat)))
  clear p3 st x8
  go_wp2
  obtain ⟨W4, hW4⟩ : ∃ W4, (W3.setCell ⟨W1.heap.size, 0, none⟩ (.int .i64 0)).setCell ⟨W1.heap.size, 1, none⟩ (.int .i64 (V.1 : Nat)) = W4 := ⟨_, rfl⟩
  rw [hW4] at p4 s4 x9 ⊢
  clear hW4 f0 f1 c0 c1
  have r0 : W4.cell? ⟨W1.heap.size, 0, none⟩ = some (.int .i64 0) := x9.out.cell 0
  have r1 : W4.cell? ⟨W1.heap.size, 1, none⟩ = some (.int .i64 (V.1 : Nat)) := x9.out.cell 1
  refine bodyPost_ret (v := .agg #[.int .i64 0, .int .i64 (V.1 : Nat)]) (by simp [results, Tryz.results7, go_sem, r0, r1]) rfl ⟨by rw [HV.out], ?_, s4.out⟩
  rw [HV.out]
  exact four_mono (four_less p4.out (fun k hk => .inl hk)) (by omega) (Nat.le_refl _)
set_option maxRecDepth 100000 in
set_option maxHeartbeats 16000000 in
theorem do_3 (p : Four I X base w W h hm g gm s s2 m m2 Z P) (kd a b c d on now : Int) (hk0 : 0 ≤ kd) (hr : kd % 8 = 3) (hI : Hid (m + 1 < 100000 ∧ I64 a ∧ I64 b ∧ I64 c ∧ I64 d ∧ I64 now)) :
    Calls Tryz.prog 7 #[.pointer (some ⟨h, 0, none⟩), .pointer (some ⟨hm, 0, none⟩), .agg #[.int .u8 kd, .int .i64 a, .int .i64 b, .int .i64 c, .int .i64 d, .int .u8 on], .int .i64 now] W fun e w' =>
      e = .returned (.agg #[.int .i64 (actS Z P s (kd % 8) a b c d now).1.1, .int .i64 ((actS Z P s (kd % 8) a b c d now).1.2 : Nat)]) ∧ Four I X base w w' h hm g gm (actS Z P s (kd % 8) a b c d now).2 s2 (m + 2) m2 Z P ∧ Still X W w' := by
  have HV : Hid (actS Z P s (kd % 8) a b c d now = ((0, (moveS Z s a b now).1), (moveS Z s a b now).2)) := Lib.hid (by unfold actS; rw [hr]; rfl)
  generalize actS Z P s (kd % 8) a b c d now = R at *
  have t8 : kd.tmod 8 = 3 := by rw [Int.tmod_eq_emod_of_nonneg hk0]; exact hr
  obtain ⟨W1, hW1⟩ : ∃ W1, W.alloc (.cells #[.int .u8 kd, .int .i64 a, .int .i64 b, .int .i64 c, .int .i64 d, .int .u8 on] 39) = W1 := ⟨_, rfl⟩
  have b1 : Below W.heap.size W W1 := by rw [← hW1]; exact alloc_below W _
  have X6 : Lies W1 W.heap.size 39 #[.int .u8 kd, .int .i64 a, .int .i64 b, .int .i64 c, .int .i64 d, .int .u8 on] := by rw [← hW1]; exact Lies.new W _ _
  obtain ⟨W2, hW2⟩ : ∃ W2, W1.alloc (.cells #[.int .i64 0, .int .i64 0] 42) = W2 := ⟨_, rfl⟩
  have b2 : Below W1.heap.size W1 W2 := by rw [← hW2]; exact alloc_below W1 _
  have X7 := Lib.hid (X6.below b2 X6.lt)
  have X8 : Hid (Lies W2 W1.heap.size 42 #[.int .i64 0, .int .i64 0]) := Lib.hid (by rw [← hW2]; exact Lies.new W1 _ _)
  have p2 := Lib.hid (four_more (four_keep p b1) b2 (Nat.le_refl _) X8.out.lt)
  have B2 := Lib.hid (b1.trans (b2.mono b1.size))
  have k0 : W2.cell? ⟨W.heap.size, 0, none⟩ = some (.int .u8 kd) := X7.out.cell 0
  have k1 : W2.cell? ⟨W.heap.size, 1, none⟩ = some (.int .i64 a) := X7.out.cell 1
  have k2 : W2.cell? ⟨W.heap.size, 2, none⟩ = some (.int .i64 b) := X7.out.cell 2
  have k3 : W2.cell? ⟨W.heap.size, 3, none⟩ = some (.int .i64 c) := X7.out.cell 3
  have k4 : W2.cell? ⟨W.heap.size, 4, none⟩ = some (.int .i64 d) := X7.out.cell 4
  have HB1 := Lib.hid b1
  have HX := Lib.hid (four_lt p)
  clear b1 b2 X6 p
  go_enter Tryz.func7, Tryz.ntmps7
  go_wp2_with fail
  refine (four_move1 p2.out (by have := hI.out.1; omega) hI.out.2.1 hI.out.2.2.1 hI.out.2.2.2.2.2).mono ?_
  rintro e W3 ⟨rfl, p3, st⟩
  have x8 := st.lies (.inr rfl) X8.out
  clear k0 k1 k2 k3 k4
  have f0 : W3.frozen? ⟨W1.heap.size, 0, none⟩ = false := x8.frozen 0
  have f1 : W3.frozen? ⟨W1.heap.size, 1, none⟩ = false := x8.frozen 1
  have c0 : W3.cell? ⟨W1.heap.size, 0, none⟩ = some (.int .i64 0) := x8.cell 0
  have c1 : W3.cell? ⟨W1.heap.size, 1, none⟩ = some (.int .i64 0) := x8.cell 1
  generalize moveS Z s a b now = V at *
  have p4 := Lib.hid (four_free p3 (T := fun k => k = W1.heap.size) (((Turn.refl (fun k => k = W1.heap.size) W3).setCell (p := ⟨W1.heap.size, 0, none⟩) (.inl rfl) (.int .i64 0)).setCell (p := ⟨W1.heap.size, 1, none⟩) (.inl rfl) (.int .i64 (V.1 : Nat))) (fun k hk => .inr hk))
  have s4 : Hid (Still X W ((W3.setCell ⟨W1.heap.size, 0, none⟩ (.int .i64 0)).setCell ⟨W1.heap.size, 1, none⟩ (.int .i64 (V.1 : Nat)))) := Lib.hid (still_trans (still_trans (still_below B2.out) (still_less st (fun k hk => .inl hk))) ⟨fun k => k = W1.heap.size, ((Turn.refl (fun k => k = W1.heap.size) W3).setCell (p := ⟨W1.heap.size, 0, none⟩) (.inl rfl) _).setCell (p := ⟨W1.heap.size, 1, none⟩) (.inl rfl) _, fun k hk e => by
    have h1 := HX.out k hk
    have h2 := HB1.out.size
    omega⟩)
  have x9 : Hid (Lies ((W3.setCell ⟨W1.heap.size, 0, none⟩ (.int .i64 0)).setCell ⟨W1.heap.size, 1, none⟩ (.int .i64 (V.1 : Nat))) W1.heap.size 42 #[.int .i64 0, .int .i64 (V.1 : Nat)]) := Lib.hid (by simpa using (x8.set_ 0 (.int .i64 0)).set_ 1 (.int .i64 (V.1 : Nat)))
  clear p3 st x8
  go_wp2
  obtain ⟨W4, hW4⟩ : ∃ W4, (W3.setCell ⟨W1.heap.size, 0, none⟩ (.int .i64 0)).setCell ⟨W1.heap.size, 1, none⟩ (.int .i64 (V.1 : Nat)) = W4 := ⟨_, rfl⟩
  rw [hW4] at p4 s4 x9 ⊢
  clear hW4 f0 f1 c0 c1
  have r0 : W4.cell? ⟨W1.heap.size, 0, none⟩ = some (.int .i64 0) := x9.out.cell 0
  have r1 : W4.cell? ⟨W1.heap.size, 1, none⟩ = some (.int .i64 (V.1 : Nat)) := x9.out.cell 1
  refine bodyPost_ret (v := .agg #[.int .i64 0, .int .i64 (V.1 : Nat)]) (by simp [results, Tryz.results7, go_sem, r0, r1]) rfl ⟨by rw [HV.out], ?_, s4.out⟩
  rw [HV.out]
  exact four_mono (four_less p4.out (fun k hk => .inl hk)) (by omega) (Nat.le_refl _)
set_option maxRecDepth 100000 in
set_option maxHeartbeats 16000000 in
theorem do_4 (p : Four I X base w W h hm g gm s s2 m m2 Z P) (kd a b c d on now : Int) (hk0 : 0 ≤ kd) (hr : kd % 8 = 4) (hI : Hid (m + 1 < 100000 ∧ I64 a ∧ I64 b ∧ I64 c ∧ I64 d ∧ I64 now)) :
    Calls Tryz.prog 7 #[.pointer (some ⟨h, 0, none⟩), .pointer (some ⟨hm, 0, none⟩), .agg #[.int .u8 kd, .int .i64 a, .int .i64 b, .int .i64 c, .int .i64 d, .int .u8 on], .int .i64 now] W fun e w' =>
      e = .returned (.agg #[.int .i64 (actS Z P s (kd % 8) a b c d now).1.1, .int .i64 ((actS Z P s (kd % 8) a b c d now).1.2 : Nat)]) ∧ Four I X base w w' h hm g gm (actS Z P s (kd % 8) a b c d now).2 s2 (m + 2) m2 Z P ∧ Still X W w' := by
  have HV : Hid (actS Z P s (kd % 8) a b c d now = splitS s a b) := Lib.hid (by unfold actS; rw [hr]; rfl)
  generalize actS Z P s (kd % 8) a b c d now = R at *
  have t8 : kd.tmod 8 = 4 := by rw [Int.tmod_eq_emod_of_nonneg hk0]; exact hr
  obtain ⟨W1, hW1⟩ : ∃ W1, W.alloc (.cells #[.int .u8 kd, .int .i64 a, .int .i64 b, .int .i64 c, .int .i64 d, .int .u8 on] 39) = W1 := ⟨_, rfl⟩
  have b1 : Below W.heap.size W W1 := by rw [← hW1]; exact alloc_below W _
  have X6 : Lies W1 W.heap.size 39 #[.int .u8 kd, .int .i64 a, .int .i64 b, .int .i64 c, .int .i64 d, .int .u8 on] := by rw [← hW1]; exact Lies.new W _ _
  obtain ⟨W2, hW2⟩ : ∃ W2, W1.alloc (.cells #[.int .i64 0, .int .i64 0] 42) = W2 := ⟨_, rfl⟩
  have b2 : Below W1.heap.size W1 W2 := by rw [← hW2]; exact alloc_below W1 _
  have X7 := Lib.hid (X6.below b2 X6.lt)
  have X8 : Hid (Lies W2 W1.heap.size 42 #[.int .i64 0, .int .i64 0]) := Lib.hid (by rw [← hW2]; exact Lies.new W1 _ _)
  have p2 := Lib.hid (four_more (four_keep p b1) b2 (Nat.le_refl _) X8.out.lt)
  have B2 := Lib.hid (b1.trans (b2.mono b1.size))
  have k0 : W2.cell? ⟨W.heap.size, 0, none⟩ = some (.int .u8 kd) := X7.out.cell 0
  have k1 : W2.cell? ⟨W.heap.size, 1, none⟩ = some (.int .i64 a) := X7.out.cell 1
  have k2 : W2.cell? ⟨W.heap.size, 2, none⟩ = some (.int .i64 b) := X7.out.cell 2
  have k3 : W2.cell? ⟨W.heap.size, 3, none⟩ = some (.int .i64 c) := X7.out.cell 3
  have k4 : W2.cell? ⟨W.heap.size, 4, none⟩ = some (.int .i64 d) := X7.out.cell 4
  have HB1 := Lib.hid b1
  have HX := Lib.hid (four_lt p)
  clear b1 b2 X6 p
  go_enter Tryz.func7, Tryz.ntmps7
  go_wp2_with fail
  refine (four_split1 p2.out (by have := hI.out.1; omega) hI.out.2.1 hI.out.2.2.1).mono ?_
  rintro e W3 ⟨rfl, p3, st⟩
  have x8 := st.lies (.inr rfl) X8.out
  clear k0 k1 k2 k3 k4
  have f0 : W3.frozen? ⟨W1.heap.size, 0, none⟩ = false := x8.frozen 0
  have f1 : W3.frozen? ⟨W1.heap.size, 1, none⟩ = false := x8.frozen 1
  have c0 : W3.cell? ⟨W1.heap.size, 0, none⟩ = some (.int .i64 0) := x8.cell 0
  have c1 : W3.cell? ⟨W1.heap.size, 1, none⟩ = some (.int .i64 0) := x8.cell 1
  generalize splitS s a b = V at *
  have p4 := Lib.hid (four_free p3 (T := fun k => k = W1.heap.size) (((Turn.refl (fun k => k = W1.heap.size) W3).setCell (p := ⟨W1.heap.size, 0, none⟩) (.inl rfl) (.int .i64 V.1.1)).setCell (p := ⟨W1.heap.size, 1, none⟩) (.inl rfl) (.int .i64 (V.1.2 : Nat))) (fun k hk => .inr hk))
  have s4 : Hid (Still X W ((W3.setCell ⟨W1.heap.size, 0, none⟩ (.int .i64 V.1.1)).setCell ⟨W1.heap.size, 1, none⟩ (.int .i64 (V.1.2 : Nat)))) := Lib.hid (still_trans (still_trans (still_below B2.out) (still_less st (fun k hk => .inl hk))) ⟨fun k => k = W1.heap.size, ((Turn.refl (fun k => k = W1.heap.size) W3).setCell (p := ⟨W1.heap.size, 0, none⟩) (.inl rfl) _).setCell (p := ⟨W1.heap.size, 1, none⟩) (.inl rfl) _, fun k hk e => by
    have h1 := HX.out k hk
    have h2 := HB1.out.size
    omega⟩)
  have x9 : Hid (Lies ((W3.setCell ⟨W1.heap.size, 0, none⟩ (.int .i64 V.1.1)).setCell ⟨W1.heap.size, 1, none⟩ (.int .i64 (V.1.2 : Nat))) W1.heap.size 42 #[.int .i64 V.1.1, .int .i64 (V.1.2 : Nat)]) := Lib.hid (by simpa using (x8.set_ 0 (.int .i64 V.1.1)).set_ 1 (.int .i64 (V.1.2 : Nat)))
  clear p3 st x8
  go_wp2
  obtain ⟨W4, hW4⟩ : ∃ W4, (W3.setCell ⟨W1.heap.size, 0, none⟩ (.int .i64 V.1.1)).setCell ⟨W1.heap.size, 1, none⟩ (.int .i64 (V.1.2 : Nat)) = W4 := ⟨_, rfl⟩
  rw [hW4] at p4 s4 x9 ⊢
  clear hW4 f0 f1 c0 c1
  have r0 : W4.cell? ⟨W1.heap.size, 0, none⟩ = some (.int .i64 V.1.1) := x9.out.cell 0
  have r1 : W4.cell? ⟨W1.heap.size, 1, none⟩ = some (.int .i64 (V.1.2 : Nat)) := x9.out.cell 1
  refine bodyPost_ret (v := .agg #[.int .i64 V.1.1, .int .i64 (V.1.2 : Nat)]) (by simp [results, Tryz.results7, go_sem, r0, r1]) rfl ⟨by rw [HV.out], ?_, s4.out⟩
  rw [HV.out]
  exact four_mono (four_less p4.out (fun k hk => .inl hk)) (by omega) (Nat.le_refl _)
set_option maxRecDepth 100000 in
set_option maxHeartbeats 16000000 in
theorem do_5 (p : Four I X base w W h hm g gm s s2 m m2 Z P) (kd a b c d on now : Int) (hk0 : 0 ≤ kd) (hr : kd % 8 = 5) (hI : Hid (m + 1 < 100000 ∧ I64 a ∧ I64 b ∧ I64 c ∧ I64 d ∧ I64 now)) :
    Calls Tryz.prog 7 #[.pointer (some ⟨h, 0, none⟩), .pointer (some ⟨hm, 0, none⟩), .agg #[.int .u8 kd, .int .i64 a, .int .i64 b, .int .i64 c, .int .i64 d, .int .u8 on], .int .i64 now] W fun e w' =>
      e = .returned (.agg #[.int .i64 (actS Z P s (kd % 8) a b c d now).1.1, .int .i64 ((actS Z P s (kd % 8) a b c d now).1.2 : Nat)]) ∧ Four I X base w w' h hm g gm (actS Z P s (kd % 8) a b c d now).2 s2 (m + 2) m2 Z P ∧ Still X W w' := by
  have HV : Hid (actS Z P s (kd % 8) a b c d now = ((0, (mergeS s a b).1), (mergeS s a b).2)) := Lib.hid (by unfold actS; rw [hr]; rfl)
  generalize actS Z P s (kd % 8) a b c d now = R at *
  have t8 : kd.tmod 8 = 5 := by rw [Int.tmod_eq_emod_of_nonneg hk0]; exact hr
  obtain ⟨W1, hW1⟩ : ∃ W1, W.alloc (.cells #[.int .u8 kd, .int .i64 a, .int .i64 b, .int .i64 c, .int .i64 d, .int .u8 on] 39) = W1 := ⟨_, rfl⟩
  have b1 : Below W.heap.size W W1 := by rw [← hW1]; exact alloc_below W _
  have X6 : Lies W1 W.heap.size 39 #[.int .u8 kd, .int .i64 a, .int .i64 b, .int .i64 c, .int .i64 d, .int .u8 on] := by rw [← hW1]; exact Lies.new W _ _
  obtain ⟨W2, hW2⟩ : ∃ W2, W1.alloc (.cells #[.int .i64 0, .int .i64 0] 42) = W2 := ⟨_, rfl⟩
  have b2 : Below W1.heap.size W1 W2 := by rw [← hW2]; exact alloc_below W1 _
  have X7 := Lib.hid (X6.below b2 X6.lt)
  have X8 : Hid (Lies W2 W1.heap.size 42 #[.int .i64 0, .int .i64 0]) := Lib.hid (by rw [← hW2]; exact Lies.new W1 _ _)
  have p2 := Lib.hid (four_more (four_keep p b1) b2 (Nat.le_refl _) X8.out.lt)
  have B2 := Lib.hid (b1.trans (b2.mono b1.size))
  have k0 : W2.cell? ⟨W.heap.size, 0, none⟩ = some (.int .u8 kd) := X7.out.cell 0
  have k1 : W2.cell? ⟨W.heap.size, 1, none⟩ = some (.int .i64 a) := X7.out.cell 1
  have k2 : W2.cell? ⟨W.heap.size, 2, none⟩ = some (.int .i64 b) := X7.out.cell 2
  have k3 : W2.cell? ⟨W.heap.size, 3, none⟩ = some (.int .i64 c) := X7.out.cell 3
  have k4 : W2.cell? ⟨W.heap.size, 4, none⟩ = some (.int .i64 d) := X7.out.cell 4
  have HB1 := Lib.hid b1
  have HX := Lib.hid (four_lt p)
  clear b1 b2 X6 p
  go_enter Tryz.func7, Tryz.ntmps7
  go_wp2_with fail
  refine (four_merge1 p2.out hI.out.2.1 hI.out.2.2.1).mono ?_
  rintro e W3 ⟨rfl, p3, st⟩
  have x8 := st.lies (.inr rfl) X8.out
  clear k0 k1 k2 k3 k4
  have f0 : W3.frozen? ⟨W1.heap.size, 0, none⟩ = false := x8.frozen 0
  have f1 : W3.frozen? ⟨W1.heap.size, 1, none⟩ = false := x8.frozen 1
  have c0 : W3.cell? ⟨W1.heap.size, 0, none⟩ = some (.int .i64 0) := x8.cell 0
  have c1 : W3.cell? ⟨W1.heap.size, 1, none⟩ = some (.int .i64 0) := x8.cell 1
  generalize mergeS s a b = V at *
  have p4 := Lib.hid (four_free p3 (T := fun k => k = W1.heap.size) (((Turn.refl (fun k => k = W1.heap.size) W3).setCell (p := ⟨W1.heap.size, 0, none⟩) (.inl rfl) (.int .i64 0)).setCell (p := ⟨W1.heap.size, 1, none⟩) (.inl rfl) (.int .i64 (V.1 : Nat))) (fun k hk => .inr hk))
  have s4 : Hid (Still X W ((W3.setCell ⟨W1.heap.size, 0, none⟩ (.int .i64 0)).setCell ⟨W1.heap.size, 1, none⟩ (.int .i64 (V.1 : Nat)))) := Lib.hid (still_trans (still_trans (still_below B2.out) (still_less st (fun k hk => .inl hk))) ⟨fun k => k = W1.heap.size, ((Turn.refl (fun k => k = W1.heap.size) W3).setCell (p := ⟨W1.heap.size, 0, none⟩) (.inl rfl) _).setCell (p := ⟨W1.heap.size, 1, none⟩) (.inl rfl) _, fun k hk e => by
    have h1 := HX.out k hk
    have h2 := HB1.out.size
    omega⟩)
  have x9 : Hid (Lies ((W3.setCell ⟨W1.heap.size, 0, none⟩ (.int .i64 0)).setCell ⟨W1.heap.size, 1, none⟩ (.int .i64 (V.1 : Nat))) W1.heap.size 42 #[.int .i64 0, .int .i64 (V.1 : Nat)]) := Lib.hid (by simpa using (x8.set_ 0 (.int .i64 0)).set_ 1 (.int .i64 (V.1 : Nat)))
  clear p3 st x8
  go_wp2
  obtain ⟨W4, hW4⟩ : ∃ W4, (W3.setCell ⟨W1.heap.size, 0, none⟩ (.int .i64 0)).setCell ⟨W1.heap.size, 1, none⟩ (.int .i64 (V.1 : Nat)) = W4 := ⟨_, rfl⟩
  rw [hW4] at p4 s4 x9 ⊢
  clear hW4 f0 f1 c0 c1
  have r0 : W4.cell? ⟨W1.heap.size, 0, none⟩ = some (.int .i64 0) := x9.out.cell 0
  have r1 : W4.cell? ⟨W1.heap.size, 1, none⟩ = some (.int .i64 (V.1 : Nat)) := x9.out.cell 1
  refine bodyPost_ret (v := .agg #[.int .i64 0, .int .i64 (V.1 : Nat)]) (by simp [results, Tryz.results7, go_sem, r0, r1]) rfl ⟨by rw [HV.out], ?_, s4.out⟩
  rw [HV.out]
  exact four_mono (four_less p4.out (fun k hk => .inl hk)) (by omega) (Nat.le_refl _)
set_option maxRecDepth 100000 in
set_option maxHeartbeats 16000000 in
theorem do_6 (p : Four I X base w W h hm g gm s s2 m m2 Z P) (kd a b c d on now : Int) (hk0 : 0 ≤ kd) (hr : kd % 8 = 6) (hI : Hid (m + 1 < 100000 ∧ I64 a ∧ I64 b ∧ I64 c ∧ I64 d ∧ I64 now)) :
    Calls Tryz.prog 7 #[.pointer (some ⟨h, 0, none⟩), .pointer (some ⟨hm, 0, none⟩), .agg #[.int .u8 kd, .int .i64 a, .int .i64 b, .int .i64 c, .int .i64 d, .int .u8 on], .int .i64 now] W fun e w' =>
      e = .returned (.agg #[.int .i64 (actS Z P s (kd % 8) a b c d now).1.1, .int .i64 ((actS Z P s (kd % 8) a b c d now).1.2 : Nat)]) ∧ Four I X base w w' h hm g gm (actS Z P s (kd % 8) a b c d now).2 s2 (m + 2) m2 Z P ∧ Still X W w' := by
  have HV : Hid (actS Z P s (kd % 8) a b c d now = ((0, (markS s a b c d).1), (markS s a b c d).2)) := Lib.hid (by unfold actS; rw [hr]; rfl)
  generalize actS Z P s (kd % 8) a b c d now = R at *
  have t8 : kd.tmod 8 = 6 := by rw [Int.tmod_eq_emod_of_nonneg hk0]; exact hr
  obtain ⟨W1, hW1⟩ : ∃ W1, W.alloc (.cells #[.int .u8 kd, .int .i64 a, .int .i64 b, .int .i64 c, .int .i64 d, .int .u8 on] 39) = W1 := ⟨_, rfl⟩
  have b1 : Below W.heap.size W W1 := by rw [← hW1]; exact alloc_below W _
  have X6 : Lies W1 W.heap.size 39 #[.int .u8 kd, .int .i64 a, .int .i64 b, .int .i64 c, .int .i64 d, .int .u8 on] := by rw [← hW1]; exact Lies.new W _ _
  obtain ⟨W2, hW2⟩ : ∃ W2, W1.alloc (.cells #[.int .i64 0, .int .i64 0] 42) = W2 := ⟨_, rfl⟩
  have b2 : Below W1.heap.size W1 W2 := by rw [← hW2]; exact alloc_below W1 _
  have X7 := Lib.hid (X6.below b2 X6.lt)
  have X8 : Hid (Lies W2 W1.heap.size 42 #[.int .i64 0, .int .i64 0]) := Lib.hid (by rw [← hW2]; exact Lies.new W1 _ _)
  have p2 := Lib.hid (four_more (four_keep p b1) b2 (Nat.le_refl _) X8.out.lt)
  have B2 := Lib.hid (b1.trans (b2.mono b1.size))
  have k0 : W2.cell? ⟨W.heap.size, 0, none⟩ = some (.int .u8 kd) := X7.out.cell 0
  have k1 : W2.cell? ⟨W.heap.size, 1, none⟩ = some (.int .i64 a) := X7.out.cell 1
  have k2 : W2.cell? ⟨W.heap.size, 2, none⟩ = some (.int .i64 b) := X7.out.cell 2
  have k3 : W2.cell? ⟨W.heap.size, 3, none⟩ = some (.int .i64 c) := X7.out.cell 3
  have k4 : W2.cell? ⟨W.heap.size, 4, none⟩ = some (.int .i64 d) := X7.out.cell 4
  have HB1 := Lib.hid b1
  have HX := Lib.hid (four_lt p)
  clear b1 b2 X6 p
  go_enter Tryz.func7, Tryz.ntmps7
  go_wp2_with fail
  refine (four_mark1 p2.out (by have := hI.out.1; omega) hI.out.2.1 hI.out.2.2.1 hI.out.2.2.2.1 hI.out.2.2.2.2.1).mono ?_
  rintro e W3 ⟨rfl, p3, st⟩
  have x8 := st.lies (.inr rfl) X8.out
  clear k0 k1 k2 k3 k4
  have f0 : W3.frozen? ⟨W1.heap.size, 0, none⟩ = false := x8.frozen 0
  have f1 : W3.frozen? ⟨W1.heap.size, 1, none⟩ = false := x8.frozen 1
  have c0 : W3.cell? ⟨W1.heap.size, 0, none⟩ = some (.int .i64 0) := x8.cell 0
  have c1 : W3.cell? ⟨W1.heap.size, 1, none⟩ = some (.int .i64 0) := x8.cell 1
  generalize markS s a b c d = V at *
  have p4 := Lib.hid (four_free p3 (T := fun k => k = W1.heap.size) (((Turn.refl (fun k => k = W1.heap.size) W3).setCell (p := ⟨W1.heap.size, 0, none⟩) (.inl rfl) (.int .i64 0)).setCell (p := ⟨W1.heap.size, 1, none⟩) (.inl rfl) (.int .i64 (V.1 : Nat))) (fun k hk => .inr hk))
  have s4 : Hid (Still X W ((W3.setCell ⟨W1.heap.size, 0, none⟩ (.int .i64 0)).setCell ⟨W1.heap.size, 1, none⟩ (.int .i64 (V.1 : Nat)))) := Lib.hid (still_trans (still_trans (still_below B2.out) (still_less st (fun k hk => .inl hk))) ⟨fun k => k = W1.heap.size, ((Turn.refl (fun k => k = W1.heap.size) W3).setCell (p := ⟨W1.heap.size, 0, none⟩) (.inl rfl) _).setCell (p := ⟨W1.heap.size, 1, none⟩) (.inl rfl) _, fun k hk e => by
    have h1 := HX.out k hk
    have h2 := HB1.out.size
    omega⟩)
  have x9 : Hid (Lies ((W3.setCell ⟨W1.heap.size, 0, none⟩ (.int .i64 0)).setCell ⟨W1.heap.size, 1, none⟩ (.int .i64 (V.1 : Nat))) W1.heap.size 42 #[.int .i64 0, .int .i64 (V.1 : Nat)]) := Lib.hid (by simpa using (x8.set_ 0 (.int .i64 0)).set_ 1 (.int .i64 (V.1 : Nat)))
  clear p3 st x8
  go_wp2
  obtain ⟨W4, hW4⟩ : ∃ W4, (W3.setCell ⟨W1.heap.size, 0, none⟩ (.int .i64 0)).setCell ⟨W1.heap.size, 1, none⟩ (.int .i64 (V.1 : Nat)) = W4 := ⟨_, rfl⟩
  rw [hW4] at p4 s4 x9 ⊢
  clear hW4 f0 f1 c0 c1
  have r0 : W4.cell? ⟨W1.heap.size, 0, none⟩ = some (.int .i64 0) := x9.out.cell 0
  have r1 : W4.cell? ⟨W1.heap.size, 1, none⟩ = some (.int .i64 (V.1 : Nat)) := x9.out.cell 1
  refine bodyPost_ret (v := .agg #[.int .i64 0, .int .i64 (V.1 : Nat)]) (by simp [results, Tryz.results7, go_sem, r0, r1]) rfl ⟨by rw [HV.out], ?_, s4.out⟩
  rw [HV.out]
  exact four_mono (four_less p4.out (fun k hk => .inl hk)) (by omega) (Nat.le_refl _)
set_option maxRecDepth 100000 in
set_option maxHeartbeats 16000000 in
theorem do_7 (p : Four I X base w W h hm g gm s s2 m m2 Z P) (kd a b c d on now : Int) (hk0 : 0 ≤ kd) (hr : kd % 8 = 7) (hI : Hid (m + 1 < 100000 ∧ I64 a ∧ I64 b ∧ I64 c ∧ I64 d ∧ I64 now)) :
    Calls Tryz.prog 7 #[.pointer (some ⟨h, 0, none⟩), .pointer (some ⟨hm, 0, none⟩), .agg #[.int .u8 kd, .int .i64 a, .int .i64 b, .int .i64 c, .int .i64 d, .int .u8 on], .int .i64 now] W fun e w' =>
      e = .returned (.agg #[.int .i64 (actS Z P s (kd % 8) a b c d now).1.1, .int .i64 ((actS Z P s (kd % 8) a b c d now).1.2 : Nat)]) ∧ Four I X base w w' h hm g gm (actS Z P s (kd % 8) a b c d now).2 s2 (m + 2) m2 Z P ∧ Still X W w' := by
  have HV : Hid (actS Z P s (kd % 8) a b c d now = ((0, (leaveS s a now).1), (leaveS s a now).2)) := Lib.hid (by unfold actS; rw [hr]; rfl)
  generalize actS Z P s (kd % 8) a b c d now = R at *
  have t8 : kd.tmod 8 = 7 := by rw [Int.tmod_eq_emod_of_nonneg hk0]; exact hr
  obtain ⟨W1, hW1⟩ : ∃ W1, W.alloc (.cells #[.int .u8 kd, .int .i64 a, .int .i64 b, .int .i64 c, .int .i64 d, .int .u8 on] 39) = W1 := ⟨_, rfl⟩
  have b1 : Below W.heap.size W W1 := by rw [← hW1]; exact alloc_below W _
  have X6 : Lies W1 W.heap.size 39 #[.int .u8 kd, .int .i64 a, .int .i64 b, .int .i64 c, .int .i64 d, .int .u8 on] := by rw [← hW1]; exact Lies.new W _ _
  obtain ⟨W2, hW2⟩ : ∃ W2, W1.alloc (.cells #[.int .i64 0, .int .i64 0] 42) = W2 := ⟨_, rfl⟩
  have b2 : Below W1.heap.size W1 W2 := by rw [← hW2]; exact alloc_below W1 _
  have X7 := Lib.hid (X6.below b2 X6.lt)
  have X8 : Hid (Lies W2 W1.heap.size 42 #[.int .i64 0, .int .i64 0]) := Lib.hid (by rw [← hW2]; exact Lies.new W1 _ _)
  have p2 := Lib.hid (four_more (four_keep p b1) b2 (Nat.le_refl _) X8.out.lt)
  have B2 := Lib.hid (b1.trans (b2.mono b1.size))
  have k0 : W2.cell? ⟨W.heap.size, 0, none⟩ = some (.int .u8 kd) := X7.out.cell 0
  have k1 : W2.cell? ⟨W.heap.size, 1, none⟩ = some (.int .i64 a) := X7.out.cell 1
  have k2 : W2.cell? ⟨W.heap.size, 2, none⟩ = some (.int .i64 b) := X7.out.cell 2
  have k3 : W2.cell? ⟨W.heap.size, 3, none⟩ = some (.int .i64 c) := X7.out.cell 3
  have k4 : W2.cell? ⟨W.heap.size, 4, none⟩ = some (.int .i64 d) := X7.out.cell 4
  have HB1 := Lib.hid b1
  have HX := Lib.hid (four_lt p)
  clear b1 b2 X6 p
  go_enter Tryz.func7, Tryz.ntmps7
  go_wp2_with fail
  refine (four_leave1 p2.out (by have := hI.out.1; omega) hI.out.2.1 hI.out.2.2.2.2.2).mono ?_
  rintro e W3 ⟨rfl, p3, st⟩
  have x8 := st.lies (.inr rfl) X8.out
  clear k0 k1 k2 k3 k4
  have f0 : W3.frozen? ⟨W1.heap.size, 0, none⟩ = false := x8.frozen 0
  have f1 : W3.frozen? ⟨W1.heap.size, 1, none⟩ = false := x8.frozen 1
  have c0 : W3.cell? ⟨W1.heap.size, 0, none⟩ = some (.int .i64 0) := x8.cell 0
  have c1 : W3.cell? ⟨W1.heap.size, 1, none⟩ = some (.int .i64 0) := x8.cell 1
  generalize leaveS s a now = V at *
  have p4 := Lib.hid (four_free p3 (T := fun k => k = W1.heap.size) (((Turn.refl (fun k => k = W1.heap.size) W3).setCell (p := ⟨W1.heap.size, 0, none⟩) (.inl rfl) (.int .i64 0)).setCell (p := ⟨W1.heap.size, 1, none⟩) (.inl rfl) (.int .i64 (V.1 : Nat))) (fun k hk => .inr hk))
  have s4 : Hid (Still X W ((W3.setCell ⟨W1.heap.size, 0, none⟩ (.int .i64 0)).setCell ⟨W1.heap.size, 1, none⟩ (.int .i64 (V.1 : Nat)))) := Lib.hid (still_trans (still_trans (still_below B2.out) (still_less st (fun k hk => .inl hk))) ⟨fun k => k = W1.heap.size, ((Turn.refl (fun k => k = W1.heap.size) W3).setCell (p := ⟨W1.heap.size, 0, none⟩) (.inl rfl) _).setCell (p := ⟨W1.heap.size, 1, none⟩) (.inl rfl) _, fun k hk e => by
    have h1 := HX.out k hk
    have h2 := HB1.out.size
    omega⟩)
  have x9 : Hid (Lies ((W3.setCell ⟨W1.heap.size, 0, none⟩ (.int .i64 0)).setCell ⟨W1.heap.size, 1, none⟩ (.int .i64 (V.1 : Nat))) W1.heap.size 42 #[.int .i64 0, .int .i64 (V.1 : Nat)]) := Lib.hid (by simpa using (x8.set_ 0 (.int .i64 0)).set_ 1 (.int .i64 (V.1 : Nat)))
  clear p3 st x8
  go_wp2
  obtain ⟨W4, hW4⟩ : ∃ W4, (W3.setCell ⟨W1.heap.size, 0, none⟩ (.int .i64 0)).setCell ⟨W1.heap.size, 1, none⟩ (.int .i64 (V.1 : Nat)) = W4 := ⟨_, rfl⟩
  rw [hW4] at p4 s4 x9 ⊢
  clear hW4 f0 f1 c0 c1
  have r0 : W4.cell? ⟨W1.heap.size, 0, none⟩ = some (.int .i64 0) := x9.out.cell 0
  have r1 : W4.cell? ⟨W1.heap.size, 1, none⟩ = some (.int .i64 (V.1 : Nat)) := x9.out.cell 1
  refine bodyPost_ret (v := .agg #[.int .i64 0, .int .i64 (V.1 : Nat)]) (by simp [results, Tryz.results7, go_sem, r0, r1]) rfl ⟨by rw [HV.out], ?_, s4.out⟩
  rw [HV.out]
  exact four_mono (four_less p4.out (fun k hk => .inl hk)) (by omega) (Nat.le_refl _)
set_option maxRecDepth 100000 in
set_option maxHeartbeats 16000000 in
theorem want_0 (p : Four I X base w W h hm g gm s s2 m m2 Z P) (kd a b c d on now : Int) (hk0 : 0 ≤ kd) (hr : kd % 8 = 0) (hI : Hid (m2 + 1 < 100000 ∧ I64 a ∧ I64 b ∧ I64 c ∧ I64 d ∧ I64 now)) :
    Calls Tryz.prog 8 #[.pointer (some ⟨g, 0, none⟩), .pointer (some ⟨gm, 0, none⟩), .agg #[.int .u8 kd, .int .i64 a, .int .i64 b, .int .i64 c, .int .i64 d, .int .u8 on], .int .i64 now] W fun e w' =>
      e = .returned (.agg #[.int .i64 (actS Z P s2 (kd % 8) a b c d now).1.1, .int .i64 ((actS Z P s2 (kd % 8) a b c d now).1.2 : Nat)]) ∧ Four I X base w w' h hm g gm s (actS Z P s2 (kd % 8) a b c d now).2 m (m2 + 2) Z P ∧ Still X W w' := by
  have HV : Hid (actS Z P s2 (kd % 8) a b c d now = recvS Z P s2 a b c d now) := Lib.hid (by unfold actS; rw [hr]; rfl)
  generalize actS Z P s2 (kd % 8) a b c d now = R at *
  have t8 : kd.tmod 8 = 0 := by rw [Int.tmod_eq_emod_of_nonneg hk0]; exact hr
  obtain ⟨W1, hW1⟩ : ∃ W1, W.alloc (.cells #[.int .u8 kd, .int .i64 a, .int .i64 b, .int .i64 c, .int .i64 d, .int .u8 on] 39) = W1 := ⟨_, rfl⟩
  have b1 : Below W.heap.size W W1 := by rw [← hW1]; exact alloc_below W _
  have X6 : Lies W1 W.heap.size 39 #[.int .u8 kd, .int .i64 a, .int .i64 b, .int .i64 c, .int .i64 d, .int .u8 on] := by rw [← hW1]; exact Lies.new W _ _
  obtain ⟨W2, hW2⟩ : ∃ W2, W1.alloc (.cells #[.int .i64 0, .int .i64 0] 42) = W2 := ⟨_, rfl⟩
  have b2 : Below W1.heap.size W1 W2 := by rw [← hW2]; exact alloc_below W1 _
  have X7 := Lib.hid (X6.below b2 X6.lt)
  have X8 : Hid (Lies W2 W1.heap.size 42 #[.int .i64 0, .int .i64 0]) := Lib.hid (by rw [← hW2]; exact Lies.new W1 _ _)
  have p2 := Lib.hid (four_more (four_keep p b1) b2 (Nat.le_refl _) X8.out.lt)
  have B2 := Lib.hid (b1.trans (b2.mono b1.size))
  have k0 : W2.cell? ⟨W.heap.size, 0, none⟩ = some (.int .u8 kd) := X7.out.cell 0
  have k1 : W2.cell? ⟨W.heap.size, 1, none⟩ = some (.int .i64 a) := X7.out.cell 1
  have k2 : W2.cell? ⟨W.heap.size, 2, none⟩ = some (.int .i64 b) := X7.out.cell 2
  have k3 : W2.cell? ⟨W.heap.size, 3, none⟩ = some (.int .i64 c) := X7.out.cell 3
  have k4 : W2.cell? ⟨W.heap.size, 4, none⟩ = some (.int .i64 d) := X7.out.cell 4
  have HB1 := Lib.hid b1
  have HX := Lib.hid (four_lt p)
  clear b1 b2 X6 p
  go_enter Tryz.func8, Tryz.ntmps8
  go_wp2_with fail
  refine (four_recv2 p2.out (by have := hI.out.1; omega) a b c d now).mono ?_
  rintro e W3 ⟨rfl, p3, st⟩
  have x8 := st.lies (.inr rfl) X8.out
  clear k0 k1 k2 k3 k4
  have f0 : W3.frozen? ⟨W1.heap.size, 0, none⟩ = false := x8.frozen 0
  have f1 : W3.frozen? ⟨W1.heap.size, 1, none⟩ = false := x8.frozen 1
  have c0 : W3.cell? ⟨W1.heap.size, 0, none⟩ = some (.int .i64 0) := x8.cell 0
  have c1 : W3.cell? ⟨W1.heap.size, 1, none⟩ = some (.int .i64 0) := x8.cell 1
  generalize recvS Z P s2 a b c d now = V at *
  have p4 := Lib.hid (four_free p3 (T := fun k => k = W1.heap.size) (((Turn.refl (fun k => k = W1.heap.size) W3).setCell (p := ⟨W1.heap.size, 0, none⟩) (.inl rfl) (.int .i64 V.1.1)).setCell (p := ⟨W1.heap.size, 1, none⟩) (.inl rfl) (.int .i64 (V.1.2 : Nat))) (fun k hk => .inr hk))
  have s4 : Hid (Still X W ((W3.setCell ⟨W1.heap.size, 0, none⟩ (.int .i64 V.1.1)).setCell ⟨W1.heap.size, 1, none⟩ (.int .i64 (V.1.2 : Nat)))) := Lib.hid (still_trans (still_trans (still_below B2.out) (still_less st (fun k hk => .inl hk))) ⟨fun k => k = W1.heap.size, ((Turn.refl (fun k => k = W1.heap.size) W3).setCell (p := ⟨W1.heap.size, 0, none⟩) (.inl rfl) _).setCell (p := ⟨W1.heap.size, 1, none⟩) (.inl rfl) _, fun k hk e => by
    have h1 := HX.out k hk
    have h2 := HB1.out.size
    omega⟩)
  have x9 : Hid (Lies ((W3.setCell ⟨W1.heap.size, 0, none⟩ (.int .i64 V.1.1)).setCell ⟨W1.heap.size, 1, none⟩ (.int .i64 (V.1.2 : Nat))) W1.heap.size 42 #[.int .i64 V.1.1, .int .i64 (V.1.2 : Nat)]) := Lib.hid (by simpa using (x8.set_ 0 (.int .i64 V.1.1)).set_ 1 (.int .i64 (V.1.2 : Nat)))
  clear p3 st x8
  go_wp2
  obtain ⟨W4, hW4⟩ : ∃ W4, (W3.setCell ⟨W1.heap.size, 0, none⟩ (.int .i64 V.1.1)).setCell ⟨W1.heap.size, 1, none⟩ (.int .i64 (V.1.2 : Nat)) = W4 := ⟨_, rfl⟩
  rw [hW4] at p4 s4 x9 ⊢
  clear hW4 f0 f1 c0 c1
  have r0 : W4.cell? ⟨W1.heap.size, 0, none⟩ = some (.int .i64 V.1.1) := x9.out.cell 0
  have r1 : W4.cell? ⟨W1.heap.size, 1, none⟩ = some (.int .i64 (V.1.2 : Nat)) := x9.out.cell 1
  refine bodyPost_ret (v := .agg #[.int .i64 V.1.1, .int .i64 (V.1.2 : Nat)]) (by simp [results, Tryz.results8, go_sem, r0, r1]) rfl ⟨by rw [HV.out], ?_, s4.out⟩
  rw [HV.out]
  exact four_mono (four_less p4.out (fun k hk => .inl hk)) (Nat.le_refl _) (by omega)
set_option maxRecDepth 100000 in
set_option maxHeartbeats 16000000 in
theorem want_1 (p : Four I X base w W h hm g gm s s2 m m2 Z P) (kd a b c d on now : Int) (hk0 : 0 ≤ kd) (hr : kd % 8 = 1) (hI : Hid (m2 + 1 < 100000 ∧ I64 a ∧ I64 b ∧ I64 c ∧ I64 d ∧ I64 now)) :
    Calls Tryz.prog 8 #[.pointer (some ⟨g, 0, none⟩), .pointer (some ⟨gm, 0, none⟩), .agg #[.int .u8 kd, .int .i64 a, .int .i64 b, .int .i64 c, .int .i64 d, .int .u8 on], .int .i64 now] W fun e w' =>
      e = .returned (.agg #[.int .i64 (actS Z P s2 (kd % 8) a b c d now).1.1, .int .i64 ((actS Z P s2 (kd % 8) a b c d now).1.2 : Nat)]) ∧ Four I X base w w' h hm g gm s (actS Z P s2 (kd % 8) a b c d now).2 m (m2 + 2) Z P ∧ Still X W w' := by
  have HV : Hid (actS Z P s2 (kd % 8) a b c d now = recvS Z P s2 a b c d now) := Lib.hid (by unfold actS; rw [hr]; rfl)
  generalize actS Z P s2 (kd % 8) a b c d now = R at *
  have t8 : kd.tmod 8 = 1 := by rw [Int.tmod_eq_emod_of_nonneg hk0]; exact hr
  obtain ⟨W1, hW1⟩ : ∃ W1, W.alloc (.cells #[.int .u8 kd, .int .i64 a, .int .i64 b, .int .i64 c, .int .i64 d, .int .u8 on] 39) = W1 := ⟨_, rfl⟩
  have b1 : Below W.heap.size W W1 := by rw [← hW1]; exact alloc_below W _
  have X6 : Lies W1 W.heap.size 39 #[.int .u8 kd, .int .i64 a, .int .i64 b, .int .i64 c, .int .i64 d, .int .u8 on] := by rw [← hW1]; exact Lies.new W _ _
  obtain ⟨W2, hW2⟩ : ∃ W2, W1.alloc (.cells #[.int .i64 0, .int .i64 0] 42) = W2 := ⟨_, rfl⟩
  have b2 : Below W1.heap.size W1 W2 := by rw [← hW2]; exact alloc_below W1 _
  have X7 := Lib.hid (X6.below b2 X6.lt)
  have X8 : Hid (Lies W2 W1.heap.size 42 #[.int .i64 0, .int .i64 0]) := Lib.hid (by rw [← hW2]; exact Lies.new W1 _ _)
  have p2 := Lib.hid (four_more (four_keep p b1) b2 (Nat.le_refl _) X8.out.lt)
  have B2 := Lib.hid (b1.trans (b2.mono b1.size))
  have k0 : W2.cell? ⟨W.heap.size, 0, none⟩ = some (.int .u8 kd) := X7.out.cell 0
  have k1 : W2.cell? ⟨W.heap.size, 1, none⟩ = some (.int .i64 a) := X7.out.cell 1
  have k2 : W2.cell? ⟨W.heap.size, 2, none⟩ = some (.int .i64 b) := X7.out.cell 2
  have k3 : W2.cell? ⟨W.heap.size, 3, none⟩ = some (.int .i64 c) := X7.out.cell 3
  have k4 : W2.cell? ⟨W.heap.size, 4, none⟩ = some (.int .i64 d) := X7.out.cell 4
  have HB1 := Lib.hid b1
  have HX := Lib.hid (four_lt p)
  clear b1 b2 X6 p
  go_enter Tryz.func8, Tryz.ntmps8
  go_wp2_with fail
  refine (four_recv2 p2.out (by have := hI.out.1; omega) a b c d now).mono ?_
  rintro e W3 ⟨rfl, p3, st⟩
  have x8 := st.lies (.inr rfl) X8.out
  clear k0 k1 k2 k3 k4
  have f0 : W3.frozen? ⟨W1.heap.size, 0, none⟩ = false := x8.frozen 0
  have f1 : W3.frozen? ⟨W1.heap.size, 1, none⟩ = false := x8.frozen 1
  have c0 : W3.cell? ⟨W1.heap.size, 0, none⟩ = some (.int .i64 0) := x8.cell 0
  have c1 : W3.cell? ⟨W1.heap.size, 1, none⟩ = some (.int .i64 0) := x8.cell 1
  generalize recvS Z P s2 a b c d now = V at *
  have p4 := Lib.hid (four_free p3 (T := fun k => k = W1.heap.size) (((Turn.refl (fun k => k = W1.heap.size) W3).setCell (p := ⟨W1.heap.size, 0, none⟩) (.inl rfl) (.int .i64 V.1.1)).setCell (p := ⟨W1.heap.size, 1, none⟩) (.inl rfl) (.int .i64 (V.1.2 : Nat))) (fun k hk => .inr hk))
  have s4 : Hid (Still X W ((W3.setCell ⟨W1.heap.size, 0, none⟩ (.int .i64 V.1.1)).setCell ⟨W1.heap.size, 1, none⟩ (.int .i64 (V.1.2 : Nat)))) := Lib.hid (still_trans (still_trans (still_below B2.out) (still_less st (fun k hk => .inl hk))) ⟨fun k => k = W1.heap.size, ((Turn.refl (fun k => k = W1.heap.size) W3).setCell (p := ⟨W1.heap.size, 0, none⟩) (.inl rfl) _).setCell (p := ⟨W1.heap.size, 1, none⟩) (.inl rfl) _, fun k hk e => by
    have h1 := HX.out k hk
    have h2 := HB1.out.size
    omega⟩)
  have x9 : Hid (Lies ((W3.setCell ⟨W1.heap.size, 0, none⟩ (.int .i64 V.1.1)).setCell ⟨W1.heap.size, 1, none⟩ (.int .i64 (V.1.2 : Nat))) W1.heap.size 42 #[.int .i64 V.1.1, .int .i64 (V.1.2 : Nat)]) := Lib.hid (by simpa using (x8.set_ 0 (.int .i64 V.1.1)).set_ 1 (.int .i64 (V.1.2 : Nat)))
  clear p3 st x8
  go_wp2
  obtain ⟨W4, hW4⟩ : ∃ W4, (W3.setCell ⟨W1.heap.size, 0, none⟩ (.int .i64 V.1.1)).setCell ⟨W1.heap.size, 1, none⟩ (.int .i64 (V.1.2 : Nat)) = W4 := ⟨_, rfl⟩
  rw [hW4] at p4 s4 x9 ⊢
  clear hW4 f0 f1 c0 c1
  have r0 : W4.cell? ⟨W1.heap.size, 0, none⟩ = some (.int .i64 V.1.1) := x9.out.cell 0
  have r1 : W4.cell? ⟨W1.heap.size, 1, none⟩ = some (.int .i64 (V.1.2 : Nat)) := x9.out.cell 1
  refine bodyPost_ret (v := .agg #[.int .i64 V.1.1, .int .i64 (V.1.2 : Nat)]) (by simp [results, Tryz.results8, go_sem, r0, r1]) rfl ⟨by rw [HV.out], ?_, s4.out⟩
  rw [HV.out]
  exact four_mono (four_less p4.out (fun k hk => .inl hk)) (Nat.le_refl _) (by omega)
set_option maxRecDepth 100000 in
set_option maxHeartbeats 16000000 in
theorem want_2 (p : Four I X base w W h hm g gm s s2 m m2 Z P) (kd a b c d on now : Int) (hk0 : 0 ≤ kd) (hr : kd % 8 = 2) (hI : Hid (m2 + 1 < 100000 ∧ I64 a ∧ I64 b ∧ I64 c ∧ I64 d ∧ I64 now)) :
    Calls Tryz.prog 8 #[.pointer (some ⟨g, 0, none⟩), .pointer (some ⟨gm, 0, none⟩), .agg #[.int .u8 kd, .int .i64 a, .int .i64 b, .int .i64 c, .int .i64 d, .int .u8 on], .int .i64 now] W fun e w' =>
      e = .returned (.agg #[.int .i64 (actS Z P s2 (kd % 8) a b c d now).1.1, .int .i64 ((actS Z P s2 (kd % 8) a b c d now).1.2 : Nat)]) ∧ Four I X base w w' h hm g gm s (actS Z P s2 (kd % 8) a b c d now).2 m (m2 + 2) Z P ∧ Still X W w' := by
  have HV : Hid (actS Z P s2 (kd % 8) a b c d now = ((0, (moveS Z s2 a b now).1), (moveS Z s2 a b now).2)) := Lib.hid (by unfold actS; rw [hr]; rfl)
  generalize actS Z P s2 (kd % 8) a b c d now = R at *
  have t8 : kd.tmod 8 = 2 := by rw [Int.tmod_eq_emod_of_nonneg hk0]; exact hr
  obtain ⟨W1, hW1⟩ : ∃ W1, W.alloc (.cells #[.int .u8 kd, .int .i64 a, .int .i64 b, .int .i64 c, .int .i64 d, .int .u8 on] 39) = W1 := ⟨_, rfl⟩
  have b1 : Below W.heap.size W W1 := by rw [← hW1]; exact alloc_below W _
  have X6 : Lies W1 W.heap.size 39 #[.int .u8 kd, .int .i64 a, .int .i64 b, .int .i64 c, .int .i64 d, .int .u8 on] := by rw [← hW1]; exact Lies.new W _ _
  obtain ⟨W2, hW2⟩ : ∃ W2, W1.alloc (.cells #[.int .i64 0, .int .i64 0] 42) = W2 := ⟨_, rfl⟩
  have b2 : Below W1.heap.size W1 W2 := by rw [← hW2]; exact alloc_below W1 _
  have X7 := Lib.hid (X6.below b2 X6.lt)
  have X8 : Hid (Lies W2 W1.heap.size 42 #[.int .i64 0, .int .i64 0]) := Lib.hid (by rw [← hW2]; exact Lies.new W1 _ _)
  have p2 := Lib.hid (four_more (four_keep p b1) b2 (Nat.le_refl _) X8.out.lt)
  have B2 := Lib.hid (b1.trans (b2.mono b1.size))
  have k0 : W2.cell? ⟨W.heap.size, 0, none⟩ = some (.int .u8 kd) := X7.out.cell 0
  have k1 : W2.cell? ⟨W.heap.size, 1, none⟩ = some (.int .i64 a) := X7.out.cell 1
  have k2 : W2.cell? ⟨W.heap.size, 2, none⟩ = some (.int .i64 b) := X7.out.cell 2
  have k3 : W2.cell? ⟨W.heap.size, 3, none⟩ = some (.int .i64 c) := X7.out.cell 3
  have k4 : W2.cell? ⟨W.heap.size, 4, none⟩ = some (.int .i64 d) := X7.out.cell 4
  have HB1 := Lib.hid b1
  have HX := Lib.hid (four_lt p)
  clear b1 b2 X6 p
  go_enter Tryz.func8, Tryz.ntmps8
  go_wp2_with fail
  refine (four_move2 p2.out (by have := hI.out.1; omega) a b now).mono ?_
  rintro e W3 ⟨rfl, p3, st⟩
  have x8 := st.lies (.inr rfl) X8.out
  clear k0 k1 k2 k3 k4
  have f0 : W3.frozen? ⟨W1.heap.size, 0, none⟩ = false := x8.frozen 0
  have f1 : W3.frozen? ⟨W1.heap.size, 1, none⟩ = false := x8.frozen 1
  have c0 : W3.cell? ⟨W1.heap.size, 0, none⟩ = some (.int .i64 0) := x8.cell 0
  have c1 : W3.cell? ⟨W1.heap.size, 1, none⟩ = some (.int .i64 0) := x8.cell 1
  generalize moveS Z s2 a b now = V at *
  have p4 := Lib.hid (four_free p3 (T := fun k => k = W1.heap.size) (((Turn.refl (fun k => k = W1.heap.size) W3).setCell (p := ⟨W1.heap.size, 0, none⟩) (.inl rfl) (.int .i64 0)).setCell (p := ⟨W1.heap.size, 1, none⟩) (.inl rfl) (.int .i64 (V.1 : Nat))) (fun k hk => .inr hk))
  have s4 : Hid (Still X W ((W3.setCell ⟨W1.heap.size, 0, none⟩ (.int .i64 0)).setCell ⟨W1.heap.size, 1, none⟩ (.int .i64 (V.1 : Nat)))) := Lib.hid (still_trans (still_trans (still_below B2.out) (still_less st (fun k hk => .inl hk))) ⟨fun k => k = W1.heap.size, ((Turn.refl (fun k => k = W1.heap.size) W3).setCell (p := ⟨W1.heap.size, 0, none⟩) (.inl rfl) _).setCell (p := ⟨W1.heap.size, 1, none⟩) (.inl rfl) _, fun k hk e => by
    have h1 := HX.out k hk
    have h2 := HB1.out.size
    omega⟩)
  have x9 : Hid (Lies ((W3.setCell ⟨W1.heap.size, 0, none⟩ (.int .i64 0)).setCell ⟨W1.heap.size, 1, none⟩ (.int .i64 (V.1 : Nat))) W1.heap.size 42 #[.int .i64 0, .int .i64 (V.1 : Nat)]) := Lib.hid (by simpa using (x8.set_ 0 (.int .i64 0)).set_ 1 (.int .i64 (V.1 : Nat)))
  clear p3 st x8
  go_wp2
  obtain ⟨W4, hW4⟩ : ∃ W4, (W3.setCell ⟨W1.heap.size, 0, none⟩ (.int .i64 0)).setCell ⟨W1.heap.size, 1, none⟩ (.int .i64 (V.1 : Nat)) = W4 := ⟨_, rfl⟩
  rw [hW4] at p4 s4 x9 ⊢
  clear hW4 f0 f1 c0 c1
  have r0 : W4.cell? ⟨W1.heap.size, 0, none⟩ = some (.int .i64 0) := x9.out.cell 0
  have r1 : W4.cell? ⟨W1.heap.size, 1, none⟩ = some (.int .i64 (V.1 : Nat)) := x9.out.cell 1
  refine bodyPost_ret (v := .agg #[.int .i64 0, .int .i64 (V.1 : Nat)]) (by simp [results, Tryz.results8, go_sem, r0, r1]) rfl ⟨by rw [HV.out], ?_, s4.out⟩
  rw [HV.out]
  exact four_mono (four_less p4.out (fun k hk => .inl hk)) (Nat.le_refl _) (by omega)
set_option maxRecDepth 100000 in
set_option maxHeartbeats 16000000 in
theorem want_3 (p : Four I X base w W h hm g gm s s2 m m2 Z P) (kd a b c d on now : Int) (hk0 : 0 ≤ kd) (hr : kd % 8 = 3) (hI : Hid (m2 + 1 < 100000 ∧ I64 a ∧ I64 b ∧ I64 c ∧ I64 d ∧ I64 now)) :
    Calls Tryz.prog 8 #[.pointer (some ⟨g, 0, none⟩), .pointer (some ⟨gm, 0, none⟩), .agg #[.int .u8 kd, .int .i64 a, .int .i64 b, .int .i64 c, .int .i64 d, .int .u8 on], .int .i64 now] W fun e w' =>
      e = .returned (.agg #[.int .i64 (actS Z P s2 (kd % 8) a b c d now).1.1, .int .i64 ((actS Z P s2 (kd % 8) a b c d now).1.2 : Nat)]) ∧ Four I X base w w' h hm g gm s (actS Z P s2 (kd % 8) a b c d now).2 m (m2 + 2) Z P ∧ Still X W w' := by
  have HV : Hid (actS Z P s2 (kd % 8) a b c d now = ((0, (moveS Z s2 a b now).1), (moveS Z s2 a b now).2)) := Lib.hid (by unfold actS; rw [hr]; rfl)
  generalize actS Z P s2 (kd % 8) a b c d now = R at *
  have t8 : kd.tmod 8 = 3 := by rw [Int.tmod_eq_emod_of_nonneg hk0]; exact hr
  obtain ⟨W1, hW1⟩ : ∃ W1, W.alloc (.cells #[.int .u8 kd, .int .i64 a, .int .i64 b, .int .i64 c, .int .i64 d, .int .u8 on] 39) = W1 := ⟨_, rfl⟩
  have b1 : Below W.heap.size W W1 := by rw [← hW1]; exact alloc_below W _
  have X6 : Lies W1 W.heap.size 39 #[.int .u8 kd, .int .i64 a, .int .i64 b, .int .i64 c, .int .i64 d, .int .u8 on] := by rw [← hW1]; exact Lies.new W _ _
  obtain ⟨W2, hW2⟩ : ∃ W2, W1.alloc (.cells #[.int .i64 0, .int .i64 0] 42) = W2 := ⟨_, rfl⟩
  have b2 : Below W1.heap.size W1 W2 := by rw [← hW2]; exact alloc_below W1 _
  have X7 := Lib.hid (X6.below b2 X6.lt)
  have X8 : Hid (Lies W2 W1.heap.size 42 #[.int .i64 0, .int .i64 0]) := Lib.hid (by rw [← hW2]; exact Lies.new W1 _ _)
  have p2 := Lib.hid (four_more (four_keep p b1) b2 (Nat.le_refl _) X8.out.lt)
  have B2 := Lib.hid (b1.trans (b2.mono b1.size))
  have k0 : W2.cell? ⟨W.heap.size, 0, none⟩ = some (.int .u8 kd) := X7.out.cell 0
  have k1 : W2.cell? ⟨W.heap.size, 1, none⟩ = some (.int .i64 a) := X7.out.cell 1
  have k2 : W2.cell? ⟨W.heap.size, 2, none⟩ = some (.int .i64 b) := X7.out.cell 2
  have k3 : W2.cell? ⟨W.heap.size, 3, none⟩ = some (.int .i64 c) := X7.out.cell 3
  have k4 : W2.cell? ⟨W.heap.size, 4, none⟩ = some (.int .i64 d) := X7.out.cell 4
  have HB1 := Lib.hid b1
  have HX := Lib.hid (four_lt p)
  clear b1 b2 X6 p
  go_enter Tryz.func8, Tryz.ntmps8
  go_wp2_with fail
  refine (four_move2 p2.out (by have := hI.out.1; omega) a b now).mono ?_
  rintro e W3 ⟨rfl, p3, st⟩
  have x8 := st.lies (.inr rfl) X8.out
  clear k0 k1 k2 k3 k4
  have f0 : W3.frozen? ⟨W1.heap.size, 0, none⟩ = false := x8.frozen 0
  have f1 : W3.frozen? ⟨W1.heap.size, 1, none⟩ = false := x8.frozen 1
  have c0 : W3.cell? ⟨W1.heap.size, 0, none⟩ = some (.int .i64 0) := x8.cell 0
  have c1 : W3.cell? ⟨W1.heap.size, 1, none⟩ = some (.int .i64 0) := x8.cell 1
  generalize moveS Z s2 a b now = V at *
  have p4 := Lib.hid (four_free p3 (T := fun k => k = W1.heap.size) (((Turn.refl (fun k => k = W1.heap.size) W3).setCell (p := ⟨W1.heap.size, 0, none⟩) (.inl rfl) (.int .i64 0)).setCell (p := ⟨W1.heap.size, 1, none⟩) (.inl rfl) (.int .i64 (V.1 : Nat))) (fun k hk => .inr hk))
  have s4 : Hid (Still X W ((W3.setCell ⟨W1.heap.size, 0, none⟩ (.int .i64 0)).setCell ⟨W1.heap.size, 1, none⟩ (.int .i64 (V.1 : Nat)))) := Lib.hid (still_trans (still_trans (still_below B2.out) (still_less st (fun k hk => .inl hk))) ⟨fun k => k = W1.heap.size, ((Turn.refl (fun k => k = W1.heap.size) W3).setCell (p := ⟨W1.heap.size, 0, none⟩) (.inl rfl) _).setCell (p := ⟨W1.heap.size, 1, none⟩) (.inl rfl) _, fun k hk e => by
    have h1 := HX.out k hk
    have h2 := HB1.out.size
    omega⟩)
  have x9 : Hid (Lies ((W3.setCell ⟨W1.heap.size, 0, none⟩ (.int .i64 0)).setCell ⟨W1.heap.size, 1, none⟩ (.int .i64 (V.1 : Nat))) W1.heap.size 42 #[.int .i64 0, .int .i64 (V.1 : Nat)]) := Lib.hid (by simpa using (x8.set_ 0 (.int .i64 0)).set_ 1 (.int .i64 (V.1 : Nat)))
  clear p3 st x8
  go_wp2
  obtain ⟨W4, hW4⟩ : ∃ W4, (W3.setCell ⟨W1.heap.size, 0, none⟩ (.int .i64 0)).setCell ⟨W1.heap.size, 1, none⟩ (.int .i64 (V.1 : Nat)) = W4 := ⟨_, rfl⟩
  rw [hW4] at p4 s4 x9 ⊢
  clear hW4 f0 f1 c0 c1
  have r0 : W4.cell? ⟨W1.heap.size, 0, none⟩ = some (.int .i64 0) := x9.out.cell 0
  have r1 : W4.cell? ⟨W1.heap.size, 1, none⟩ = some (.int .i64 (V.1 : Nat)) := x9.out.cell 1
  refine bodyPost_ret (v := .agg #[.int .i64 0, .int .i64 (V.1 : Nat)]) (by simp [results, Tryz.results8, go_sem, r0, r1]) rfl ⟨by rw [HV.out], ?_, s4.out⟩
  rw [HV.out]
  exact four_mono (four_less p4.out (fun k hk => .inl hk)) (Nat.le_refl _) (by omega)
set_option maxRecDepth 100000 in
set_option maxHeartbeats 16000000 in
theorem want_4 (p : Four I X base w W h hm g gm s s2 m m2 Z P) (kd a b c d on now : Int) (hk0 : 0 ≤ kd) (hr : kd % 8 = 4) (hI : Hid (m2 + 1 < 100000 ∧ I64 a ∧ I64 b ∧ I64 c ∧ I64 d ∧ I64 now)) :
    Calls Tryz.prog 8 #[.pointer (some ⟨g, 0, none⟩), .pointer (some ⟨gm, 0, none⟩), .agg #[.int .u8 kd, .int .i64 a, .int .i64 b, .int .i64 c, .int .i64 d, .int .u8 on], .int .i64 now] W fun e w' =>
      e = .returned (.agg #[.int .i64 (actS Z P s2 (kd % 8) a b c d now).1.1, .int .i64 ((actS Z P s2 (kd % 8) a b c d now).1.2 : Nat)]) ∧ Four I X base w w' h hm g gm s (actS Z P s2 (kd % 8) a b c d now).2 m (m2 + 2) Z P ∧ Still X W w' := by
  have HV : Hid (actS Z P s2 (kd % 8) a b c d now = splitS s2 a b) := Lib.hid (by unfold actS; rw [hr]; rfl)
  generalize actS Z P s2 (kd % 8) a b c d now = R at *
  have t8 : kd.tmod 8 = 4 := by rw [Int.tmod_eq_emod_of_nonneg hk0]; exact hr
  obtain ⟨W1, hW1⟩ : ∃ W1, W.alloc (.cells #[.int .u8 kd, .int .i64 a, .int .i64 b, .int .i64 c, .int .i64 d, .int .u8 on] 39) = W1 := ⟨_, rfl⟩
  have b1 : Below W.heap.size W W1 := by rw [← hW1]; exact alloc_below W _
  have X6 : Lies W1 W.heap.size 39 #[.int .u8 kd, .int .i64 a, .int .i64 b, .int .i64 c, .int .i64 d, .int .u8 on] := by rw [← hW1]; exact Lies.new W _ _
  obtain ⟨W2, hW2⟩ : ∃ W2, W1.alloc (.cells #[.int .i64 0, .int .i64 0] 42) = W2 := ⟨_, rfl⟩
  have b2 : Below W1.heap.size W1 W2 := by rw [← hW2]; exact alloc_below W1 _
  have X7 := Lib.hid (X6.below b2 X6.lt)
  have X8 : Hid (Lies W2 W1.heap.size 42 #[.int .i64 0, .int .i64 0]) := Lib.hid (by rw [← hW2]; exact Lies.new W1 _ _)
  have p2 := Lib.hid (four_more (four_keep p b1) b2 (Nat.le_refl _) X8.out.lt)
  have B2 := Lib.hid (b1.trans (b2.mono b1.size))
  have k0 : W2.cell? ⟨W.heap.size, 0, none⟩ = some (.int .u8 kd) := X7.out.cell 0
  have k1 : W2.cell? ⟨W.heap.size, 1, none⟩ = some (.int .i64 a) := X7.out.cell 1
  have k2 : W2.cell? ⟨W.heap.size, 2, none⟩ = some (.int .i64 b) := X7.out.cell 2
  have k3 : W2.cell? ⟨W.heap.size, 3, none⟩ = some (.int .i64 c) := X7.out.cell 3
  have k4 : W2.cell? ⟨W.heap.size, 4, none⟩ = some (.int .i64 d) := X7.out.cell 4
  have HB1 := Lib.hid b1
  have HX := Lib.hid (four_lt p)
  clear b1 b2 X6 p
  go_enter Tryz.func8, Tryz.ntmps8
  go_wp2_with fail
  refine (four_split2 p2.out (by have := hI.out.1; omega) a b).mono ?_
  rintro e W3 ⟨rfl, p3, st⟩
  have x8 := st.lies (.inr rfl) X8.out
  clear k0 k1 k2 k3 k4
  have f0 : W3.frozen? ⟨W1.heap.size, 0, none⟩ = false := x8.frozen 0
  have f1 : W3.frozen? ⟨W1.heap.size, 1, none⟩ = false := x8.frozen 1
  have c0 : W3.cell? ⟨W1.heap.size, 0, none⟩ = some (.int .i64 0) := x8.cell 0
  have c1 : W3.cell? ⟨W1.heap.size, 1, none⟩ = some (.int .i64 0) := x8.cell 1
  generalize splitS s2 a b = V at *
  have p4 := Lib.hid (four_free p3 (T := fun k => k = W1.heap.size) (((Turn.refl (fun k => k = W1.heap.size) W3).setCell (p := ⟨W1.heap.size, 0, none⟩) (.inl rfl) (.int .i64 V.1.1)).setCell (p := ⟨W1.heap.size, 1, none⟩) (.inl rfl) (.int .i64 (V.1.2 : Nat))) (fun k hk => .inr hk))
  have s4 : Hid (Still X W ((W3.setCell ⟨W1.heap.size, 0, none⟩ (.int .i64 V.1.1)).setCell ⟨W1.heap.size, 1, none⟩ (.int .i64 (V.1.2 : Nat)))) := Lib.hid (still_trans (still_trans (still_below B2.out) (still_less st (fun k hk => .inl hk))) ⟨fun k => k = W1.heap.size, ((Turn.refl (fun k => k = W1.heap.size) W3).setCell (p := ⟨W1.heap.size, 0, none⟩) (.inl rfl) _).setCell (p := ⟨W1.heap.size, 1, none⟩) (.inl rfl) _, fun k hk e => by
    have h1 := HX.out k hk
    have h2 := HB1.out.size
    omega⟩)
  have x9 : Hid (Lies ((W3.setCell ⟨W1.heap.size, 0, none⟩ (.int .i64 V.1.1)).setCell ⟨W1.heap.size, 1, none⟩ (.int .i64 (V.1.2 : Nat))) W1.heap.size 42 #[.int .i64 V.1.1, .int .i64 (V.1.2 : Nat)]) := Lib.hid (by simpa using (x8.set_ 0 (.int .i64 V.1.1)).set_ 1 (.int .i64 (V.1.2 : Nat)))
  clear p3 st x8
  go_wp2
  obtain ⟨W4, hW4⟩ : ∃ W4, (W3.setCell ⟨W1.heap.size, 0, none⟩ (.int .i64 V.1.1)).setCell ⟨W1.heap.size, 1, none⟩ (.int .i64 (V.1.2 : Nat)) = W4 := ⟨_, rfl⟩
  rw [hW4] at p4 s4 x9 ⊢
  clear hW4 f0 f1 c0 c1
  have r0 : W4.cell? ⟨W1.heap.size, 0, none⟩ = some (.int .i64 V.1.1) := x9.out.cell 0
  have r1 : W4.cell? ⟨W1.heap.size, 1, none⟩ = some (.int .i64 (V.1.2 : Nat)) := x9.out.cell 1
  refine bodyPost_ret (v := .agg #[.int .i64 V.1.1, .int .i64 (V.1.2 : Nat)]) (by simp [results, Tryz.results8, go_sem, r0, r1]) rfl ⟨by rw [HV.out], ?_, s4.out⟩
  rw [HV.out]
  exact four_mono (four_less p4.out (fun k hk => .inl hk)) (Nat.le_refl _) (by omega)
set_option maxRecDepth 100000 in
set_option maxHeartbeats 16000000 in
theorem want_5 (p : Four I X base w W h hm g gm s s2 m m2 Z P) (kd a b c d on now : Int) (hk0 : 0 ≤ kd) (hr : kd % 8 = 5) (_hI : Hid (m2 + 1 < 100000 ∧ I64 a ∧ I64 b ∧ I64 c ∧ I64 d ∧ I64 now)) :
    Calls Tryz.prog 8 #[.pointer (some ⟨g, 0, none⟩), .pointer (some ⟨gm, 0, none⟩), .agg #[.int .u8 kd, .int .i64 a, .int .i64 b, .int .i64 c, .int .i64 d, .int .u8 on], .int .i64 now] W fun e w' =>
      e = .returned (.agg #[.int .i64 (actS Z P s2 (kd % 8) a b c d now).1.1, .int .i64 ((actS Z P s2 (kd % 8) a b c d now).1.2 : Nat)]) ∧ Four I X base w w' h hm g gm s (actS Z P s2 (kd % 8) a b c d now).2 m (m2 + 2) Z P ∧ Still X W w' := by
  have HV : Hid (actS Z P s2 (kd % 8) a b c d now = ((0, (mergeS s2 a b).1), (mergeS s2 a b).2)) := Lib.hid (by unfold actS; rw [hr]; rfl)
  generalize actS Z P s2 (kd % 8) a b c d now = R at *
  have t8 : kd.tmod 8 = 5 := by rw [Int.tmod_eq_emod_of_nonneg hk0]; exact hr
  obtain ⟨W1, hW1⟩ : ∃ W1, W.alloc (.cells #[.int .u8 kd, .int .i64 a, .int .i64 b, .int .i64 c, .int .i64 d, .int .u8 on] 39) = W1 := ⟨_, rfl⟩
  have b1 : Below W.heap.size W W1 := by rw [← hW1]; exact alloc_below W _
  have X6 : Lies W1 W.heap.size 39 #[.int .u8 kd, .int .i64 a, .int .i64 b, .int .i64 c, .int .i64 d, .int .u8 on] := by rw [← hW1]; exact Lies.new W _ _
  obtain ⟨W2, hW2⟩ : ∃ W2, W1.alloc (.cells #[.int .i64 0, .int .i64 0] 42) = W2 := ⟨_, rfl⟩
  have b2 : Below W1.heap.size W1 W2 := by rw [← hW2]; exact alloc_below W1 _
  have X7 := Lib.hid (X6.below b2 X6.lt)
  have X8 : Hid (Lies W2 W1.heap.size 42 #[.int .i64 0, .int .i64 0]) := Lib.hid (by rw [← hW2]; exact Lies.new W1 _ _)
  have p2 := Lib.hid (four_more (four_keep p b1) b2 (Nat.le_refl _) X8.out.lt)
  have B2 := Lib.hid (b1.trans (b2.mono b1.size))
  have k0 : W2.cell? ⟨W.heap.size, 0, none⟩ = some (.int .u8 kd) := X7.out.cell 0
  have k1 : W2.cell? ⟨W.heap.size, 1, none⟩ = some (.int .i64 a) := X7.out.cell 1
  have k2 : W2.cell? ⟨W.heap.size, 2, none⟩ = some (.int .i64 b) := X7.out.cell 2
  have k3 : W2.cell? ⟨W.heap.size, 3, none⟩ = some (.int .i64 c) := X7.out.cell 3
  have k4 : W2.cell? ⟨W.heap.size, 4, none⟩ = some (.int .i64 d) := X7.out.cell 4
  have HB1 := Lib.hid b1
  have HX := Lib.hid (four_lt p)
  clear b1 b2 X6 p
  go_enter Tryz.func8, Tryz.ntmps8
  go_wp2_with fail
  refine (four_merge2 p2.out a b).mono ?_
  rintro e W3 ⟨rfl, p3, st⟩
  have x8 := st.lies (.inr rfl) X8.out
  clear k0 k1 k2 k3 k4
  have f0 : W3.frozen? ⟨W1.heap.size, 0, none⟩ = false := x8.frozen 0
  have f1 : W3.frozen? ⟨W1.heap.size, 1, none⟩ = false := x8.frozen 1
  have c0 : W3.cell? ⟨W1.heap.size, 0, none⟩ = some (.int .i64 0) := x8.cell 0
  have c1 : W3.cell? ⟨W1.heap.size, 1, none⟩ = some (.int .i64 0) := x8.cell 1
  generalize mergeS s2 a b = V at *
  have p4 := Lib.hid (four_free p3 (T := fun k => k = W1.heap.size) (((Turn.refl (fun k => k = W1.heap.size) W3).setCell (p := ⟨W1.heap.size, 0, none⟩) (.inl rfl) (.int .i64 0)).setCell (p := ⟨W1.heap.size, 1, none⟩) (.inl rfl) (.int .i64 (V.1 : Nat))) (fun k hk => .inr hk))
  have s4 : Hid (Still X W ((W3.setCell ⟨W1.heap.size, 0, none⟩ (.int .i64 0)).setCell ⟨W1.heap.size, 1, none⟩ (.int .i64 (V.1 : Nat)))) := Lib.hid (still_trans (still_trans (still_below B2.out) (still_less st (fun k hk => .inl hk))) ⟨fun k => k = W1.heap.size, ((Turn.refl (fun k => k = W1.heap.size) W3).setCell (p := ⟨W1.heap.size, 0, none⟩) (.inl rfl) _).setCell (p := ⟨W1.heap.size, 1, none⟩) (.inl rfl) _, fun k hk e => by
    have h1 := HX.out k hk
    have h2 := HB1.out.size
    omega⟩)
  have x9 : Hid (Lies ((W3.setCell ⟨W1.heap.size, 0, none⟩ (.int .i64 0)).setCell ⟨W1.heap.size, 1, none⟩ (.int .i64 (V.1 : Nat))) W1.heap.size 42 #[.int .i64 0, .int .i64 (V.1 : Nat)]) := Lib.hid (by simpa using (x8.set_ 0 (.int .i64 0)).set_ 1 (.int .i64 (V.1 : Nat)))
  clear p3 st x8
  go_wp2
  obtain ⟨W4, hW4⟩ : ∃ W4, (W3.setCell ⟨W1.heap.size, 0, none⟩ (.int .i64 0)).setCell ⟨W1.heap.size, 1, none⟩ (.int .i64 (V.1 : Nat)) = W4 := ⟨_, rfl⟩
  rw [hW4] at p4 s4 x9 ⊢
  clear hW4 f0 f1 c0 c1
  have r0 : W4.cell? ⟨W1.heap.size, 0, none⟩ = some (.int .i64 0) := x9.out.cell 0
  have r1 : W4.cell? ⟨W1.heap.size, 1, none⟩ = some (.int .i64 (V.1 : Nat)) := x9.out.cell 1
  refine bodyPost_ret (v := .agg #[.int .i64 0, .int .i64 (V.1 : Nat)]) (by simp [results, Tryz.results8, go_sem, r0, r1]) rfl ⟨by rw [HV.out], ?_, s4.out⟩
  rw [HV.out]
  exact four_mono (four_less p4.out (fun k hk => .inl hk)) (Nat.le_refl _) (by omega)
set_option maxRecDepth 100000 in
set_option maxHeartbeats 16000000 in
theorem want_6 (p : Four I X base w W h hm g gm s s2 m m2 Z P) (kd a b c d on now : Int) (hk0 : 0 ≤ kd) (hr : kd % 8 = 6) (hI : Hid (m2 + 1 < 100000 ∧ I64 a ∧ I64 b ∧ I64 c ∧ I64 d ∧ I64 now)) :
    Calls Tryz.prog 8 #[.pointer (some ⟨g, 0, none⟩), .pointer (some ⟨gm, 0, none⟩), .agg #[.int .u8 kd, .int .i64 a, .int .i64 b, .int .i64 c, .int .i64 d, .int .u8 on], .int .i64 now] W fun e w' =>
      e = .returned (.agg #[.int .i64 (actS Z P s2 (kd % 8) a b c d now).1.1, .int .i64 ((actS Z P s2 (kd % 8) a b c d now).1.2 : Nat)]) ∧ Four I X base w w' h hm g gm s (actS Z P s2 (kd % 8) a b c d now).2 m (m2 + 2) Z P ∧ Still X W w' := by
  have HV : Hid (actS Z P s2 (kd % 8) a b c d now = ((0, (markS s2 a b c d).1), (markS s2 a b c d).2)) := Lib.hid (by unfold actS; rw [hr]; rfl)
  generalize actS Z P s2 (kd % 8) a b c d now = R at *
  have t8 : kd.tmod 8 = 6 := by rw [Int.tmod_eq_emod_of_nonneg hk0]; exact hr
  obtain ⟨W1, hW1⟩ : ∃ W1, W.alloc (.cells #[.int .u8 kd, .int .i64 a, .int .i64 b, .int .i64 c, .int .i64 d, .int .u8 on] 39) = W1 := ⟨_, rfl⟩
  have b1 : Below W.heap.size W W1 := by rw [← hW1]; exact alloc_below W _
  have X6 : Lies W1 W.heap.size 39 #[.int .u8 kd, .int .i64 a, .int .i64 b, .int .i64 c, .int .i64 d, .int .u8 on] := by rw [← hW1]; exact Lies.new W _ _
  obtain ⟨W2, hW2⟩ : ∃ W2, W1.alloc (.cells #[.int .i64 0, .int .i64 0] 42) = W2 := ⟨_, rfl⟩
  have b2 : Below W1.heap.size W1 W2 := by rw [← hW2]; exact alloc_below W1 _
  have X7 := Lib.hid (X6.below b2 X6.lt)
  have X8 : Hid (Lies W2 W1.heap.size 42 #[.int .i64 0, .int .i64 0]) := Lib.hid (by rw [← hW2]; exact Lies.new W1 _ _)
  have p2 := Lib.hid (four_more (four_keep p b1) b2 (Nat.le_refl _) X8.out.lt)
  have B2 := Lib.hid (b1.trans (b2.mono b1.size))
  have k0 : W2.cell? ⟨W.heap.size, 0, none⟩ = some (.int .u8 kd) := X7.out.cell 0
  have k1 : W2.cell? ⟨W.heap.size, 1, none⟩ = some (.int .i64 a) := X7.out.cell 1
  have k2 : W2.cell? ⟨W.heap.size, 2, none⟩ = some (.int .i64 b) := X7.out.cell 2
  have k3 : W2.cell? ⟨W.heap.size, 3, none⟩ = some (.int .i64 c) := X7.out.cell 3
  have k4 : W2.cell? ⟨W.heap.size, 4, none⟩ = some (.int .i64 d) := X7.out.cell 4
  have HB1 := Lib.hid b1
  have HX := Lib.hid (four_lt p)
  clear b1 b2 X6 p
  go_enter Tryz.func8, Tryz.ntmps8
  go_wp2_with fail
  refine (four_mark2 p2.out (by have := hI.out.1; omega) a b c d).mono ?_
  rintro e W3 ⟨rfl, p3, st⟩
  have x8 := st.lies (.inr rfl) X8.out
  clear k0 k1 k2 k3 k4
  have f0 : W3.frozen? ⟨W1.heap.size, 0, none⟩ = false := x8.frozen 0
  have f1 : W3.frozen? ⟨W1.heap.size, 1, none⟩ = false := x8.frozen 1
  have c0 : W3.cell? ⟨W1.heap.size, 0, none⟩ = some (.int .i64 0) := x8.cell 0
  have c1 : W3.cell? ⟨W1.heap.size, 1, none⟩ = some (.int .i64 0) := x8.cell 1
  generalize markS s2 a b c d = V at *
  have p4 := Lib.hid (four_free p3 (T := fun k => k = W1.heap.size) (((Turn.refl (fun k => k = W1.heap.size) W3).setCell (p := ⟨W1.heap.size, 0, none⟩) (.inl rfl) (.int .i64 0)).setCell (p := ⟨W1.heap.size, 1, none⟩) (.inl rfl) (.int .i64 (V.1 : Nat))) (fun k hk => .inr hk))
  have s4 : Hid (Still X W ((W3.setCell ⟨W1.heap.size, 0, none⟩ (.int .i64 0)).setCell ⟨W1.heap.size, 1, none⟩ (.int .i64 (V.1 : Nat)))) := Lib.hid (still_trans (still_trans (still_below B2.out) (still_less st (fun k hk => .inl hk))) ⟨fun k => k = W1.heap.size, ((Turn.refl (fun k => k = W1.heap.size) W3).setCell (p := ⟨W1.heap.size, 0, none⟩) (.inl rfl) _).setCell (p := ⟨W1.heap.size, 1, none⟩) (.inl rfl) _, fun k hk e => by
    have h1 := HX.out k hk
    have h2 := HB1.out.size
    omega⟩)
  have x9 : Hid (Lies ((W3.setCell ⟨W1.heap.size, 0, none⟩ (.int .i64 0)).setCell ⟨W1.heap.size, 1, none⟩ (.int .i64 (V.1 : Nat))) W1.heap.size 42 #[.int .i64 0, .int .i64 (V.1 : Nat)]) := Lib.hid (by simpa using (x8.set_ 0 (.int .i64 0)).set_ 1 (.int .i64 (V.1 : Nat)))
  clear p3 st x8
  go_wp2
  obtain ⟨W4, hW4⟩ : ∃ W4, (W3.setCell ⟨W1.heap.size, 0, none⟩ (.int .i64 0)).setCell ⟨W1.heap.size, 1, none⟩ (.int .i64 (V.1 : Nat)) = W4 := ⟨_, rfl⟩
  rw [hW4] at p4 s4 x9 ⊢
  clear hW4 f0 f1 c0 c1
  have r0 : W4.cell? ⟨W1.heap.size, 0, none⟩ = some (.int .i64 0) := x9.out.cell 0
  have r1 : W4.cell? ⟨W1.heap.size, 1, none⟩ = some (.int .i64 (V.1 : Nat)) := x9.out.cell 1
  refine bodyPost_ret (v := .agg #[.int .i64 0, .int .i64 (V.1 : Nat)]) (by simp [results, Tryz.results8, go_sem, r0, r1]) rfl ⟨by rw [HV.out], ?_, s4.out⟩
  rw [HV.out]
  exact four_mono (four_less p4.out (fun k hk => .inl hk)) (Nat.le_refl _) (by omega)
set_option maxRecDepth 100000 in
set_option maxHeartbeats 16000000 in
theorem want_7 (p : Four I X base w W h hm g gm s s2 m m2 Z P) (kd a b c d on now : Int) (hk0 : 0 ≤ kd) (hr : kd % 8 = 7) (hI : Hid (m2 + 1 < 100000 ∧ I64 a ∧ I64 b ∧ I64 c ∧ I64 d ∧ I64 now)) :
    Calls Tryz.prog 8 #[.pointer (some ⟨g, 0, none⟩), .pointer (some ⟨gm, 0, none⟩), .agg #[.int .u8 kd, .int .i64 a, .int .i64 b, .int .i64 c, .int .i64 d, .int .u8 on], .int .i64 now] W fun e w' =>
      e = .returned (.agg #[.int .i64 (actS Z P s2 (kd % 8) a b c d now).1.1, .int .i64 ((actS Z P s2 (kd % 8) a b c d now).1.2 : Nat)]) ∧ Four I X base w w' h hm g gm s (actS Z P s2 (kd % 8) a b c d now).2 m (m2 + 2) Z P ∧ Still X W w' := by
  have HV : Hid (actS Z P s2 (kd % 8) a b c d now = ((0, (leaveS s2 a now).1), (leaveS s2 a now).2)) := Lib.hid (by unfold actS; rw [hr]; rfl)
  generalize actS Z P s2 (kd % 8) a b c d now = R at *
  have t8 : kd.tmod 8 = 7 := by rw [Int.tmod_eq_emod_of_nonneg hk0]; exact hr
  obtain ⟨W1, hW1⟩ : ∃ W1, W.alloc (.cells #[.int .u8 kd, .int .i64 a, .int .i64 b, .int .i64 c, .int .i64 d, .int .u8 on] 39) = W1 := ⟨_, rfl⟩
  have b1 : Below W.heap.size W W1 := by rw [← hW1]; exact alloc_below W _
  have X6 : Lies W1 W.heap.size 39 #[.int .u8 kd, .int .i64 a, .int .i64 b, .int .i64 c, .int .i64 d, .int .u8 on] := by rw [← hW1]; exact Lies.new W _ _
  obtain ⟨W2, hW2⟩ : ∃ W2, W1.alloc (.cells #[.int .i64 0, .int .i64 0] 42) = W2 := ⟨_, rfl⟩
  have b2 : Below W1.heap.size W1 W2 := by rw [← hW2]; exact alloc_below W1 _
  have X7 := Lib.hid (X6.below b2 X6.lt)
  have X8 : Hid (Lies W2 W1.heap.size 42 #[.int .i64 0, .int .i64 0]) := Lib.hid (by rw [← hW2]; exact Lies.new W1 _ _)
  have p2 := Lib.hid (four_more (four_keep p b1) b2 (Nat.le_refl _) X8.out.lt)
  have B2 := Lib.hid (b1.trans (b2.mono b1.size))
  have k0 : W2.cell? ⟨W.heap.size, 0, none⟩ = some (.int .u8 kd) := X7.out.cell 0
  have k1 : W2.cell? ⟨W.heap.size, 1, none⟩ = some (.int .i64 a) := X7.out.cell 1
  have k2 : W2.cell? ⟨W.heap.size, 2, none⟩ = some (.int .i64 b) := X7.out.cell 2
  have k3 : W2.cell? ⟨W.heap.size, 3, none⟩ = some (.int .i64 c) := X7.out.cell 3
  have k4 : W2.cell? ⟨W.heap.size, 4, none⟩ = some (.int .i64 d) := X7.out.cell 4
  have HB1 := Lib.hid b1
  have HX := Lib.hid (four_lt p)
  clear b1 b2 X6 p
  go_enter Tryz.func8, Tryz.ntmps8
  go_wp2_with fail
  refine (four_leave2 p2.out (by have := hI.out.1; omega) a now).mono ?_
  rintro e W3 ⟨rfl, p3, st⟩
  have x8 := st.lies (.inr rfl) X8.out
  clear k0 k1 k2 k3 k4
  have f0 : W3.frozen? ⟨W1.heap.size, 0, none⟩ = false := x8.frozen 0
  have f1 : W3.frozen? ⟨W1.heap.size, 1, none⟩ = false := x8.frozen 1
  have c0 : W3.cell? ⟨W1.heap.size, 0, none⟩ = some (.int .i64 0) := x8.cell 0
  have c1 : W3.cell? ⟨W1.heap.size, 1, none⟩ = some (.int .i64 0) := x8.cell 1
  generalize leaveS s2 a now = V at *
  have p4 := Lib.hid (four_free p3 (T := fun k => k = W1.heap.size) (((Turn.refl (fun k => k = W1.heap.size) W3).setCell (p := ⟨W1.heap.size, 0, none⟩) (.inl rfl) (.int .i64 0)).setCell (p := ⟨W1.heap.size, 1, none⟩) (.inl rfl) (.int .i64 (V.1 : Nat))) (fun k hk => .inr hk))
  have s4 : Hid (Still X W ((W3.setCell ⟨W1.heap.size, 0, none⟩ (.int .i64 0)).setCell ⟨W1.heap.size, 1, none⟩ (.int .i64 (V.1 : Nat)))) := Lib.hid (still_trans (still_trans (still_below B2.out) (still_less st (fun k hk => .inl hk))) ⟨fun k => k = W1.heap.size, ((Turn.refl (fun k => k = W1.heap.size) W3).setCell (p := ⟨W1.heap.size, 0, none⟩) (.inl rfl) _).setCell (p := ⟨W1.heap.size, 1, none⟩) (.inl rfl) _, fun k hk e => by
    have h1 := HX.out k hk
    have h2 := HB1.out.size
    omega⟩)
  have x9 : Hid (Lies ((W3.setCell ⟨W1.heap.size, 0, none⟩ (.int .i64 0)).setCell ⟨W1.heap.size, 1, none⟩ (.int .i64 (V.1 : Nat))) W1.heap.size 42 #[.int .i64 0, .int .i64 (V.1 : Nat)]) := Lib.hid (by simpa using (x8.set_ 0 (.int .i64 0)).set_ 1 (.int .i64 (V.1 : Nat)))
  clear p3 st x8
  go_wp2
  obtain ⟨W4, hW4⟩ : ∃ W4, (W3.setCell ⟨W1.heap.size, 0, none⟩ (.int .i64 0)).setCell ⟨W1.heap.size, 1, none⟩ (.int .i64 (V.1 : Nat)) = W4 := ⟨_, rfl⟩
  rw [hW4] at p4 s4 x9 ⊢
  clear hW4 f0 f1 c0 c1
  have r0 : W4.cell? ⟨W1.heap.size, 0, none⟩ = some (.int .i64 0) := x9.out.cell 0
  have r1 : W4.cell? ⟨W1.heap.size, 1, none⟩ = some (.int .i64 (V.1 : Nat)) := x9.out.cell 1
  refine bodyPost_ret (v := .agg #[.int .i64 0, .int .i64 (V.1 : Nat)]) (by simp [results, Tryz.results8, go_sem, r0, r1]) rfl ⟨by rw [HV.out], ?_, s4.out⟩
  rw [HV.out]
  exact four_mono (four_less p4.out (fun k hk => .inl hk)) (Nat.le_refl _) (by omega)
theorem do_any (p : Four I X base w W h hm g gm s s2 m m2 Z P) (kd a b c d on now : Int) (hk0 : 0 ≤ kd) (hI : Hid (m + 1 < 100000 ∧ I64 a ∧ I64 b ∧ I64 c ∧ I64 d ∧ I64 now)) :
    Calls Tryz.prog 7 #[.pointer (some ⟨h, 0, none⟩), .pointer (some ⟨hm, 0, none⟩), .agg #[.int .u8 kd, .int .i64 a, .int .i64 b, .int .i64 c, .int .i64 d, .int .u8 on], .int .i64 now] W fun e w' =>
      e = .returned (.agg #[.int .i64 (actS Z P s (kd % 8) a b c d now).1.1, .int .i64 ((actS Z P s (kd % 8) a b c d now).1.2 : Nat)]) ∧ Four I X base w w' h hm g gm (actS Z P s (kd % 8) a b c d now).2 s2 (m + 2) m2 Z P ∧ Still X W w' := by
  have hr : kd % 8 = 0 ∨ kd % 8 = 1 ∨ kd % 8 = 2 ∨ kd % 8 = 3 ∨ kd % 8 = 4 ∨ kd % 8 = 5 ∨ kd % 8 = 6 ∨ kd % 8 = 7 := by omega
  rcases hr with hr | hr | hr | hr | hr | hr | hr | hr
  · exact do_0 p kd a b c d on now hk0 hr hI
  · exact do_1 p kd a b c d on now hk0 hr hI
  · exact do_2 p kd a b c d on now hk0 hr hI
  · exact do_3 p kd a b c d on now hk0 hr hI
  · exact do_4 p kd a b c d on now hk0 hr hI
  · exact do_5 p kd a b c d on now hk0 hr hI
  · exact do_6 p kd a b c d on now hk0 hr hI
  · exact do_7 p kd a b c d on now hk0 hr hI
theorem want_any (p : Four I X base w W h hm g gm s s2 m m2 Z P) (kd a b c d on now : Int) (hk0 : 0 ≤ kd) (hI : Hid (m2 + 1 < 100000 ∧ I64 a ∧ I64 b ∧ I64 c ∧ I64 d ∧ I64 now)) :
    Calls Tryz.prog 8 #[.pointer (some ⟨g, 0, none⟩), .pointer (some ⟨gm, 0, none⟩), .agg #[.int .u8 kd, .int .i64 a, .int .i64 b, .int .i64 c, .int .i64 d, .int .u8 on], .int .i64 now] W fun e w' =>
      e = .returned (.agg #[.int .i64 (actS Z P s2 (kd % 8) a b c d now).1.1, .int .i64 ((actS Z P s2 (kd % 8) a b c d now).1.2 : Nat)]) ∧ Four I X base w w' h hm g gm s (actS Z P s2 (kd % 8) a b c d now).2 m (m2 + 2) Z P ∧ Still X W w' := by
  have hr : kd % 8 = 0 ∨ kd % 8 = 1 ∨ kd % 8 = 2 ∨ kd % 8 = 3 ∨ kd % 8 = 4 ∨ kd % 8 = 5 ∨ kd % 8 = 6 ∨ kd % 8 = 7 := by omega
  rcases hr with hr | hr | hr | hr | hr | hr | hr | hr
  · exact want_0 p kd a b c d on now hk0 hr hI
  · exact want_1 p kd a b c d on now hk0 hr hI
  · exact want_2 p kd a b c d on now hk0 hr hI
  · exact want_3 p kd a b c d on now hk0 hr hI
  · exact want_4 p kd a b c d on now hk0 hr hI
  · exact want_5 p kd a b c d on now hk0 hr hI
  · exact want_6 p kd a b c d on now hk0 hr hI
  · exact want_7 p kd a b c d on now hk0 hr hI
end
end Lo
end Go.Proofs.YtkfmkchonlajpaaGreat
