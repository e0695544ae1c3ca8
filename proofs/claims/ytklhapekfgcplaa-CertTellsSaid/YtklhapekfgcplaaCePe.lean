/- Walks over package cert: one more certificate; a nil book; the laws of layer 17 over package cert. No condition but those written. -/
import Derived.Test.YtklhapekfgcplaaCePc
import Derived.Test.YtklhapekfgcplaaCePd
import Derived.Test.YtklhapekfgcplaaCeP
import Derived.Test.YtklhapekfgcplaaRng
import Derived.Deep.RegionLaw
import Derived.Deep.CutRange
namespace Go.Proofs.Ytklhapekfgcplaa
open Go.RowKit

namespace Ce
set_option maxRecDepth 100000 in
set_option maxHeartbeats 8000000 in
theorem pissue_no (B h : Nat) (F : Nat → Prop) (l : List Ct) (x : Ct) (w : World) (hd : DBo w B h F l) (hr : rightB x = false) : Calls Try.prog 15 #[.pointer (some ⟨h, 0, none⟩), cval x] w fun e w' => e = .returned (.tuple #[.int .i64 (issueF l x).2.1, .int .i64 (issueF l x).2.2]) ∧ Left DBo w B h F (issueF l x).1 w' := by
  have HE : Hid (issueF l x = (l, 0, 1)) := Lib.hid (by unfold issueF; rw [hr, if_neg Bool.false_ne_true])
  rw [HE.out]
  have SL := Lib.hid (fun W (hW : Below w.heap.size w W) => same_left hd hW)
  have R := Lib.hid (fun W => pright_any x W)
  rw [hr] at R
  obtain ⟨ka, kb, kc, kd, ke, kf, kg, kh⟩ := x
  simp only [cval] at R ⊢
  have B0 := Lib.hid (alloc_below w (.cells #[.int .i64 ka, .int .i64 kb, .int .i64 kc, .int .i64 kd, .int .i64 ke, .int .i64 kf, .int .i64 kg, .int .i64 kh] 23))
  have X0 := Lib.hid (Lies.new w 23 #[.int .i64 ka, .int .i64 kb, .int .i64 kc, .int .i64 kd, .int .i64 ke, .int .i64 kf, .int .i64 kg, .int .i64 kh])
  have x0 : (w.alloc (.cells #[.int .i64 ka, .int .i64 kb, .int .i64 kc, .int .i64 kd, .int .i64 ke, .int .i64 kf, .int .i64 kg, .int .i64 kh] 23)).cell? ⟨w.heap.size, 0, none⟩ = some (.int .i64 ka) := X0.out.cell 0
  have x1 : (w.alloc (.cells #[.int .i64 ka, .int .i64 kb, .int .i64 kc, .int .i64 kd, .int .i64 ke, .int .i64 kf, .int .i64 kg, .int .i64 kh] 23)).cell? ⟨w.heap.size, 1, none⟩ = some (.int .i64 kb) := X0.out.cell 1
  have x2 : (w.alloc (.cells #[.int .i64 ka, .int .i64 kb, .int .i64 kc, .int .i64 kd, .int .i64 ke, .int .i64 kf, .int .i64 kg, .int .i64 kh] 23)).cell? ⟨w.heap.size, 2, none⟩ = some (.int .i64 kc) := X0.out.cell 2
  have x3 : (w.alloc (.cells #[.int .i64 ka, .int .i64 kb, .int .i64 kc, .int .i64 kd, .int .i64 ke, .int .i64 kf, .int .i64 kg, .int .i64 kh] 23)).cell? ⟨w.heap.size, 3, none⟩ = some (.int .i64 kd) := X0.out.cell 3
  have x4 : (w.alloc (.cells #[.int .i64 ka, .int .i64 kb, .int .i64 kc, .int .i64 kd, .int .i64 ke, .int .i64 kf, .int .i64 kg, .int .i64 kh] 23)).cell? ⟨w.heap.size, 4, none⟩ = some (.int .i64 ke) := X0.out.cell 4
  have x5 : (w.alloc (.cells #[.int .i64 ka, .int .i64 kb, .int .i64 kc, .int .i64 kd, .int .i64 ke, .int .i64 kf, .int .i64 kg, .int .i64 kh] 23)).cell? ⟨w.heap.size, 5, none⟩ = some (.int .i64 kf) := X0.out.cell 5
  have x6 : (w.alloc (.cells #[.int .i64 ka, .int .i64 kb, .int .i64 kc, .int .i64 kd, .int .i64 ke, .int .i64 kf, .int .i64 kg, .int .i64 kh] 23)).cell? ⟨w.heap.size, 6, none⟩ = some (.int .i64 kg) := X0.out.cell 6
  have x7 : (w.alloc (.cells #[.int .i64 ka, .int .i64 kb, .int .i64 kc, .int .i64 kd, .int .i64 ke, .int .i64 kf, .int .i64 kg, .int .i64 kh] 23)).cell? ⟨w.heap.size, 7, none⟩ = some (.int .i64 kh) := X0.out.cell 7
  clear hd hr HE X0
  go_enter Try.func15, Try.ntmps15
  go_wp2_with fail
  refine (R.out _).mono ?_
  rintro e w1 ⟨rfl, hb⟩
  have B1 := Lib.hid (B0.out.trans (hb.mono B0.out.size))
  clear hb B0 R x0 x1 x2 x3 x4 x5 x6 x7
  go_wp2
  go_ret2
  exact ⟨rfl, SL.out _ B1.out⟩
set_option maxRecDepth 100000 in
set_option maxHeartbeats 8000000 in
theorem pissue_yes (B h : Nat) (F : Nat → Prop) (l : List Ct) (x : Ct) (w : World) (hd : DBo w B h F l) (hl : l.length ≤ 100000) (hr : rightB x = true) : Calls Try.prog 15 #[.pointer (some ⟨h, 0, none⟩), cval x] w fun e w' => e = .returned (.tuple #[.int .i64 (issueF l x).2.1, .int .i64 (issueF l x).2.2]) ∧ Left DBo w B h F (issueF l x).1 w' := by
  have HE : Hid (issueF l x = (l ++ [{ x with id := (l.length : Int) + 1 }], (l.length : Int) + 1, 0)) := Lib.hid (by unfold issueF; rw [hr, if_pos rfl])
  rw [HE.out]
  obtain ⟨v, hp, hF⟩ := hd
  obtain ⟨p, c, rfl, hc, _⟩ := hp.read
  have HF := Lib.hid hF
  have HB := Lib.hid hp.1
  have HH := Lib.hid hp.2.1
  have HO := Lib.hid hp.2.2.1
  have HS := Lib.hid hp.2.2.2
  have HL := Lib.hid hl
  have R := Lib.hid (fun W => pright_any x W)
  rw [hr] at R
  obtain ⟨i0, hi0, hz0, hz1, hz2⟩ := info_ct
  obtain ⟨ka, kb, kc, kd, ke, kf, kg, kh⟩ := x
  simp only [cval] at R ⊢
  have B0 := Lib.hid (alloc_below w (.cells #[.int .i64 ka, .int .i64 kb, .int .i64 kc, .int .i64 kd, .int .i64 ke, .int .i64 kf, .int .i64 kg, .int .i64 kh] 23))
  have X0 := Lib.hid (Lies.new w 23 #[.int .i64 ka, .int .i64 kb, .int .i64 kc, .int .i64 kd, .int .i64 ke, .int .i64 kf, .int .i64 kg, .int .i64 kh])
  obtain ⟨w1, hw1⟩ : ∃ w1, w.alloc (.cells #[.int .i64 ka, .int .i64 kb, .int .i64 kc, .int .i64 kd, .int .i64 ke, .int .i64 kf, .int .i64 kg, .int .i64 kh] 23) = w1 := ⟨_, rfl⟩
  rw [hw1] at B0 X0
  have t9 : (l.length : Int) ≤ 100000 := by omega
  have x0 : w1.cell? ⟨w.heap.size, 0, none⟩ = some (.int .i64 ka) := X0.out.cell 0
  have x1 : w1.cell? ⟨w.heap.size, 1, none⟩ = some (.int .i64 kb) := X0.out.cell 1
  have x2 : w1.cell? ⟨w.heap.size, 2, none⟩ = some (.int .i64 kc) := X0.out.cell 2
  have x3 : w1.cell? ⟨w.heap.size, 3, none⟩ = some (.int .i64 kd) := X0.out.cell 3
  have x4 : w1.cell? ⟨w.heap.size, 4, none⟩ = some (.int .i64 ke) := X0.out.cell 4
  have x5 : w1.cell? ⟨w.heap.size, 5, none⟩ = some (.int .i64 kf) := X0.out.cell 5
  have x6 : w1.cell? ⟨w.heap.size, 6, none⟩ = some (.int .i64 kg) := X0.out.cell 6
  have x7 : w1.cell? ⟨w.heap.size, 7, none⟩ = some (.int .i64 kh) := X0.out.cell 7
  clear hp hF hl hr HE hc
  go_enter Try.func15, Try.ntmps15
  go_wp2_with fail
  refine (R.out _).mono ?_
  rintro e w2 ⟨rfl, hb⟩
  have B2 := Lib.hid (B0.out.trans (hb.mono B0.out.size))
  have X2 := Lib.hid (X0.out.below hb X0.out.lt)
  have H2 := Lib.hid (HH.out.below B2.out HH.out.lt)
  clear hb B0 X0 R hw1 x0 x1 x2 x3 x4 x5 x6 x7
  have l0 : w2.cell? ⟨h, 0, none⟩ = some (.slice p l.length c) := H2.out.cell 0
  have x0 : w2.cell? ⟨w.heap.size, 0, none⟩ = some (.int .i64 ka) := X2.out.cell 0
  have f0 : w2.frozen? ⟨w.heap.size, 0, none⟩ = false := X2.out.frozen 0
  go_upto_region 4 with fail
  have X3 : Hid (Lies (w2.setCell ⟨w.heap.size, 0, none⟩ (.int .i64 ((l.length : Int) + 1))) w.heap.size 23 #[.int .i64 ((l.length : Int) + 1), .int .i64 kb, .int .i64 kc, .int .i64 kd, .int .i64 ke, .int .i64 kf, .int .i64 kg, .int .i64 kh]) := Lib.hid (by simpa using X2.out.set_ 0 (.int .i64 ((l.length : Int) + 1)))
  have B3 := Lib.hid (B2.out.setCell (p := ⟨w.heap.size, 0, none⟩) (Nat.le_refl _) (.int .i64 ((l.length : Int) + 1)))
  clear x0 f0 l0 X2 B2 H2
  generalize w2.setCell ⟨w.heap.size, 0, none⟩ (.int .i64 ((l.length : Int) + 1)) = w3 at *
  have B4 := Lib.hid B3.out.drew
  have X4 := Lib.hid (show Lies w3.drew w.heap.size 23 #[.int .i64 ((l.length : Int) + 1), .int .i64 kb, .int .i64 kc, .int .i64 kd, .int .i64 ke, .int .i64 kf, .int .i64 kg, .int .i64 kh] from X3.out.below (Below.refl w3.heap.size w3).drew X3.out.lt)
  have H4 := Lib.hid (HH.out.below B4.out HH.out.lt)
  have O4 := Lib.hid (own_turn HO.out (S := fun _ => False) (Turn.of_below B4.out) (fun _ _ hf => hf))
  have yh : w3.drew.cell? ⟨h, 0, none⟩ = some (.slice p l.length c) := H4.out.cell 0
  have y0 : w3.drew.cell? ⟨w.heap.size, 0, none⟩ = some (.int .i64 ((l.length : Int) + 1)) := X4.out.cell 0
  have y1 : w3.drew.cell? ⟨w.heap.size, 1, none⟩ = some (.int .i64 kb) := X4.out.cell 1
  have y2 : w3.drew.cell? ⟨w.heap.size, 2, none⟩ = some (.int .i64 kc) := X4.out.cell 2
  have y3 : w3.drew.cell? ⟨w.heap.size, 3, none⟩ = some (.int .i64 kd) := X4.out.cell 3
  have y4 : w3.drew.cell? ⟨w.heap.size, 4, none⟩ = some (.int .i64 ke) := X4.out.cell 4
  have y5 : w3.drew.cell? ⟨w.heap.size, 5, none⟩ = some (.int .i64 kf) := X4.out.cell 5
  have y6 : w3.drew.cell? ⟨w.heap.size, 6, none⟩ = some (.int .i64 kg) := X4.out.cell 6
  have y7 : w3.drew.cell? ⟨w.heap.size, 7, none⟩ = some (.int .i64 kh) := X4.out.cell 7
  refine region_T 8 (fun w' => w'.cell? ⟨h, 0, none⟩ = some (.slice p l.length c) ∧ w'.cell? ⟨w.heap.size, 0, none⟩ = some (.int .i64 ((l.length : Int) + 1)) ∧ w'.cell? ⟨w.heap.size, 1, none⟩ = some (.int .i64 kb) ∧ w'.cell? ⟨w.heap.size, 2, none⟩ = some (.int .i64 kc) ∧ w'.cell? ⟨w.heap.size, 3, none⟩ = some (.int .i64 kd) ∧ w'.cell? ⟨w.heap.size, 4, none⟩ = some (.int .i64 ke) ∧ w'.cell? ⟨w.heap.size, 5, none⟩ = some (.int .i64 kf) ∧ w'.cell? ⟨w.heap.size, 6, none⟩ = some (.int .i64 kg) ∧ w'.cell? ⟨w.heap.size, 7, none⟩ = some (.int .i64 kh)) (by kernel_rfl) ⟨yh, y0, y1, y2, y3, y4, y5, y6, y7⟩ (fun hS => ?_)
  clear yh y0 y1 y2 y3 y4 y5 y6 y7
  clear X3 B3
  refine takeL (i := 0) (v := ?_) rfl (by kernel_rfl) (by kernel_rfl) (by kernel_rfl) (by kernel_rfl) (by kernel_rfl) (fun _ _ _ h => h) (Or.inl ⟨by rfl, ?_⟩) (by assumption) ?_
  rotate_left
  · (intro w' hSw; (try dsimp only at hSw); go_simp; with_reducible rfl)
  try simp only [Act.put, List.setIfInBounds_toArray, List.set_cons_zero, List.set_cons_succ]
  refine takeL (i := 1) (v := ?_) rfl (by kernel_rfl) (by kernel_rfl) (by kernel_rfl) (by kernel_rfl) (by kernel_rfl) (fun _ _ _ h => h) (Or.inl ⟨by rfl, ?_⟩) (by assumption) ?_
  rotate_left
  · (intro w' hSw; (try dsimp only at hSw); go_simp; with_reducible rfl)
  try simp only [Act.put, List.setIfInBounds_toArray, List.set_cons_zero, List.set_cons_succ]
  refine takeL (i := 2) (v := ?_) rfl (by kernel_rfl) (by kernel_rfl) (by kernel_rfl) (by kernel_rfl) (by kernel_rfl) (fun _ _ _ h => h) (Or.inl ⟨by rfl, ?_⟩) (by assumption) ?_
  rotate_left
  · (intro w' hSw; (try dsimp only at hSw); go_simp; with_reducible rfl)
  try simp only [Act.put, List.setIfInBounds_toArray, List.set_cons_zero, List.set_cons_succ]
  refine takeL (i := 3) (v := ?_) rfl (by kernel_rfl) (by kernel_rfl) (by kernel_rfl) (by kernel_rfl) (by kernel_rfl) (fun _ _ _ h => h) (Or.inl ⟨by rfl, ?_⟩) (by assumption) ?_
  rotate_left
  · (intro w' hSw; (try dsimp only at hSw); go_simp; with_reducible rfl)
  try simp only [Act.put, List.setIfInBounds_toArray, List.set_cons_zero, List.set_cons_succ]
  refine takeL (i := 4) (v := ?_) rfl (by kernel_rfl) (by kernel_rfl) (by kernel_rfl) (by kernel_rfl) (by kernel_rfl) (fun _ _ _ h => h) (Or.inl ⟨by rfl, ?_⟩) (by assumption) ?_
  rotate_left
  · (intro w' hSw; (try dsimp only at hSw); go_simp; with_reducible rfl)
  try simp only [Act.put, List.setIfInBounds_toArray, List.set_cons_zero, List.set_cons_succ]
  refine takeL (i := 5) (v := ?_) rfl (by kernel_rfl) (by kernel_rfl) (by kernel_rfl) (by kernel_rfl) (by kernel_rfl) (fun _ _ _ h => h) (Or.inl ⟨by rfl, ?_⟩) (by assumption) ?_
  rotate_left
  · (intro w' hSw; (try dsimp only at hSw); go_simp; with_reducible rfl)
  try simp only [Act.put, List.setIfInBounds_toArray, List.set_cons_zero, List.set_cons_succ]
  refine oneL (i := 6) (by kernel_rfl) rfl (fun K hK => ?_)
  go_simp
  have RO := Lib.hid (Ra.rw_one (k := 8) (enc := ccells) w3.drew 23 (⟨(l.length : Int) + 1, kb, kc, kd, ke, kf, kg, kh⟩ : Ct))
  have O5 := Lib.hid (O4.out.alloc (.cells #[.int .i64 ((l.length : Int) + 1), .int .i64 kb, .int .i64 kc, .int .i64 kd, .int .i64 ke, .int .i64 kf, .int .i64 kg, .int .i64 kh] 23))
  have X5 := Lib.hid (X4.out.alloc (.cells #[.int .i64 ((l.length : Int) + 1), .int .i64 kb, .int .i64 kc, .int .i64 kd, .int .i64 ke, .int .i64 kf, .int .i64 kg, .int .i64 kh] 23))
  have H5 := Lib.hid (H4.out.alloc (.cells #[.int .i64 ((l.length : Int) + 1), .int .i64 kb, .int .i64 kc, .int .i64 kd, .int .i64 ke, .int .i64 kf, .int .i64 kg, .int .i64 kh] 23))
  have NE := Lib.hid (fun k (hk : (Value.slice p l.length c).ownBlock = some k) => (own_lt HO.out hk).2)
  have yh : (w3.drew.alloc (.cells #[.int .i64 ((l.length : Int) + 1), .int .i64 kb, .int .i64 kc, .int .i64 kd, .int .i64 ke, .int .i64 kf, .int .i64 kg, .int .i64 kh] 23)).cell? ⟨h, 0, none⟩ = some (.slice p l.length c) := H5.out.cell 0
  have y0 : (w3.drew.alloc (.cells #[.int .i64 ((l.length : Int) + 1), .int .i64 kb, .int .i64 kc, .int .i64 kd, .int .i64 ke, .int .i64 kf, .int .i64 kg, .int .i64 kh] 23)).cell? ⟨w.heap.size, 0, none⟩ = some (.int .i64 ((l.length : Int) + 1)) := X5.out.cell 0
  have y1 : (w3.drew.alloc (.cells #[.int .i64 ((l.length : Int) + 1), .int .i64 kb, .int .i64 kc, .int .i64 kd, .int .i64 ke, .int .i64 kf, .int .i64 kg, .int .i64 kh] 23)).cell? ⟨w.heap.size, 1, none⟩ = some (.int .i64 kb) := X5.out.cell 1
  have y2 : (w3.drew.alloc (.cells #[.int .i64 ((l.length : Int) + 1), .int .i64 kb, .int .i64 kc, .int .i64 kd, .int .i64 ke, .int .i64 kf, .int .i64 kg, .int .i64 kh] 23)).cell? ⟨w.heap.size, 2, none⟩ = some (.int .i64 kc) := X5.out.cell 2
  have y3 : (w3.drew.alloc (.cells #[.int .i64 ((l.length : Int) + 1), .int .i64 kb, .int .i64 kc, .int .i64 kd, .int .i64 ke, .int .i64 kf, .int .i64 kg, .int .i64 kh] 23)).cell? ⟨w.heap.size, 3, none⟩ = some (.int .i64 kd) := X5.out.cell 3
  have y4 : (w3.drew.alloc (.cells #[.int .i64 ((l.length : Int) + 1), .int .i64 kb, .int .i64 kc, .int .i64 kd, .int .i64 ke, .int .i64 kf, .int .i64 kg, .int .i64 kh] 23)).cell? ⟨w.heap.size, 4, none⟩ = some (.int .i64 ke) := X5.out.cell 4
  have y5 : (w3.drew.alloc (.cells #[.int .i64 ((l.length : Int) + 1), .int .i64 kb, .int .i64 kc, .int .i64 kd, .int .i64 ke, .int .i64 kf, .int .i64 kg, .int .i64 kh] 23)).cell? ⟨w.heap.size, 5, none⟩ = some (.int .i64 kf) := X5.out.cell 5
  have y6 : (w3.drew.alloc (.cells #[.int .i64 ((l.length : Int) + 1), .int .i64 kb, .int .i64 kc, .int .i64 kd, .int .i64 ke, .int .i64 kf, .int .i64 kg, .int .i64 kh] 23)).cell? ⟨w.heap.size, 6, none⟩ = some (.int .i64 kg) := X5.out.cell 6
  have y7 : (w3.drew.alloc (.cells #[.int .i64 ((l.length : Int) + 1), .int .i64 kb, .int .i64 kc, .int .i64 kd, .int .i64 ke, .int .i64 kf, .int .i64 kg, .int .i64 kh] 23)).cell? ⟨w.heap.size, 7, none⟩ = some (.int .i64 kh) := X5.out.cell 7
  refine hK.out _ _ (fun _ => ⟨yh, y0, y1, y2, y3, y4, y5, y6, y7⟩) ?_
  clear hK K
  try simp only [Act.put, List.setIfInBounds_toArray, List.set_cons_zero, List.set_cons_succ]
  clear yh y0 y1 y2 y3 y4 y5 y6 y7
  refine oneL (i := 7) (by kernel_rfl) rfl (fun K hK => ?_)
  refine Ra.step_app ccells_len ccells_one Try.underlying34 hi0 hz0 hz1 hz2 rfl (by decide) rfl _ _ rfl O5.out rfl RO.out rfl (by unfold maxLen; have := HL.out; omega) (by have := HL.out; omega) (Nat.le_trans (Nat.le_trans HS.out B4.out.size) (alloc_below w3.drew _).size) ?_
  intro q d w6 ho hg hbk
  have AP := Lib.hid (more_after HB.out H4.out O4.out (Nat.le_trans HS.out B4.out.size) HF.out ho hg hbk)
  have X6 := Lib.hid (X5.out.grown hg (fun e => absurd (NE.out _ e.symm) (Nat.lt_irrefl _)))
  have HNE := Lib.hid (Nat.ne_of_lt HH.out.lt)
  have X7 := Lib.hid (X6.out.turn ((Turn.refl (fun k => k = h) w6).setCell (p := ⟨h, 0, none⟩) (.inl rfl) (.slice q (l.length + 1) d)) (fun e => HNE.out e.symm))
  have l1 : w6.cell? ⟨h, 0, none⟩ = some (.slice p l.length c) := AP.out.1.cell 0
  have f1 : w6.frozen? ⟨h, 0, none⟩ = false := AP.out.1.frozen 0
  clear ho hg hbk
  have yh : w6.cell? ⟨h, 0, none⟩ = some (.slice p l.length c) := AP.out.1.cell 0
  have y0 : w6.cell? ⟨w.heap.size, 0, none⟩ = some (.int .i64 ((l.length : Int) + 1)) := X6.out.cell 0
  have y1 : w6.cell? ⟨w.heap.size, 1, none⟩ = some (.int .i64 kb) := X6.out.cell 1
  have y2 : w6.cell? ⟨w.heap.size, 2, none⟩ = some (.int .i64 kc) := X6.out.cell 2
  have y3 : w6.cell? ⟨w.heap.size, 3, none⟩ = some (.int .i64 kd) := X6.out.cell 3
  have y4 : w6.cell? ⟨w.heap.size, 4, none⟩ = some (.int .i64 ke) := X6.out.cell 4
  have y5 : w6.cell? ⟨w.heap.size, 5, none⟩ = some (.int .i64 kf) := X6.out.cell 5
  have y6 : w6.cell? ⟨w.heap.size, 6, none⟩ = some (.int .i64 kg) := X6.out.cell 6
  have y7 : w6.cell? ⟨w.heap.size, 7, none⟩ = some (.int .i64 kh) := X6.out.cell 7
  refine hK.out _ _ (fun _ => ⟨yh, y0, y1, y2, y3, y4, y5, y6, y7⟩) ?_
  clear hK K
  try simp only [Act.put, List.setIfInBounds_toArray, List.set_cons_zero, List.set_cons_succ]
  clear yh y0 y1 y2 y3 y4 y5 y6 y7
  refine oneL (i := 8) (by kernel_rfl) rfl (fun K hK => ?_)
  go_simp
  refine hK.out _ _ (fun h => absurd h (by decide)) ?_
  clear hK K
  try simp only [Act.put, List.setIfInBounds_toArray, List.set_cons_zero, List.set_cons_succ]
  refine oneL (i := 9) (by kernel_rfl) rfl (fun K hK => ?_)
  go_simp
  refine hK.out _ _ (fun h => absurd h (by decide)) ?_
  clear hK K
  try simp only [Act.put, List.setIfInBounds_toArray, List.set_cons_zero, List.set_cons_succ]
  refine oneL (i := 10) (by kernel_rfl) rfl (fun K hK => ?_)
  go_simp
  refine hK.out _ _ (fun h => absurd h (by decide)) ?_
  clear hK K
  try simp only [Act.put, List.setIfInBounds_toArray, List.set_cons_zero, List.set_cons_succ]
  refine doneO (by kernel_rfl) ?_ _
  clear hS l1 f1
  have LF := Lib.hid (left_of B4.out AP.out.2)
  generalize w6.setCell ⟨h, 0, none⟩ (.slice q (l.length + 1) d) = w7 at *
  have z0 : w7.cell? ⟨w.heap.size, 0, none⟩ = some (.int .i64 ((l.length : Int) + 1)) := X7.out.cell 0
  clear X7 X6 X5 X4 H5 H4 O5 O4 AP RO
  go_wp2
  go_ret2
  exact ⟨rfl, LF.out⟩
theorem pissue_any (B h : Nat) (F : Nat → Prop) (l : List Ct) (x : Ct) (w : World) (hd : DBo w B h F l) (hl : l.length ≤ 100000) : Calls Try.prog 15 #[.pointer (some ⟨h, 0, none⟩), cval x] w fun e w' => e = .returned (.tuple #[.int .i64 (issueF l x).2.1, .int .i64 (issueF l x).2.2]) ∧ Left DBo w B h F (issueF l x).1 w' := by
  cases hr : rightB x with
  | false => exact pissue_no B h F l x w hd hr
  | true => exact pissue_yes B h F l x w hd hl hr
set_option maxRecDepth 100000 in
set_option maxHeartbeats 8000000 in
theorem pnil_issue (x : Ct) (w : World) : Calls Try.prog 15 #[.pointer none, cval x] w fun e w' => e = .returned (.tuple #[.int .i64 0, .int .i64 1]) ∧ Below w.heap.size w w' := by
  obtain ⟨ka, kb, kc, kd, ke, kf, kg, kh⟩ := x
  simp only [cval]
  have B0 := Lib.hid (alloc_below w (.cells #[.int .i64 ka, .int .i64 kb, .int .i64 kc, .int .i64 kd, .int .i64 ke, .int .i64 kf, .int .i64 kg, .int .i64 kh] 23))
  go_enter Try.func15, Try.ntmps15
  go_wp2
  go_ret2
  exact ⟨rfl, B0.out⟩
theorem pnil_all (w : World) : Calls Try.prog 19 #[.pointer none] w fun e w' => (∃ q c, e = .returned (.slice q 0 c)) ∧ Below w.heap.size w w' := by
  go_enter Try.func19, Try.ntmps19
  go_wp2
  go_ret
  exact ⟨⟨_, _, rfl⟩, Below.refl _ _⟩
theorem pnil_flagged (p : Option Addr) (n c : Nat) (now : List Int) (w : World) (_ : Rw 1 icells w p n now) (_ : n ≤ 100000) (_ : n ≤ c) : Calls Try.prog 20 #[.pointer none, .slice p n c] w fun e w' => (∃ q d, e = .returned (.slice q 0 d)) ∧ Below w.heap.size w w' := by
  go_enter Try.func20, Try.ntmps20
  go_wp2
  go_ret
  exact ⟨⟨_, _, rfl⟩, Below.refl _ _⟩
set_option maxRecDepth 100000 in
set_option maxHeartbeats 8000000 in
theorem pnil_cert (id : Int) (w : World) : Calls Try.prog 17 #[.pointer none, .int .i64 id] w fun e w' => e = .returned (.tuple #[cval ct0, .int .i64 1]) ∧ Below w.heap.size w w' := by
  have B1 := Lib.hid (alloc_below w (.cells #[.int .i64 0, .int .i64 0, .int .i64 0, .int .i64 0, .int .i64 0, .int .i64 0, .int .i64 0, .int .i64 0] 23))
  have X1 := Lib.hid (Lies.new w 23 #[.int .i64 0, .int .i64 0, .int .i64 0, .int .i64 0, .int .i64 0, .int .i64 0, .int .i64 0, .int .i64 0])
  obtain ⟨w1, hw1⟩ : ∃ w1, w.alloc (.cells #[.int .i64 0, .int .i64 0, .int .i64 0, .int .i64 0, .int .i64 0, .int .i64 0, .int .i64 0, .int .i64 0] 23) = w1 := ⟨_, rfl⟩
  rw [hw1] at B1 X1
  have r0 : w1.cell? ⟨w.heap.size, 0, none⟩ = some (.int .i64 0) := X1.out.cell 0
  have g0 := X1.out.frozen 0
  have r1 : w1.cell? ⟨w.heap.size, 1, none⟩ = some (.int .i64 0) := X1.out.cell 1
  have g1 := X1.out.frozen 1
  have r2 : w1.cell? ⟨w.heap.size, 2, none⟩ = some (.int .i64 0) := X1.out.cell 2
  have g2 := X1.out.frozen 2
  have r3 : w1.cell? ⟨w.heap.size, 3, none⟩ = some (.int .i64 0) := X1.out.cell 3
  have g3 := X1.out.frozen 3
  have r4 : w1.cell? ⟨w.heap.size, 4, none⟩ = some (.int .i64 0) := X1.out.cell 4
  have g4 := X1.out.frozen 4
  have r5 : w1.cell? ⟨w.heap.size, 5, none⟩ = some (.int .i64 0) := X1.out.cell 5
  have g5 := X1.out.frozen 5
  have r6 : w1.cell? ⟨w.heap.size, 6, none⟩ = some (.int .i64 0) := X1.out.cell 6
  have g6 := X1.out.frozen 6
  have r7 : w1.cell? ⟨w.heap.size, 7, none⟩ = some (.int .i64 0) := X1.out.cell 7
  have g7 := X1.out.frozen 7
  clear X1
  go_enter Try.func17, Try.ntmps17
  go_wp2
  refine bodyPost_ret (v := .tuple #[.agg #[.int .i64 0, .int .i64 0, .int .i64 0, .int .i64 0, .int .i64 0, .int .i64 0, .int .i64 0, .int .i64 0], .int .i64 1]) (by simp [results, Try.results17, go_sem, r0, r1, r2, r3, r4, r5, r6, r7]) rfl ⟨rfl, ?_⟩
  iterate 8 refine Below.setCell ?_ (show w.heap.size ≤ _ from Nat.le_refl _) _
  exact B1.out
def cface : Face where
  right := pright_any
  enc_no := penc_no
  enc_yes := penc_yes
  dec := fun p n c l w h hn hc => pdec_any p n c l w h hn hc
  DB := DBo
  foot := dbo_foot
  turn := dbo_turn
  new := pnewB_any
  issue := fun B h F l c w hd _ hl => pissue_any B h F l c w hd hl
  cert := fun B h F l id w hd _ hl _ => pcert_any B h F l id w hd hl
  all := fun B h F l w hd _ hl => pall_any B h F l w hd hl
  flagged := fun B h F l p n c now w hd _ hl hw hn hc _ => pflag_any B h F l p n c now w hd hl hw hn hc
  nil_issue := pnil_issue
  nil_cert := pnil_cert
  nil_all := pnil_all
  nil_flagged := pnil_flagged
theorem tells_in (v0 : Value) (x0 : Ct) (v1 : Value) (x1 : Bs) (W : World) (h0 : InC v0 x0) (h1 : InB W v1 x1) :
    Calls Try.prog 3 #[v0, v1] W fun e w' => e = .returned (.bool true) ∧ Below W.heap.size W w' := tells_all cface v0 x0 v1 x1 W h0 h1
theorem books_in (v0 : Value) (x0 : Sl) (v1 : Value) (x1 : Int) (v2 : Value) (x2 : Sl) (W : World) (h0 : InCs W v0 x0) (h1 : InI .i64 v1 x1) (h2 : InN W v2 x2) :
    Calls Try.prog 4 #[v0, v1, v2] W fun e w' => e = .returned (.bool true) ∧ Below W.heap.size W w' := books_all cface v0 x0 v1 x1 v2 x2 W h0 h1 h2
theorem burst_in (v0 : Value) (x0 : Ct) (v1 : Value) (x1 : Int) (v2 : Value) (x2 : Int) (W : World) (h0 : InC v0 x0) (h1 : InI .u16 v1 x1) (h2 : InI .u16 v2 x2) :
    Calls Try.prog 5 #[v0, v1, v2] W fun e w' => e = .returned (.bool true) ∧ Below W.heap.size W w' := burst_all cface v0 x0 v1 x1 v2 x2 W h0 h1 h2
end Ce
theorem own : ownKnob Try.prog.godebug = none := by kernel_rfl
end Go.Proofs.Ytklhapekfgcplaa
