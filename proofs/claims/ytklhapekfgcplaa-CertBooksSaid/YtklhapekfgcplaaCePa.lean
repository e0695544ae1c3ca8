/- Walks over package cert: the places of a certificate's numbers, and whether it may be. No condition but those written. -/
import Derived.Test.YtklhapekfgcplaaCeFace
import Derived.StillTail
import Derived.StillTailTactics
import Derived.StillTactics
import Derived.RegionTactic
namespace Go.Proofs.Ytklhapekfgcplaa
open Go.RowKit

namespace Ce
/-- The places of the numbers of the certificate at block g. -/
def fptr (g : Nat) : Value := .agg #[.pointer (some ⟨g, 0, none⟩), .pointer (some ⟨g, 1, none⟩), .pointer (some ⟨g, 2, none⟩), .pointer (some ⟨g, 3, none⟩), .pointer (some ⟨g, 4, none⟩), .pointer (some ⟨g, 5, none⟩), .pointer (some ⟨g, 6, none⟩), .pointer (some ⟨g, 7, none⟩)]
theorem pidx_0 (g : Nat) (w : World) : (Instr.index 53 (.agg #[.pointer (some ⟨g, 0, none⟩), .pointer (some ⟨g, 1, none⟩), .pointer (some ⟨g, 2, none⟩), .pointer (some ⟨g, 3, none⟩), .pointer (some ⟨g, 4, none⟩), .pointer (some ⟨g, 5, none⟩), .pointer (some ⟨g, 6, none⟩), .pointer (some ⟨g, 7, none⟩)]) (.int .i64 0)).run Try.prog w = .ok (.pointer (some ⟨g, 0, none⟩)) w := by kernel_rfl
theorem pidx_1 (g : Nat) (w : World) : (Instr.index 53 (.agg #[.pointer (some ⟨g, 0, none⟩), .pointer (some ⟨g, 1, none⟩), .pointer (some ⟨g, 2, none⟩), .pointer (some ⟨g, 3, none⟩), .pointer (some ⟨g, 4, none⟩), .pointer (some ⟨g, 5, none⟩), .pointer (some ⟨g, 6, none⟩), .pointer (some ⟨g, 7, none⟩)]) (.int .i64 1)).run Try.prog w = .ok (.pointer (some ⟨g, 1, none⟩)) w := by kernel_rfl
theorem pidx_2 (g : Nat) (w : World) : (Instr.index 53 (.agg #[.pointer (some ⟨g, 0, none⟩), .pointer (some ⟨g, 1, none⟩), .pointer (some ⟨g, 2, none⟩), .pointer (some ⟨g, 3, none⟩), .pointer (some ⟨g, 4, none⟩), .pointer (some ⟨g, 5, none⟩), .pointer (some ⟨g, 6, none⟩), .pointer (some ⟨g, 7, none⟩)]) (.int .i64 2)).run Try.prog w = .ok (.pointer (some ⟨g, 2, none⟩)) w := by kernel_rfl
theorem pidx_3 (g : Nat) (w : World) : (Instr.index 53 (.agg #[.pointer (some ⟨g, 0, none⟩), .pointer (some ⟨g, 1, none⟩), .pointer (some ⟨g, 2, none⟩), .pointer (some ⟨g, 3, none⟩), .pointer (some ⟨g, 4, none⟩), .pointer (some ⟨g, 5, none⟩), .pointer (some ⟨g, 6, none⟩), .pointer (some ⟨g, 7, none⟩)]) (.int .i64 3)).run Try.prog w = .ok (.pointer (some ⟨g, 3, none⟩)) w := by kernel_rfl
theorem pidx_4 (g : Nat) (w : World) : (Instr.index 53 (.agg #[.pointer (some ⟨g, 0, none⟩), .pointer (some ⟨g, 1, none⟩), .pointer (some ⟨g, 2, none⟩), .pointer (some ⟨g, 3, none⟩), .pointer (some ⟨g, 4, none⟩), .pointer (some ⟨g, 5, none⟩), .pointer (some ⟨g, 6, none⟩), .pointer (some ⟨g, 7, none⟩)]) (.int .i64 4)).run Try.prog w = .ok (.pointer (some ⟨g, 4, none⟩)) w := by kernel_rfl
theorem pidx_5 (g : Nat) (w : World) : (Instr.index 53 (.agg #[.pointer (some ⟨g, 0, none⟩), .pointer (some ⟨g, 1, none⟩), .pointer (some ⟨g, 2, none⟩), .pointer (some ⟨g, 3, none⟩), .pointer (some ⟨g, 4, none⟩), .pointer (some ⟨g, 5, none⟩), .pointer (some ⟨g, 6, none⟩), .pointer (some ⟨g, 7, none⟩)]) (.int .i64 5)).run Try.prog w = .ok (.pointer (some ⟨g, 5, none⟩)) w := by kernel_rfl
theorem pidx_6 (g : Nat) (w : World) : (Instr.index 53 (.agg #[.pointer (some ⟨g, 0, none⟩), .pointer (some ⟨g, 1, none⟩), .pointer (some ⟨g, 2, none⟩), .pointer (some ⟨g, 3, none⟩), .pointer (some ⟨g, 4, none⟩), .pointer (some ⟨g, 5, none⟩), .pointer (some ⟨g, 6, none⟩), .pointer (some ⟨g, 7, none⟩)]) (.int .i64 6)).run Try.prog w = .ok (.pointer (some ⟨g, 6, none⟩)) w := by kernel_rfl
theorem pidx_7 (g : Nat) (w : World) : (Instr.index 53 (.agg #[.pointer (some ⟨g, 0, none⟩), .pointer (some ⟨g, 1, none⟩), .pointer (some ⟨g, 2, none⟩), .pointer (some ⟨g, 3, none⟩), .pointer (some ⟨g, 4, none⟩), .pointer (some ⟨g, 5, none⟩), .pointer (some ⟨g, 6, none⟩), .pointer (some ⟨g, 7, none⟩)]) (.int .i64 7)).run Try.prog w = .ok (.pointer (some ⟨g, 7, none⟩)) w := by kernel_rfl
set_option maxRecDepth 100000 in
set_option maxHeartbeats 8000000 in
theorem pfields_any (g : Nat) (w : World) : Calls Try.prog 23 #[.pointer (some ⟨g, 0, none⟩)] w fun e w' => e = .returned (fptr g) ∧ Below w.heap.size w w' := by
  have B1 := Lib.hid (alloc_below w (.cells #[.pointer none, .pointer none, .pointer none, .pointer none, .pointer none, .pointer none, .pointer none, .pointer none] 53))
  have X1 := Lib.hid (Lies.new w 53 #[.pointer none, .pointer none, .pointer none, .pointer none, .pointer none, .pointer none, .pointer none, .pointer none])
  obtain ⟨w1, hw1⟩ : ∃ w1, w.alloc (.cells #[.pointer none, .pointer none, .pointer none, .pointer none, .pointer none, .pointer none, .pointer none, .pointer none] 53) = w1 := ⟨_, rfl⟩
  rw [hw1] at B1 X1
  have BD := Lib.hid (B1.out.drew)
  have XD := Lib.hid (show Lies w1.drew w.heap.size 53 #[.pointer none, .pointer none, .pointer none, .pointer none, .pointer none, .pointer none, .pointer none, .pointer none] from X1.out.below (Below.refl w1.heap.size w1).drew X1.out.lt)
  generalize hW : w1.drew = w2 at *
  have r0 : w2.cell? ⟨w.heap.size, 0, none⟩ = some (.pointer none) := XD.out.cell 0
  have r1 : w2.cell? ⟨w.heap.size, 1, none⟩ = some (.pointer none) := XD.out.cell 1
  have r2 : w2.cell? ⟨w.heap.size, 2, none⟩ = some (.pointer none) := XD.out.cell 2
  have r3 : w2.cell? ⟨w.heap.size, 3, none⟩ = some (.pointer none) := XD.out.cell 3
  have r4 : w2.cell? ⟨w.heap.size, 4, none⟩ = some (.pointer none) := XD.out.cell 4
  have r5 : w2.cell? ⟨w.heap.size, 5, none⟩ = some (.pointer none) := XD.out.cell 5
  have r6 : w2.cell? ⟨w.heap.size, 6, none⟩ = some (.pointer none) := XD.out.cell 6
  have r7 : w2.cell? ⟨w.heap.size, 7, none⟩ = some (.pointer none) := XD.out.cell 7
  have g0 := XD.out.frozen 0
  have g1 := XD.out.frozen 1
  have g2 := XD.out.frozen 2
  have g3 := XD.out.frozen 3
  have g4 := XD.out.frozen 4
  have g5 := XD.out.frozen 5
  have g6 := XD.out.frozen 6
  have g7 := XD.out.frozen 7
  go_enter Try.func23, Try.ntmps23
  go_wp2_with fail
  go_still_tail 25, (by kernel_rfl)
  rw [show ({ heap := w1.heap, tape := w1.tape, drawn := w1.drawn + 1, os := w1.os, output := w1.output } : World) = w2 from hW]
  clear hw1 hW X1 B1 XD
  go_wp2
  refine bodyPost_ret (v := fptr g) (by simp [fptr, results, Try.results23, go_sem, r0, r1, r2, r3, r4, r5, r6, r7]) rfl ⟨rfl, ?_⟩
  iterate 8 refine Below.setCell ?_ (show w.heap.size ≤ _ from Nat.le_refl _) _
  exact BD.out
theorem right_at {c : Ct} (j : Nat) {x : Int} (hx : (fld c)[j]? = some x) (h : mayB x = false) : rightB c = false := by
  rw [Bool.eq_false_iff]
  intro hr
  have := mayB_iff.2 (right_iff.1 hr x (List.mem_of_getElem? hx))
  rw [h] at this
  cases this
theorem all_next {l : List Int} {j : Nat} {x : Int} (hx : l[j]? = some x) (ha : (l.take j).all mayB = true) (h : mayB x = true) : (l.take (j + 1)).all mayB = true := by
  rw [List.take_add_one, hx, List.all_append, ha]
  simp [h]
set_option maxRecDepth 100000 in
set_option maxHeartbeats 8000000 in
theorem pright_any (c : Ct) (w : World) : Calls Try.prog 13 #[cval c] w fun e w' => e = .returned (.bool (rightB c)) ∧ Below w.heap.size w w' := by
  have HN := Lib.hid (fun (j : Nat) (x : Int) (hx : (fld c)[j]? = some x) (h : mayB x = false) => right_at j hx h)
  have HT := Lib.hid (fun (j : Nat) (x : Int) (hx : (fld c)[j]? = some x) (ha : ((fld c).take j).all mayB = true) (h : mayB x = true) => all_next hx ha h)
  have HE := Lib.hid (show ((fld c).take 8).all mayB = true → rightB c = true from fun h => h)
  obtain ⟨ka, kb, kc, kd, ke, kf, kg, kh⟩ := c
  simp only [cval] at HN HT HE ⊢
  have B1 := Lib.hid (alloc_below w (.cells #[.int .i64 ka, .int .i64 kb, .int .i64 kc, .int .i64 kd, .int .i64 ke, .int .i64 kf, .int .i64 kg, .int .i64 kh] 23))
  have X1 := Lib.hid (Lies.new w 23 #[.int .i64 ka, .int .i64 kb, .int .i64 kc, .int .i64 kd, .int .i64 ke, .int .i64 kf, .int .i64 kg, .int .i64 kh])
  have F := Lib.hid (fun W => pfields_any w.heap.size W)
  go_enter Try.func13, Try.ntmps13
  go_wp2_with fail
  refine (F.out _).mono ?_
  rintro e w2 ⟨rfl, hb⟩
  have B2 := Lib.hid (B1.out.trans (hb.mono B1.out.size))
  have X2 := Lib.hid (X1.out.below hb X1.out.lt)
  clear hb B1 X1 F
  have x0 : w2.cell? ⟨w.heap.size, 0, none⟩ = some (.int .i64 ka) := X2.out.cell 0
  have x1 : w2.cell? ⟨w.heap.size, 1, none⟩ = some (.int .i64 kb) := X2.out.cell 1
  have x2 : w2.cell? ⟨w.heap.size, 2, none⟩ = some (.int .i64 kc) := X2.out.cell 2
  have x3 : w2.cell? ⟨w.heap.size, 3, none⟩ = some (.int .i64 kd) := X2.out.cell 3
  have x4 : w2.cell? ⟨w.heap.size, 4, none⟩ = some (.int .i64 ke) := X2.out.cell 4
  have x5 : w2.cell? ⟨w.heap.size, 5, none⟩ = some (.int .i64 kf) := X2.out.cell 5
  have x6 : w2.cell? ⟨w.heap.size, 6, none⟩ = some (.int .i64 kg) := X2.out.cell 6
  have x7 : w2.cell? ⟨w.heap.size, 7, none⟩ = some (.int .i64 kh) := X2.out.cell 7
  clear X2
  unfold fptr
  go_wp2
  go_loop [6] (fun i => ∃ k : Nat, k ≤ 8 ∧ i = .int .i64 k ∧ Hid (((fld (⟨ka, kb, kc, kd, ke, kf, kg, kh⟩ : Ct)).take k).all mayB = true)) (fun i => 8 - (intOf i).toNat)
  case atStart => exact ⟨0, by decide, rfl, Lib.hid rfl⟩
  case round =>
    obtain ⟨k, hk, rfl, HA⟩ := hrel
    by_cases hlt : k < 8
    · have hk8 : k = 0 ∨ k = 1 ∨ k = 2 ∨ k = 3 ∨ k = 4 ∨ k = 5 ∨ k = 6 ∨ k = 7 := by omega
      clear hk hlt
      rcases hk8 with rfl | rfl | rfl | rfl | rfl | rfl | rfl | rfl
      · clear x1 x2 x3 x4 x5 x6 x7
        have i0 := fun W => pidx_0 w.heap.size W
        by_cases h0 : ka < 0
        · have HF := Lib.hid (HN.out 0 ka rfl (by unfold mayB; rw [decide_eq_false_iff_not]; omega))
          have t0 : decide (ka < 0) = true := by simp; omega
          clear h0 HN HT HE HA
          go_wp2
          go_ret
          exact ⟨by rw [HF.out]; rfl, B2.out⟩
        have t0 : decide (ka < 0) = false := by simp; omega
        by_cases h1 : 4611686018427387904 < ka
        · have HF := Lib.hid (HN.out 0 ka rfl (by unfold mayB; rw [decide_eq_false_iff_not]; omega))
          have t1 : decide (4611686018427387904 < ka) = true := by simp; omega
          clear h0 h1 HN HT HE HA
          go_wp2
          go_ret
          exact ⟨by rw [HF.out]; rfl, B2.out⟩
        · have HF := Lib.hid (HT.out 0 ka rfl HA.out (by unfold mayB; rw [decide_eq_true_iff]; omega))
          have t1 : decide (4611686018427387904 < ka) = false := by simp; omega
          clear h0 h1 HN HT HE HA
          go_wp2
          go_round
          case rel => exact ⟨0 + 1, by decide, by go_num, HF⟩
          case measure => simp [intOf]
      · clear x0 x2 x3 x4 x5 x6 x7
        have i0 := fun W => pidx_1 w.heap.size W
        by_cases h0 : kb < 0
        · have HF := Lib.hid (HN.out 1 kb rfl (by unfold mayB; rw [decide_eq_false_iff_not]; omega))
          have t0 : decide (kb < 0) = true := by simp; omega
          clear h0 HN HT HE HA
          go_wp2
          go_ret
          exact ⟨by rw [HF.out]; rfl, B2.out⟩
        have t0 : decide (kb < 0) = false := by simp; omega
        by_cases h1 : 4611686018427387904 < kb
        · have HF := Lib.hid (HN.out 1 kb rfl (by unfold mayB; rw [decide_eq_false_iff_not]; omega))
          have t1 : decide (4611686018427387904 < kb) = true := by simp; omega
          clear h0 h1 HN HT HE HA
          go_wp2
          go_ret
          exact ⟨by rw [HF.out]; rfl, B2.out⟩
        · have HF := Lib.hid (HT.out 1 kb rfl HA.out (by unfold mayB; rw [decide_eq_true_iff]; omega))
          have t1 : decide (4611686018427387904 < kb) = false := by simp; omega
          clear h0 h1 HN HT HE HA
          go_wp2
          go_round
          case rel => exact ⟨1 + 1, by decide, by go_num, HF⟩
          case measure => simp [intOf]
      · clear x0 x1 x3 x4 x5 x6 x7
        have i0 := fun W => pidx_2 w.heap.size W
        by_cases h0 : kc < 0
        · have HF := Lib.hid (HN.out 2 kc rfl (by unfold mayB; rw [decide_eq_false_iff_not]; omega))
          have t0 : decide (kc < 0) = true := by simp; omega
          clear h0 HN HT HE HA
          go_wp2
          go_ret
          exact ⟨by rw [HF.out]; rfl, B2.out⟩
        have t0 : decide (kc < 0) = false := by simp; omega
        by_cases h1 : 4611686018427387904 < kc
        · have HF := Lib.hid (HN.out 2 kc rfl (by unfold mayB; rw [decide_eq_false_iff_not]; omega))
          have t1 : decide (4611686018427387904 < kc) = true := by simp; omega
          clear h0 h1 HN HT HE HA
          go_wp2
          go_ret
          exact ⟨by rw [HF.out]; rfl, B2.out⟩
        · have HF := Lib.hid (HT.out 2 kc rfl HA.out (by unfold mayB; rw [decide_eq_true_iff]; omega))
          have t1 : decide (4611686018427387904 < kc) = false := by simp; omega
          clear h0 h1 HN HT HE HA
          go_wp2
          go_round
          case rel => exact ⟨2 + 1, by decide, by go_num, HF⟩
          case measure => simp [intOf]
      · clear x0 x1 x2 x4 x5 x6 x7
        have i0 := fun W => pidx_3 w.heap.size W
        by_cases h0 : kd < 0
        · have HF := Lib.hid (HN.out 3 kd rfl (by unfold mayB; rw [decide_eq_false_iff_not]; omega))
          have t0 : decide (kd < 0) = true := by simp; omega
          clear h0 HN HT HE HA
          go_wp2
          go_ret
          exact ⟨by rw [HF.out]; rfl, B2.out⟩
        have t0 : decide (kd < 0) = false := by simp; omega
        by_cases h1 : 4611686018427387904 < kd
        · have HF := Lib.hid (HN.out 3 kd rfl (by unfold mayB; rw [decide_eq_false_iff_not]; omega))
          have t1 : decide (4611686018427387904 < kd) = true := by simp; omega
          clear h0 h1 HN HT HE HA
          go_wp2
          go_ret
          exact ⟨by rw [HF.out]; rfl, B2.out⟩
        · have HF := Lib.hid (HT.out 3 kd rfl HA.out (by unfold mayB; rw [decide_eq_true_iff]; omega))
          have t1 : decide (4611686018427387904 < kd) = false := by simp; omega
          clear h0 h1 HN HT HE HA
          go_wp2
          go_round
          case rel => exact ⟨3 + 1, by decide, by go_num, HF⟩
          case measure => simp [intOf]
      · clear x0 x1 x2 x3 x5 x6 x7
        have i0 := fun W => pidx_4 w.heap.size W
        by_cases h0 : ke < 0
        · have HF := Lib.hid (HN.out 4 ke rfl (by unfold mayB; rw [decide_eq_false_iff_not]; omega))
          have t0 : decide (ke < 0) = true := by simp; omega
          clear h0 HN HT HE HA
          go_wp2
          go_ret
          exact ⟨by rw [HF.out]; rfl, B2.out⟩
        have t0 : decide (ke < 0) = false := by simp; omega
        by_cases h1 : 4611686018427387904 < ke
        · have HF := Lib.hid (HN.out 4 ke rfl (by unfold mayB; rw [decide_eq_false_iff_not]; omega))
          have t1 : decide (4611686018427387904 < ke) = true := by simp; omega
          clear h0 h1 HN HT HE HA
          go_wp2
          go_ret
          exact ⟨by rw [HF.out]; rfl, B2.out⟩
        · have HF := Lib.hid (HT.out 4 ke rfl HA.out (by unfold mayB; rw [decide_eq_true_iff]; omega))
          have t1 : decide (4611686018427387904 < ke) = false := by simp; omega
          clear h0 h1 HN HT HE HA
          go_wp2
          go_round
          case rel => exact ⟨4 + 1, by decide, by go_num, HF⟩
          case measure => simp [intOf]
      · clear x0 x1 x2 x3 x4 x6 x7
        have i0 := fun W => pidx_5 w.heap.size W
        by_cases h0 : kf < 0
        · have HF := Lib.hid (HN.out 5 kf rfl (by unfold mayB; rw [decide_eq_false_iff_not]; omega))
          have t0 : decide (kf < 0) = true := by simp; omega
          clear h0 HN HT HE HA
          go_wp2
          go_ret
          exact ⟨by rw [HF.out]; rfl, B2.out⟩
        have t0 : decide (kf < 0) = false := by simp; omega
        by_cases h1 : 4611686018427387904 < kf
        · have HF := Lib.hid (HN.out 5 kf rfl (by unfold mayB; rw [decide_eq_false_iff_not]; omega))
          have t1 : decide (4611686018427387904 < kf) = true := by simp; omega
          clear h0 h1 HN HT HE HA
          go_wp2
          go_ret
          exact ⟨by rw [HF.out]; rfl, B2.out⟩
        · have HF := Lib.hid (HT.out 5 kf rfl HA.out (by unfold mayB; rw [decide_eq_true_iff]; omega))
          have t1 : decide (4611686018427387904 < kf) = false := by simp; omega
          clear h0 h1 HN HT HE HA
          go_wp2
          go_round
          case rel => exact ⟨5 + 1, by decide, by go_num, HF⟩
          case measure => simp [intOf]
      · clear x0 x1 x2 x3 x4 x5 x7
        have i0 := fun W => pidx_6 w.heap.size W
        by_cases h0 : kg < 0
        · have HF := Lib.hid (HN.out 6 kg rfl (by unfold mayB; rw [decide_eq_false_iff_not]; omega))
          have t0 : decide (kg < 0) = true := by simp; omega
          clear h0 HN HT HE HA
          go_wp2
          go_ret
          exact ⟨by rw [HF.out]; rfl, B2.out⟩
        have t0 : decide (kg < 0) = false := by simp; omega
        by_cases h1 : 4611686018427387904 < kg
        · have HF := Lib.hid (HN.out 6 kg rfl (by unfold mayB; rw [decide_eq_false_iff_not]; omega))
          have t1 : decide (4611686018427387904 < kg) = true := by simp; omega
          clear h0 h1 HN HT HE HA
          go_wp2
          go_ret
          exact ⟨by rw [HF.out]; rfl, B2.out⟩
        · have HF := Lib.hid (HT.out 6 kg rfl HA.out (by unfold mayB; rw [decide_eq_true_iff]; omega))
          have t1 : decide (4611686018427387904 < kg) = false := by simp; omega
          clear h0 h1 HN HT HE HA
          go_wp2
          go_round
          case rel => exact ⟨6 + 1, by decide, by go_num, HF⟩
          case measure => simp [intOf]
      · clear x0 x1 x2 x3 x4 x5 x6
        have i0 := fun W => pidx_7 w.heap.size W
        by_cases h0 : kh < 0
        · have HF := Lib.hid (HN.out 7 kh rfl (by unfold mayB; rw [decide_eq_false_iff_not]; omega))
          have t0 : decide (kh < 0) = true := by simp; omega
          clear h0 HN HT HE HA
          go_wp2
          go_ret
          exact ⟨by rw [HF.out]; rfl, B2.out⟩
        have t0 : decide (kh < 0) = false := by simp; omega
        by_cases h1 : 4611686018427387904 < kh
        · have HF := Lib.hid (HN.out 7 kh rfl (by unfold mayB; rw [decide_eq_false_iff_not]; omega))
          have t1 : decide (4611686018427387904 < kh) = true := by simp; omega
          clear h0 h1 HN HT HE HA
          go_wp2
          go_ret
          exact ⟨by rw [HF.out]; rfl, B2.out⟩
        · have HF := Lib.hid (HT.out 7 kh rfl HA.out (by unfold mayB; rw [decide_eq_true_iff]; omega))
          have t1 : decide (4611686018427387904 < kh) = false := by simp; omega
          clear h0 h1 HN HT HE HA
          go_wp2
          go_round
          case rel => exact ⟨7 + 1, by decide, by go_num, HF⟩
          case measure => simp [intOf]
    · obtain rfl : k = 8 := by omega
      have HF := Lib.hid (HE.out HA.out)
      clear hk hlt HN HT HE HA x0 x1 x2 x3 x4 x5 x6 x7
      go_wp2
      go_ret
      exact ⟨by rw [HF.out]; rfl, B2.out⟩
end Ce
end Go.Proofs.Ytklhapekfgcplaa
