/- Walks over the document's answer of layer 14. No condition but those written. -/
import Derived.Test.YtgmjmkkhoibbcaaDoorKpFace
import Derived.Test.YtgmjmkkhoibbcaaDoorSu1
import Derived.Test.YtgmjmkkhoibbcaaDoorSt1
import Derived.Lib.Hide
import Derived.WalkSpells
import Derived.Deep.CutRange
namespace Go.Proofs.YtgmjmkkhoibbcaaDoor
open Go.RowKit Lo

namespace Kp
/-- Two boxes. -/
theorem boxes2 (w : World) (cs ds : Array Value) (t u : TypeId) : ∃ w1, (w.alloc (.cells cs t)).alloc (.cells ds u) = w1 ∧ Hid (Below w.heap.size w w1) ∧ Hid (Lies w1 w.heap.size t cs) ∧ Hid (Lies w1 (w.heap.size + 1) u ds) := by
  refine ⟨_, rfl, Lib.hid (((Below.refl w.heap.size w).alloc (Nat.le_refl _) _).alloc (by simp) _), Lib.hid ((Lies.new w t cs).alloc _), Lib.hid ?_⟩
  have := Lies.new (w.alloc (.cells cs t)) u ds
  rwa [show (w.alloc (.cells cs t)).heap.size = w.heap.size + 1 by simp] at this
/-- Three boxes. -/
theorem boxes3 (w : World) (cs ds es : Array Value) (t u v : TypeId) : ∃ w1, ((w.alloc (.cells cs t)).alloc (.cells ds u)).alloc (.cells es v) = w1 ∧ Hid (Below w.heap.size w w1) ∧ Hid (Lies w1 w.heap.size t cs) ∧ Hid (Lies w1 (w.heap.size + 1) u ds) ∧ Hid (Lies w1 (w.heap.size + 2) v es) := by
  obtain ⟨w0, h0, b0, x0, y0⟩ := boxes2 w cs ds t u
  have hs : w0.heap.size = w.heap.size + 2 := by rw [← h0]; simp
  rw [h0]
  refine ⟨_, rfl, Lib.hid (b0.out.alloc b0.out.size _), Lib.hid (x0.out.alloc _), Lib.hid (y0.out.alloc _), Lib.hid ?_⟩
  have := Lies.new w0 v es
  rwa [hs] at this
set_option maxRecDepth 100000 in
set_option maxHeartbeats 8000000 in
theorem r14allow_any (p : Ms.Pd) (y : Lv) (w : World) : Calls Tryd.prog 18 #[Ms.pval p, lval y] w fun e w' => e = .returned (.int .i64 (allow p y.x)) ∧ Below w.heap.size w w' := by
  obtain ⟨a, b, c⟩ := p
  obtain ⟨⟨i1, i2, i3, i4, i5, i6, i7, S⟩, q, n, d⟩ := y
  unfold allow
  simp only [Ms.pval, lval]
  have CT := Lib.hid (fun W => St.two_any c i5 W)
  generalize St.St.cap (St.St.fit c + St.St.fit i5) = r at *
  obtain ⟨w1, hw1, B1, X1, Y1⟩ := boxes2 w #[.int .i64 a, .int .i64 b, .int .i64 c] #[.int .i64 i1, .int .i64 i2, .int .i64 i3, .int .i64 i4, .int .i64 i5, .int .i64 i6, .int .i64 i7, .slice q n d] 23 27
  have x2 : w1.cell? ⟨w.heap.size, 2, none⟩ = some (.int .i64 c) := X1.out.cell 2
  have y4 : w1.cell? ⟨w.heap.size + 1, 4, none⟩ = some (.int .i64 i5) := Y1.out.cell 4
  clear X1 Y1
  go_enter Tryd.func18, Tryd.ntmps18
  go_wp2_with fail
  refine (CT.out _).mono ?_
  rintro e w' ⟨rfl, rfl⟩
  clear hw1 x2 y4
  go_wp2
  go_ret
  exact ⟨rfl, B1.out⟩
set_option maxRecDepth 100000 in
set_option maxHeartbeats 8000000 in
theorem r14over_any (p : Ms.Pd) (y : Lv) (x : Int) (w : World) : Calls Tryd.prog 23 #[Ms.pval p, lval y, .int .i64 x] w fun e w' => e = .returned (.bool (overB p y.x x)) ∧ Below w.heap.size w w' := by
  have CA := Lib.hid (fun W => r14allow_any p y W)
  obtain ⟨a, b, c⟩ := p
  obtain ⟨⟨i1, i2, i3, i4, i5, i6, i7, S⟩, q, n, d⟩ := y
  unfold overB
  generalize allow ⟨a, b, c⟩ ⟨i1, i2, i3, i4, i5, i6, i7, S⟩ = r at *
  simp only [Ms.pval, lval] at CA ⊢
  obtain ⟨w1, hw1, B1, X1, Y1⟩ := boxes2 w #[.int .i64 a, .int .i64 b, .int .i64 c] #[.int .i64 i1, .int .i64 i2, .int .i64 i3, .int .i64 i4, .int .i64 i5, .int .i64 i6, .int .i64 i7, .slice q n d] 23 27
  have x0 : w1.cell? ⟨w.heap.size, 0, none⟩ = some (.int .i64 a) := X1.out.cell 0
  have x1 : w1.cell? ⟨w.heap.size, 1, none⟩ = some (.int .i64 b) := X1.out.cell 1
  have x2 : w1.cell? ⟨w.heap.size, 2, none⟩ = some (.int .i64 c) := X1.out.cell 2
  have y0 : w1.cell? ⟨w.heap.size + 1, 0, none⟩ = some (.int .i64 i1) := Y1.out.cell 0
  have y1 : w1.cell? ⟨w.heap.size + 1, 1, none⟩ = some (.int .i64 i2) := Y1.out.cell 1
  have y2 : w1.cell? ⟨w.heap.size + 1, 2, none⟩ = some (.int .i64 i3) := Y1.out.cell 2
  have y3 : w1.cell? ⟨w.heap.size + 1, 3, none⟩ = some (.int .i64 i4) := Y1.out.cell 3
  have y4 : w1.cell? ⟨w.heap.size + 1, 4, none⟩ = some (.int .i64 i5) := Y1.out.cell 4
  have y5 : w1.cell? ⟨w.heap.size + 1, 5, none⟩ = some (.int .i64 i6) := Y1.out.cell 5
  have y6 : w1.cell? ⟨w.heap.size + 1, 6, none⟩ = some (.int .i64 i7) := Y1.out.cell 6
  have y7 : w1.cell? ⟨w.heap.size + 1, 7, none⟩ = some (.slice q n d) := Y1.out.cell 7
  clear X1 Y1
  go_enter Tryd.func23, Tryd.ntmps23
  go_wp2_with fail
  refine (CA.out _).mono ?_
  rintro e w2 ⟨rfl, hb⟩
  have B2 := Lib.hid (B1.out.trans (hb.mono B1.out.size))
  clear hw1 hb x0 x1 x2 y0 y1 y2 y3 y4 y5 y6 y7 CA
  go_wp2
  go_ret
  exact ⟨rfl, B2.out⟩
set_option maxRecDepth 100000 in
set_option maxHeartbeats 8000000 in
theorem r14judge_any (p : Ms.Pd) (y : Lv) (x : Int) (w : World) : Calls Tryd.prog 7 #[Ms.pval p, lval y, .int .i64 x] w fun e w' => e = .returned (.tuple #[lval (judgeL p y x).1, .bool (judgeL p y x).2]) ∧ Below w.heap.size w w' := by
  have CO := Lib.hid (fun W => r14over_any p y x W)
  have HJ : judgeL p y x = if (decide (y.x.status = 1) && overB p y.x x) = true then ({ y with x := { y.x with status := 2, order := 0 } }, true) else (y, false) := rfl
  rw [HJ]
  generalize overB p y.x x = o at *
  clear HJ
  obtain ⟨a, b, c⟩ := p
  obtain ⟨⟨i1, i2, i3, i4, i5, i6, i7, S⟩, q, n, d⟩ := y
  simp only [Ms.pval, lval] at CO ⊢
  obtain ⟨w1, hw1, B1, X1, Y1, Z1⟩ := boxes3 w #[.int .i64 a, .int .i64 b, .int .i64 c] #[.int .i64 i1, .int .i64 i2, .int .i64 i3, .int .i64 i4, .int .i64 i5, .int .i64 i6, .int .i64 i7, .slice q n d] #[.int .i64 0, .int .i64 0, .int .i64 0, .int .i64 0, .int .i64 0, .int .i64 0, .int .i64 0, .slice none 0 0] 23 27 27
  have x0 : w1.cell? ⟨w.heap.size, 0, none⟩ = some (.int .i64 a) := X1.out.cell 0
  have x1 : w1.cell? ⟨w.heap.size, 1, none⟩ = some (.int .i64 b) := X1.out.cell 1
  have x2 : w1.cell? ⟨w.heap.size, 2, none⟩ = some (.int .i64 c) := X1.out.cell 2
  have y0 : w1.cell? ⟨w.heap.size + 1, 0, none⟩ = some (.int .i64 i1) := Y1.out.cell 0
  have y1 : w1.cell? ⟨w.heap.size + 1, 1, none⟩ = some (.int .i64 i2) := Y1.out.cell 1
  have y2 : w1.cell? ⟨w.heap.size + 1, 2, none⟩ = some (.int .i64 i3) := Y1.out.cell 2
  have y3 : w1.cell? ⟨w.heap.size + 1, 3, none⟩ = some (.int .i64 i4) := Y1.out.cell 3
  have y4 : w1.cell? ⟨w.heap.size + 1, 4, none⟩ = some (.int .i64 i5) := Y1.out.cell 4
  have y5 : w1.cell? ⟨w.heap.size + 1, 5, none⟩ = some (.int .i64 i6) := Y1.out.cell 5
  have y6 : w1.cell? ⟨w.heap.size + 1, 6, none⟩ = some (.int .i64 i7) := Y1.out.cell 6
  have y7 : w1.cell? ⟨w.heap.size + 1, 7, none⟩ = some (.slice q n d) := Y1.out.cell 7
  by_cases hs : i7 = 1
  · subst hs
    cases o with
    | true =>
      simp only [decide_true, Bool.and_self, if_true]
      go_enter Tryd.func7, Tryd.ntmps7
      go_wp2_with fail
      refine (CO.out _).mono ?_
      rintro e w2 ⟨rfl, hb⟩
      have B2 := Lib.hid (B1.out.trans (hb.mono B1.out.size))
      have Y2 := Lib.hid (Y1.out.below hb Y1.out.lt)
      have Z2 := Lib.hid (Z1.out.below hb Z1.out.lt)
      clear hw1 hb x0 x1 x2 y0 y1 y2 y3 y4 y5 y6 y7 CO X1 Y1 Z1 B1
      have y6 : w2.cell? ⟨w.heap.size + 1, 6, none⟩ = some (.int .i64 1) := Y2.out.cell 6
      have f6 : w2.frozen? ⟨w.heap.size + 1, 6, none⟩ = false := Y2.out.frozen 6
      go_upto_region 4 with fail
      have Y3 : Hid (Lies (w2.setCell ⟨w.heap.size + 1, 6, none⟩ (.int .i64 2)) (w.heap.size + 1) 27 #[.int .i64 i1, .int .i64 i2, .int .i64 i3, .int .i64 i4, .int .i64 i5, .int .i64 i6, .int .i64 2, .slice q n d]) := Lib.hid (by simpa using Y2.out.set_ 6 (.int .i64 2))
      have Z3 : Hid (Lies (w2.setCell ⟨w.heap.size + 1, 6, none⟩ (.int .i64 2)) (w.heap.size + 2) 27 #[.int .i64 0, .int .i64 0, .int .i64 0, .int .i64 0, .int .i64 0, .int .i64 0, .int .i64 0, .slice none 0 0]) := Lib.hid (Z2.out.like (Below.heap_setCell w2 ⟨w.heap.size + 1, 6, none⟩ _ _ (by simp only; omega)))
      have B3 := Lib.hid (B2.out.setCell (p := ⟨w.heap.size + 1, 6, none⟩) (Nat.le_add_right _ _) (.int .i64 2))
      clear f6 y6 Y2 Z2 B2
      generalize w2.setCell ⟨w.heap.size + 1, 6, none⟩ (.int .i64 2) = w3 at *
      have f5 : w3.frozen? ⟨w.heap.size + 1, 5, none⟩ = false := Y3.out.frozen 5
      have y5 : w3.cell? ⟨w.heap.size + 1, 5, none⟩ = some (.int .i64 i6) := Y3.out.cell 5
      go_upto_region 5 with fail
      have Y4 : Hid (Lies (w3.setCell ⟨w.heap.size + 1, 5, none⟩ (.int .i64 0)) (w.heap.size + 1) 27 #[.int .i64 i1, .int .i64 i2, .int .i64 i3, .int .i64 i4, .int .i64 i5, .int .i64 0, .int .i64 2, .slice q n d]) := Lib.hid (by simpa using Y3.out.set_ 5 (.int .i64 0))
      have Z4 : Hid (Lies (w3.setCell ⟨w.heap.size + 1, 5, none⟩ (.int .i64 0)) (w.heap.size + 2) 27 #[.int .i64 0, .int .i64 0, .int .i64 0, .int .i64 0, .int .i64 0, .int .i64 0, .int .i64 0, .slice none 0 0]) := Lib.hid (Z3.out.like (Below.heap_setCell w3 ⟨w.heap.size + 1, 5, none⟩ _ _ (by simp only; omega)))
      have B4 := Lib.hid (B3.out.setCell (p := ⟨w.heap.size + 1, 5, none⟩) (Nat.le_add_right _ _) (.int .i64 0))
      clear f5 y5 Y3 Z3 B3
      generalize w3.setCell ⟨w.heap.size + 1, 5, none⟩ (.int .i64 0) = w4 at *
      have y0 : w4.cell? ⟨w.heap.size + 1, 0, none⟩ = some (.int .i64 i1) := Y4.out.cell 0
      have y1 : w4.cell? ⟨w.heap.size + 1, 1, none⟩ = some (.int .i64 i2) := Y4.out.cell 1
      have y2 : w4.cell? ⟨w.heap.size + 1, 2, none⟩ = some (.int .i64 i3) := Y4.out.cell 2
      have y3 : w4.cell? ⟨w.heap.size + 1, 3, none⟩ = some (.int .i64 i4) := Y4.out.cell 3
      have y4 : w4.cell? ⟨w.heap.size + 1, 4, none⟩ = some (.int .i64 i5) := Y4.out.cell 4
      have y5 : w4.cell? ⟨w.heap.size + 1, 5, none⟩ = some (.int .i64 0) := Y4.out.cell 5
      have y6 : w4.cell? ⟨w.heap.size + 1, 6, none⟩ = some (.int .i64 2) := Y4.out.cell 6
      have y7 : w4.cell? ⟨w.heap.size + 1, 7, none⟩ = some (.slice q n d) := Y4.out.cell 7
      have r0 : w4.cell? ⟨w.heap.size + 2, 0, none⟩ = some (.int .i64 0) := Z4.out.cell 0
      have r1 : w4.cell? ⟨w.heap.size + 2, 1, none⟩ = some (.int .i64 0) := Z4.out.cell 1
      have r2 : w4.cell? ⟨w.heap.size + 2, 2, none⟩ = some (.int .i64 0) := Z4.out.cell 2
      have r3 : w4.cell? ⟨w.heap.size + 2, 3, none⟩ = some (.int .i64 0) := Z4.out.cell 3
      have r4 : w4.cell? ⟨w.heap.size + 2, 4, none⟩ = some (.int .i64 0) := Z4.out.cell 4
      have r5 : w4.cell? ⟨w.heap.size + 2, 5, none⟩ = some (.int .i64 0) := Z4.out.cell 5
      have r6 : w4.cell? ⟨w.heap.size + 2, 6, none⟩ = some (.int .i64 0) := Z4.out.cell 6
      have r7 : w4.cell? ⟨w.heap.size + 2, 7, none⟩ = some (.slice none 0 0) := Z4.out.cell 7
      have g0 := Z4.out.frozen 0
      have g1 := Z4.out.frozen 1
      have g2 := Z4.out.frozen 2
      have g3 := Z4.out.frozen 3
      have g4 := Z4.out.frozen 4
      have g5 := Z4.out.frozen 5
      have g6 := Z4.out.frozen 6
      have g7 := Z4.out.frozen 7
      go_wp2
      refine bodyPost_ret (v := .tuple #[.agg #[.int .i64 i1, .int .i64 i2, .int .i64 i3, .int .i64 i4, .int .i64 i5, .int .i64 0, .int .i64 2, .slice q n d], .bool true]) (by simp [results, Tryd.results7, go_sem, r0, r1, r2, r3, r4, r5, r6, r7]) rfl ⟨rfl, ?_⟩
      iterate 8 refine Below.setCell ?_ (by simp only; omega) _
      exact B4.out
    | false =>
      simp only [Bool.and_false, Bool.false_eq_true, if_false]
      go_enter Tryd.func7, Tryd.ntmps7
      go_wp2_with fail
      refine (CO.out _).mono ?_
      rintro e w2 ⟨rfl, hb⟩
      have B2 := Lib.hid (B1.out.trans (hb.mono B1.out.size))
      have Y2 := Lib.hid (Y1.out.below hb Y1.out.lt)
      have Z2 := Lib.hid (Z1.out.below hb Z1.out.lt)
      clear hw1 hb x0 x1 x2 y0 y1 y2 y3 y4 y5 y6 y7 CO X1 Y1 Z1 B1
      have y0 : w2.cell? ⟨w.heap.size + 1, 0, none⟩ = some (.int .i64 i1) := Y2.out.cell 0
      have y1 : w2.cell? ⟨w.heap.size + 1, 1, none⟩ = some (.int .i64 i2) := Y2.out.cell 1
      have y2 : w2.cell? ⟨w.heap.size + 1, 2, none⟩ = some (.int .i64 i3) := Y2.out.cell 2
      have y3 : w2.cell? ⟨w.heap.size + 1, 3, none⟩ = some (.int .i64 i4) := Y2.out.cell 3
      have y4 : w2.cell? ⟨w.heap.size + 1, 4, none⟩ = some (.int .i64 i5) := Y2.out.cell 4
      have y5 : w2.cell? ⟨w.heap.size + 1, 5, none⟩ = some (.int .i64 i6) := Y2.out.cell 5
      have y6 : w2.cell? ⟨w.heap.size + 1, 6, none⟩ = some (.int .i64 1) := Y2.out.cell 6
      have y7 : w2.cell? ⟨w.heap.size + 1, 7, none⟩ = some (.slice q n d) := Y2.out.cell 7
      have r0 : w2.cell? ⟨w.heap.size + 2, 0, none⟩ = some (.int .i64 0) := Z2.out.cell 0
      have r1 : w2.cell? ⟨w.heap.size + 2, 1, none⟩ = some (.int .i64 0) := Z2.out.cell 1
      have r2 : w2.cell? ⟨w.heap.size + 2, 2, none⟩ = some (.int .i64 0) := Z2.out.cell 2
      have r3 : w2.cell? ⟨w.heap.size + 2, 3, none⟩ = some (.int .i64 0) := Z2.out.cell 3
      have r4 : w2.cell? ⟨w.heap.size + 2, 4, none⟩ = some (.int .i64 0) := Z2.out.cell 4
      have r5 : w2.cell? ⟨w.heap.size + 2, 5, none⟩ = some (.int .i64 0) := Z2.out.cell 5
      have r6 : w2.cell? ⟨w.heap.size + 2, 6, none⟩ = some (.int .i64 0) := Z2.out.cell 6
      have r7 : w2.cell? ⟨w.heap.size + 2, 7, none⟩ = some (.slice none 0 0) := Z2.out.cell 7
      have g0 := Z2.out.frozen 0
      have g1 := Z2.out.frozen 1
      have g2 := Z2.out.frozen 2
      have g3 := Z2.out.frozen 3
      have g4 := Z2.out.frozen 4
      have g5 := Z2.out.frozen 5
      have g6 := Z2.out.frozen 6
      have g7 := Z2.out.frozen 7
      go_wp2
      refine bodyPost_ret (v := .tuple #[.agg #[.int .i64 i1, .int .i64 i2, .int .i64 i3, .int .i64 i4, .int .i64 i5, .int .i64 i6, .int .i64 1, .slice q n d], .bool false]) (by simp [results, Tryd.results7, go_sem, r0, r1, r2, r3, r4, r5, r6, r7]) rfl ⟨rfl, ?_⟩
      iterate 8 refine Below.setCell ?_ (by simp only; omega) _
      exact B2.out
  · have hs1 : (i7 == 1) = false := by simp [hs]
    have hs2 : decide (i7 = 1) = false := by simp [hs]
    rw [hs2]
    simp only [Bool.false_and, Bool.false_eq_true, if_false]
    clear hs hs2
    go_enter Tryd.func7, Tryd.ntmps7
    go_wp2_with fail
    refine (CO.out _).mono ?_
    rintro e w2 ⟨rfl, hb⟩
    have B2 := Lib.hid (B1.out.trans (hb.mono B1.out.size))
    have Y2 := Lib.hid (Y1.out.below hb Y1.out.lt)
    have Z2 := Lib.hid (Z1.out.below hb Z1.out.lt)
    clear hw1 hb x0 x1 x2 y0 y1 y2 y3 y4 y5 y6 y7 CO X1 Y1 Z1 B1
    have y0 : w2.cell? ⟨w.heap.size + 1, 0, none⟩ = some (.int .i64 i1) := Y2.out.cell 0
    have y1 : w2.cell? ⟨w.heap.size + 1, 1, none⟩ = some (.int .i64 i2) := Y2.out.cell 1
    have y2 : w2.cell? ⟨w.heap.size + 1, 2, none⟩ = some (.int .i64 i3) := Y2.out.cell 2
    have y3 : w2.cell? ⟨w.heap.size + 1, 3, none⟩ = some (.int .i64 i4) := Y2.out.cell 3
    have y4 : w2.cell? ⟨w.heap.size + 1, 4, none⟩ = some (.int .i64 i5) := Y2.out.cell 4
    have y5 : w2.cell? ⟨w.heap.size + 1, 5, none⟩ = some (.int .i64 i6) := Y2.out.cell 5
    have y6 : w2.cell? ⟨w.heap.size + 1, 6, none⟩ = some (.int .i64 i7) := Y2.out.cell 6
    have y7 : w2.cell? ⟨w.heap.size + 1, 7, none⟩ = some (.slice q n d) := Y2.out.cell 7
    have r0 : w2.cell? ⟨w.heap.size + 2, 0, none⟩ = some (.int .i64 0) := Z2.out.cell 0
    have r1 : w2.cell? ⟨w.heap.size + 2, 1, none⟩ = some (.int .i64 0) := Z2.out.cell 1
    have r2 : w2.cell? ⟨w.heap.size + 2, 2, none⟩ = some (.int .i64 0) := Z2.out.cell 2
    have r3 : w2.cell? ⟨w.heap.size + 2, 3, none⟩ = some (.int .i64 0) := Z2.out.cell 3
    have r4 : w2.cell? ⟨w.heap.size + 2, 4, none⟩ = some (.int .i64 0) := Z2.out.cell 4
    have r5 : w2.cell? ⟨w.heap.size + 2, 5, none⟩ = some (.int .i64 0) := Z2.out.cell 5
    have r6 : w2.cell? ⟨w.heap.size + 2, 6, none⟩ = some (.int .i64 0) := Z2.out.cell 6
    have r7 : w2.cell? ⟨w.heap.size + 2, 7, none⟩ = some (.slice none 0 0) := Z2.out.cell 7
    have g0 := Z2.out.frozen 0
    have g1 := Z2.out.frozen 1
    have g2 := Z2.out.frozen 2
    have g3 := Z2.out.frozen 3
    have g4 := Z2.out.frozen 4
    have g5 := Z2.out.frozen 5
    have g6 := Z2.out.frozen 6
    have g7 := Z2.out.frozen 7
    go_wp2
    refine bodyPost_ret (v := .tuple #[.agg #[.int .i64 i1, .int .i64 i2, .int .i64 i3, .int .i64 i4, .int .i64 i5, .int .i64 i6, .int .i64 i7, .slice q n d], .bool false]) (by simp [results, Tryd.results7, go_sem, r0, r1, r2, r3, r4, r5, r6, r7]) rfl ⟨rfl, ?_⟩
    iterate 8 refine Below.setCell ?_ (by simp only; omega) _
    exact B2.out
set_option maxRecDepth 100000 in
set_option maxHeartbeats 8000000 in
theorem r14may_any (p : Ms.Pd) (y : Lv) (x now : Int) (w : World) : Calls Tryd.prog 20 #[Ms.pval p, lval y, .int .i64 x, .int .i64 now] w fun e w' => e = .returned (.int .i64 (mayL p y.x x now)) ∧ Below w.heap.size w w' := by
  have CO := Lib.hid (fun W => r14over_any p y x W)
  have HJ : mayL p y.x x now = if y.x.status ≠ 1 then 8 else if y.x.expiry ≤ now then 10 else if overB p y.x x = true then 9 else 0 := rfl
  rw [HJ]
  generalize overB p y.x x = o at *
  clear HJ
  obtain ⟨a, b, c⟩ := p
  obtain ⟨⟨i1, i2, i3, i4, i5, i6, i7, S⟩, q, n, d⟩ := y
  simp only [Ms.pval, lval] at CO ⊢
  obtain ⟨w1, hw1, B1, X1, Y1⟩ := boxes2 w #[.int .i64 a, .int .i64 b, .int .i64 c] #[.int .i64 i1, .int .i64 i2, .int .i64 i3, .int .i64 i4, .int .i64 i5, .int .i64 i6, .int .i64 i7, .slice q n d] 23 27
  have x0 : w1.cell? ⟨w.heap.size, 0, none⟩ = some (.int .i64 a) := X1.out.cell 0
  have x1 : w1.cell? ⟨w.heap.size, 1, none⟩ = some (.int .i64 b) := X1.out.cell 1
  have x2 : w1.cell? ⟨w.heap.size, 2, none⟩ = some (.int .i64 c) := X1.out.cell 2
  have y0 : w1.cell? ⟨w.heap.size + 1, 0, none⟩ = some (.int .i64 i1) := Y1.out.cell 0
  have y1 : w1.cell? ⟨w.heap.size + 1, 1, none⟩ = some (.int .i64 i2) := Y1.out.cell 1
  have y2 : w1.cell? ⟨w.heap.size + 1, 2, none⟩ = some (.int .i64 i3) := Y1.out.cell 2
  have y3 : w1.cell? ⟨w.heap.size + 1, 3, none⟩ = some (.int .i64 i4) := Y1.out.cell 3
  have y4 : w1.cell? ⟨w.heap.size + 1, 4, none⟩ = some (.int .i64 i5) := Y1.out.cell 4
  have y5 : w1.cell? ⟨w.heap.size + 1, 5, none⟩ = some (.int .i64 i6) := Y1.out.cell 5
  have y6 : w1.cell? ⟨w.heap.size + 1, 6, none⟩ = some (.int .i64 i7) := Y1.out.cell 6
  have y7 : w1.cell? ⟨w.heap.size + 1, 7, none⟩ = some (.slice q n d) := Y1.out.cell 7
  clear X1 Y1
  by_cases hs : i7 = 1
  · have hs1 : (i7 != 1) = false := by simp [hs]
    rw [if_neg (by simp [hs])]
    clear hs
    by_cases he : i4 ≤ now
    · rw [if_pos he]
      go_enter Tryd.func20, Tryd.ntmps20
      go_wp2
      go_ret
      exact ⟨rfl, B1.out⟩
    · rw [if_neg he]
      cases o with
      | true =>
        go_enter Tryd.func20, Tryd.ntmps20
        go_wp2_with fail
        refine (CO.out _).mono ?_
        rintro e w2 ⟨rfl, hb⟩
        have B2 := Lib.hid (B1.out.trans (hb.mono B1.out.size))
        clear hw1 hb x0 x1 x2 y0 y1 y2 y3 y4 y5 y6 y7 CO
        go_wp2
        go_ret
        exact ⟨rfl, B2.out⟩
      | false =>
        go_enter Tryd.func20, Tryd.ntmps20
        go_wp2_with fail
        refine (CO.out _).mono ?_
        rintro e w2 ⟨rfl, hb⟩
        have B2 := Lib.hid (B1.out.trans (hb.mono B1.out.size))
        clear hw1 hb x0 x1 x2 y0 y1 y2 y3 y4 y5 y6 y7 CO
        go_wp2
        go_ret
        exact ⟨rfl, B2.out⟩
  · have hs1 : (i7 != 1) = true := by simp [hs]
    rw [if_pos hs]
    clear hs
    go_enter Tryd.func20, Tryd.ntmps20
    go_wp2
    go_ret
    exact ⟨rfl, B1.out⟩
set_option maxRecDepth 100000 in
set_option maxHeartbeats 8000000 in
theorem r14rel_any (p : Ms.Pd) (y : Lv) (x : Int) (w : World) : Calls Tryd.prog 9 #[Ms.pval p, lval y, .int .i64 x] w fun e w' => e = .returned (.tuple #[lval (relL p y x).1, .int .i64 (relL p y x).2]) ∧ Below w.heap.size w w' := by
  have CO := Lib.hid (fun W => r14over_any p y x W)
  have CF := Lib.hid (fun W => Su.rafter_any y.x.status 0 W)
  have HJ : relL p y x = if Su.err y.x.status 0 ≠ 0 then (lv0, Su.err y.x.status 0) else if overB p y.x x = true then (lv0, 9) else ({ y with x := { y.x with status := Su.aft y.x.status 0 } }, 0) := rfl
  rw [HJ]
  generalize overB p y.x x = o at *
  generalize Su.err y.x.status 0 = er at *
  generalize Su.aft y.x.status 0 = af at *
  clear HJ
  obtain ⟨a, b, c⟩ := p
  obtain ⟨⟨i1, i2, i3, i4, i5, i6, i7, S⟩, q, n, d⟩ := y
  obtain ⟨w1, hw1, B1, X1, Y1, Z1⟩ := boxes3 w #[.int .i64 a, .int .i64 b, .int .i64 c] #[.int .i64 i1, .int .i64 i2, .int .i64 i3, .int .i64 i4, .int .i64 i5, .int .i64 i6, .int .i64 i7, .slice q n d] #[.int .i64 0, .int .i64 0, .int .i64 0, .int .i64 0, .int .i64 0, .int .i64 0, .int .i64 0, .slice none 0 0] 23 27 27
  have x0 : w1.cell? ⟨w.heap.size, 0, none⟩ = some (.int .i64 a) := X1.out.cell 0
  have x1 : w1.cell? ⟨w.heap.size, 1, none⟩ = some (.int .i64 b) := X1.out.cell 1
  have x2 : w1.cell? ⟨w.heap.size, 2, none⟩ = some (.int .i64 c) := X1.out.cell 2
  have y0 : w1.cell? ⟨w.heap.size + 1, 0, none⟩ = some (.int .i64 i1) := Y1.out.cell 0
  have y1 : w1.cell? ⟨w.heap.size + 1, 1, none⟩ = some (.int .i64 i2) := Y1.out.cell 1
  have y2 : w1.cell? ⟨w.heap.size + 1, 2, none⟩ = some (.int .i64 i3) := Y1.out.cell 2
  have y3 : w1.cell? ⟨w.heap.size + 1, 3, none⟩ = some (.int .i64 i4) := Y1.out.cell 3
  have y4 : w1.cell? ⟨w.heap.size + 1, 4, none⟩ = some (.int .i64 i5) := Y1.out.cell 4
  have y5 : w1.cell? ⟨w.heap.size + 1, 5, none⟩ = some (.int .i64 i6) := Y1.out.cell 5
  have y6 : w1.cell? ⟨w.heap.size + 1, 6, none⟩ = some (.int .i64 i7) := Y1.out.cell 6
  have y7 : w1.cell? ⟨w.heap.size + 1, 7, none⟩ = some (.slice q n d) := Y1.out.cell 7
  by_cases he : er ≠ 0
  · rw [if_pos he]
    have e1 : (er != 0) = true := by simp [he]
    simp only [Ms.pval, lval, lv0, lt0] at CF ⊢
    clear he CO
    go_enter Tryd.func9, Tryd.ntmps9
    go_wp2_with fail
    refine (CF.out _).mono ?_
    rintro e w2 ⟨rfl, rfl⟩
    clear hw1 CF
    clear x0 x1 x2 y0 y1 y2 y3 y4 y5 y6 y7 X1 Y1
    have r0 : w1.cell? ⟨w.heap.size + 2, 0, none⟩ = some (.int .i64 0) := Z1.out.cell 0
    have r1 : w1.cell? ⟨w.heap.size + 2, 1, none⟩ = some (.int .i64 0) := Z1.out.cell 1
    have r2 : w1.cell? ⟨w.heap.size + 2, 2, none⟩ = some (.int .i64 0) := Z1.out.cell 2
    have r3 : w1.cell? ⟨w.heap.size + 2, 3, none⟩ = some (.int .i64 0) := Z1.out.cell 3
    have r4 : w1.cell? ⟨w.heap.size + 2, 4, none⟩ = some (.int .i64 0) := Z1.out.cell 4
    have r5 : w1.cell? ⟨w.heap.size + 2, 5, none⟩ = some (.int .i64 0) := Z1.out.cell 5
    have r6 : w1.cell? ⟨w.heap.size + 2, 6, none⟩ = some (.int .i64 0) := Z1.out.cell 6
    have r7 : w1.cell? ⟨w.heap.size + 2, 7, none⟩ = some (.slice none 0 0) := Z1.out.cell 7
    have g0 := Z1.out.frozen 0
    have g1 := Z1.out.frozen 1
    have g2 := Z1.out.frozen 2
    have g3 := Z1.out.frozen 3
    have g4 := Z1.out.frozen 4
    have g5 := Z1.out.frozen 5
    have g6 := Z1.out.frozen 6
    have g7 := Z1.out.frozen 7
    go_wp2
    refine bodyPost_ret (v := .tuple #[.agg #[.int .i64 0, .int .i64 0, .int .i64 0, .int .i64 0, .int .i64 0, .int .i64 0, .int .i64 0, .slice none 0 0], .int .i64 er]) (by simp [results, Tryd.results9, go_sem, r0, r1, r2, r3, r4, r5, r6, r7]) rfl ⟨rfl, ?_⟩
    iterate 8 refine Below.setCell ?_ (by simp only; omega) _
    exact B1.out
  · rw [if_neg he]
    have he0 : er = 0 := by simpa using he
    subst he0
    have e1 : ((0 : Int) != 0) = false := by decide
    clear he
    cases o with
    | true =>
      simp only [Ms.pval, lval, lv0, lt0, if_true] at CO CF ⊢
      go_enter Tryd.func9, Tryd.ntmps9
      go_wp2_with fail
      refine (CF.out _).mono ?_
      rintro e w2 ⟨rfl, rfl⟩
      clear hw1 CF
      go_wp2_with fail
      refine (CO.out _).mono ?_
      rintro e w2 ⟨rfl, hb⟩
      have B2 := Lib.hid (B1.out.trans (hb.mono B1.out.size))
      have Y2 := Lib.hid (Y1.out.below hb Y1.out.lt)
      have Z2 := Lib.hid (Z1.out.below hb Z1.out.lt)
      clear hb x0 x1 x2 y0 y1 y2 y3 y4 y5 y6 y7 CO X1 Y1 Z1 B1
      have r0 : w2.cell? ⟨w.heap.size + 2, 0, none⟩ = some (.int .i64 0) := Z2.out.cell 0
      have r1 : w2.cell? ⟨w.heap.size + 2, 1, none⟩ = some (.int .i64 0) := Z2.out.cell 1
      have r2 : w2.cell? ⟨w.heap.size + 2, 2, none⟩ = some (.int .i64 0) := Z2.out.cell 2
      have r3 : w2.cell? ⟨w.heap.size + 2, 3, none⟩ = some (.int .i64 0) := Z2.out.cell 3
      have r4 : w2.cell? ⟨w.heap.size + 2, 4, none⟩ = some (.int .i64 0) := Z2.out.cell 4
      have r5 : w2.cell? ⟨w.heap.size + 2, 5, none⟩ = some (.int .i64 0) := Z2.out.cell 5
      have r6 : w2.cell? ⟨w.heap.size + 2, 6, none⟩ = some (.int .i64 0) := Z2.out.cell 6
      have r7 : w2.cell? ⟨w.heap.size + 2, 7, none⟩ = some (.slice none 0 0) := Z2.out.cell 7
      have g0 := Z2.out.frozen 0
      have g1 := Z2.out.frozen 1
      have g2 := Z2.out.frozen 2
      have g3 := Z2.out.frozen 3
      have g4 := Z2.out.frozen 4
      have g5 := Z2.out.frozen 5
      have g6 := Z2.out.frozen 6
      have g7 := Z2.out.frozen 7
      go_wp2
      refine bodyPost_ret (v := .tuple #[.agg #[.int .i64 0, .int .i64 0, .int .i64 0, .int .i64 0, .int .i64 0, .int .i64 0, .int .i64 0, .slice none 0 0], .int .i64 9]) (by simp [results, Tryd.results9, go_sem, r0, r1, r2, r3, r4, r5, r6, r7]) rfl ⟨rfl, ?_⟩
      iterate 8 refine Below.setCell ?_ (by simp only; omega) _
      exact B2.out
    | false =>
      simp only [Ms.pval, lval, Bool.false_eq_true, if_false] at CO CF ⊢
      go_enter Tryd.func9, Tryd.ntmps9
      go_wp2_with fail
      refine (CF.out _).mono ?_
      rintro e w2 ⟨rfl, rfl⟩
      clear hw1 CF
      go_wp2_with fail
      refine (CO.out _).mono ?_
      rintro e w2 ⟨rfl, hb⟩
      have B2 := Lib.hid (B1.out.trans (hb.mono B1.out.size))
      have Y2 := Lib.hid (Y1.out.below hb Y1.out.lt)
      have Z2 := Lib.hid (Z1.out.below hb Z1.out.lt)
      clear hb x0 x1 x2 y0 y1 y2 y3 y4 y5 y6 y7 CO X1 Y1 Z1 B1
      have y6 : w2.cell? ⟨w.heap.size + 1, 6, none⟩ = some (.int .i64 i7) := Y2.out.cell 6
      have f6 : w2.frozen? ⟨w.heap.size + 1, 6, none⟩ = false := Y2.out.frozen 6
      go_upto_region 8 with fail
      have Y3 : Hid (Lies (w2.setCell ⟨w.heap.size + 1, 6, none⟩ (.int .i64 af)) (w.heap.size + 1) 27 #[.int .i64 i1, .int .i64 i2, .int .i64 i3, .int .i64 i4, .int .i64 i5, .int .i64 i6, .int .i64 af, .slice q n d]) := Lib.hid (by simpa using Y2.out.set_ 6 (.int .i64 af))
      have Z3 : Hid (Lies (w2.setCell ⟨w.heap.size + 1, 6, none⟩ (.int .i64 af)) (w.heap.size + 2) 27 #[.int .i64 0, .int .i64 0, .int .i64 0, .int .i64 0, .int .i64 0, .int .i64 0, .int .i64 0, .slice none 0 0]) := Lib.hid (Z2.out.like (Below.heap_setCell w2 ⟨w.heap.size + 1, 6, none⟩ _ _ (by simp only; omega)))
      have B3 := Lib.hid (B2.out.setCell (p := ⟨w.heap.size + 1, 6, none⟩) (Nat.le_add_right _ _) (.int .i64 af))
      clear f6 y6 Y2 Z2 B2
      generalize w2.setCell ⟨w.heap.size + 1, 6, none⟩ (.int .i64 af) = w3 at *
      have y0 : w3.cell? ⟨w.heap.size + 1, 0, none⟩ = some (.int .i64 i1) := Y3.out.cell 0
      have y1 : w3.cell? ⟨w.heap.size + 1, 1, none⟩ = some (.int .i64 i2) := Y3.out.cell 1
      have y2 : w3.cell? ⟨w.heap.size + 1, 2, none⟩ = some (.int .i64 i3) := Y3.out.cell 2
      have y3 : w3.cell? ⟨w.heap.size + 1, 3, none⟩ = some (.int .i64 i4) := Y3.out.cell 3
      have y4 : w3.cell? ⟨w.heap.size + 1, 4, none⟩ = some (.int .i64 i5) := Y3.out.cell 4
      have y5 : w3.cell? ⟨w.heap.size + 1, 5, none⟩ = some (.int .i64 i6) := Y3.out.cell 5
      have y6 : w3.cell? ⟨w.heap.size + 1, 6, none⟩ = some (.int .i64 af) := Y3.out.cell 6
      have y7 : w3.cell? ⟨w.heap.size + 1, 7, none⟩ = some (.slice q n d) := Y3.out.cell 7
      have r0 : w3.cell? ⟨w.heap.size + 2, 0, none⟩ = some (.int .i64 0) := Z3.out.cell 0
      have r1 : w3.cell? ⟨w.heap.size + 2, 1, none⟩ = some (.int .i64 0) := Z3.out.cell 1
      have r2 : w3.cell? ⟨w.heap.size + 2, 2, none⟩ = some (.int .i64 0) := Z3.out.cell 2
      have r3 : w3.cell? ⟨w.heap.size + 2, 3, none⟩ = some (.int .i64 0) := Z3.out.cell 3
      have r4 : w3.cell? ⟨w.heap.size + 2, 4, none⟩ = some (.int .i64 0) := Z3.out.cell 4
      have r5 : w3.cell? ⟨w.heap.size + 2, 5, none⟩ = some (.int .i64 0) := Z3.out.cell 5
      have r6 : w3.cell? ⟨w.heap.size + 2, 6, none⟩ = some (.int .i64 0) := Z3.out.cell 6
      have r7 : w3.cell? ⟨w.heap.size + 2, 7, none⟩ = some (.slice none 0 0) := Z3.out.cell 7
      have g0 := Z3.out.frozen 0
      have g1 := Z3.out.frozen 1
      have g2 := Z3.out.frozen 2
      have g3 := Z3.out.frozen 3
      have g4 := Z3.out.frozen 4
      have g5 := Z3.out.frozen 5
      have g6 := Z3.out.frozen 6
      have g7 := Z3.out.frozen 7
      go_wp2
      refine bodyPost_ret (v := .tuple #[.agg #[.int .i64 i1, .int .i64 i2, .int .i64 i3, .int .i64 i4, .int .i64 i5, .int .i64 i6, .int .i64 af, .slice q n d], .int .i64 0]) (by simp [results, Tryd.results9, go_sem, r0, r1, r2, r3, r4, r5, r6, r7]) rfl ⟨rfl, ?_⟩
      iterate 8 refine Below.setCell ?_ (by simp only; omega) _
      exact B3.out
set_option maxRecDepth 100000 in
set_option maxHeartbeats 8000000 in
theorem r14hold_any (y : Lv) (w : World) : Calls Tryd.prog 13 #[lval y] w fun e w' => e = .returned (.tuple #[lval (holdL y).1, .int .i64 (holdL y).2]) ∧ Below w.heap.size w w' := by
  have CF := Lib.hid (fun W => Su.rafter_any y.x.status 1 W)
  have HJ : holdL y = if Su.err y.x.status 1 ≠ 0 then (lv0, Su.err y.x.status 1) else ({ y with x := { y.x with status := Su.aft y.x.status 1, order := 0 } }, 0) := rfl
  rw [HJ]
  generalize Su.err y.x.status 1 = er at *
  generalize Su.aft y.x.status 1 = af at *
  clear HJ
  obtain ⟨⟨i1, i2, i3, i4, i5, i6, i7, S⟩, q, n, d⟩ := y
  obtain ⟨w1, hw1, B1, Y1, Z1⟩ := boxes2 w #[.int .i64 i1, .int .i64 i2, .int .i64 i3, .int .i64 i4, .int .i64 i5, .int .i64 i6, .int .i64 i7, .slice q n d] #[.int .i64 0, .int .i64 0, .int .i64 0, .int .i64 0, .int .i64 0, .int .i64 0, .int .i64 0, .slice none 0 0] 27 27
  have y0 : w1.cell? ⟨w.heap.size, 0, none⟩ = some (.int .i64 i1) := Y1.out.cell 0
  have y1 : w1.cell? ⟨w.heap.size, 1, none⟩ = some (.int .i64 i2) := Y1.out.cell 1
  have y2 : w1.cell? ⟨w.heap.size, 2, none⟩ = some (.int .i64 i3) := Y1.out.cell 2
  have y3 : w1.cell? ⟨w.heap.size, 3, none⟩ = some (.int .i64 i4) := Y1.out.cell 3
  have y4 : w1.cell? ⟨w.heap.size, 4, none⟩ = some (.int .i64 i5) := Y1.out.cell 4
  have y5 : w1.cell? ⟨w.heap.size, 5, none⟩ = some (.int .i64 i6) := Y1.out.cell 5
  have y6 : w1.cell? ⟨w.heap.size, 6, none⟩ = some (.int .i64 i7) := Y1.out.cell 6
  have y7 : w1.cell? ⟨w.heap.size, 7, none⟩ = some (.slice q n d) := Y1.out.cell 7
  by_cases he : er ≠ 0
  · rw [if_pos he]
    have e1 : (er != 0) = true := by simp [he]
    simp only [lval, lv0, lt0] at CF ⊢
    clear he
    go_enter Tryd.func13, Tryd.ntmps13
    go_wp2_with fail
    refine (CF.out _).mono ?_
    rintro e w2 ⟨rfl, rfl⟩
    clear hw1 CF
    clear y0 y1 y2 y3 y4 y5 y6 y7 Y1
    have r0 : w1.cell? ⟨w.heap.size + 1, 0, none⟩ = some (.int .i64 0) := Z1.out.cell 0
    have r1 : w1.cell? ⟨w.heap.size + 1, 1, none⟩ = some (.int .i64 0) := Z1.out.cell 1
    have r2 : w1.cell? ⟨w.heap.size + 1, 2, none⟩ = some (.int .i64 0) := Z1.out.cell 2
    have r3 : w1.cell? ⟨w.heap.size + 1, 3, none⟩ = some (.int .i64 0) := Z1.out.cell 3
    have r4 : w1.cell? ⟨w.heap.size + 1, 4, none⟩ = some (.int .i64 0) := Z1.out.cell 4
    have r5 : w1.cell? ⟨w.heap.size + 1, 5, none⟩ = some (.int .i64 0) := Z1.out.cell 5
    have r6 : w1.cell? ⟨w.heap.size + 1, 6, none⟩ = some (.int .i64 0) := Z1.out.cell 6
    have r7 : w1.cell? ⟨w.heap.size + 1, 7, none⟩ = some (.slice none 0 0) := Z1.out.cell 7
    have g0 := Z1.out.frozen 0
    have g1 := Z1.out.frozen 1
    have g2 := Z1.out.frozen 2
    have g3 := Z1.out.frozen 3
    have g4 := Z1.out.frozen 4
    have g5 := Z1.out.frozen 5
    have g6 := Z1.out.frozen 6
    have g7 := Z1.out.frozen 7
    go_wp2
    refine bodyPost_ret (v := .tuple #[.agg #[.int .i64 0, .int .i64 0, .int .i64 0, .int .i64 0, .int .i64 0, .int .i64 0, .int .i64 0, .slice none 0 0], .int .i64 er]) (by simp [results, Tryd.results13, go_sem, r0, r1, r2, r3, r4, r5, r6, r7]) rfl ⟨rfl, ?_⟩
    iterate 8 refine Below.setCell ?_ (by simp only; omega) _
    exact B1.out
  · rw [if_neg he]
    have he0 : er = 0 := by simpa using he
    subst he0
    have e1 : ((0 : Int) != 0) = false := by decide
    clear he
    simp only [lval] at CF ⊢
    go_enter Tryd.func13, Tryd.ntmps13
    go_wp2_with fail
    refine (CF.out _).mono ?_
    rintro e w2 ⟨rfl, rfl⟩
    clear hw1 CF
    clear y0 y1 y2 y3 y4 y5 y7
    have f6 : w1.frozen? ⟨w.heap.size, 6, none⟩ = false := Y1.out.frozen 6
    go_upto_region 5 with fail
    have Y3 : Hid (Lies (w1.setCell ⟨w.heap.size, 6, none⟩ (.int .i64 af)) (w.heap.size) 27 #[.int .i64 i1, .int .i64 i2, .int .i64 i3, .int .i64 i4, .int .i64 i5, .int .i64 i6, .int .i64 af, .slice q n d]) := Lib.hid (by simpa using Y1.out.set_ 6 (.int .i64 af))
    have Z3 : Hid (Lies (w1.setCell ⟨w.heap.size, 6, none⟩ (.int .i64 af)) (w.heap.size + 1) 27 #[.int .i64 0, .int .i64 0, .int .i64 0, .int .i64 0, .int .i64 0, .int .i64 0, .int .i64 0, .slice none 0 0]) := Lib.hid (Z1.out.like (Below.heap_setCell w1 ⟨w.heap.size, 6, none⟩ _ _ (by simp only; omega)))
    have B3 := Lib.hid (B1.out.setCell (p := ⟨w.heap.size, 6, none⟩) (Nat.le_refl _) (.int .i64 af))
    clear f6 y6 Y1 Z1 B1
    generalize w1.setCell ⟨w.heap.size, 6, none⟩ (.int .i64 af) = w3 at *
    have f5 : w3.frozen? ⟨w.heap.size, 5, none⟩ = false := Y3.out.frozen 5
    have y5 : w3.cell? ⟨w.heap.size, 5, none⟩ = some (.int .i64 i6) := Y3.out.cell 5
    go_upto_region 6 with fail
    have Y4 : Hid (Lies (w3.setCell ⟨w.heap.size, 5, none⟩ (.int .i64 0)) (w.heap.size) 27 #[.int .i64 i1, .int .i64 i2, .int .i64 i3, .int .i64 i4, .int .i64 i5, .int .i64 0, .int .i64 af, .slice q n d]) := Lib.hid (by simpa using Y3.out.set_ 5 (.int .i64 0))
    have Z4 : Hid (Lies (w3.setCell ⟨w.heap.size, 5, none⟩ (.int .i64 0)) (w.heap.size + 1) 27 #[.int .i64 0, .int .i64 0, .int .i64 0, .int .i64 0, .int .i64 0, .int .i64 0, .int .i64 0, .slice none 0 0]) := Lib.hid (Z3.out.like (Below.heap_setCell w3 ⟨w.heap.size, 5, none⟩ _ _ (by simp only; omega)))
    have B4 := Lib.hid (B3.out.setCell (p := ⟨w.heap.size, 5, none⟩) (Nat.le_refl _) (.int .i64 0))
    clear f5 y5 Y3 Z3 B3
    generalize w3.setCell ⟨w.heap.size, 5, none⟩ (.int .i64 0) = w4 at *
    have y0 : w4.cell? ⟨w.heap.size, 0, none⟩ = some (.int .i64 i1) := Y4.out.cell 0
    have y1 : w4.cell? ⟨w.heap.size, 1, none⟩ = some (.int .i64 i2) := Y4.out.cell 1
    have y2 : w4.cell? ⟨w.heap.size, 2, none⟩ = some (.int .i64 i3) := Y4.out.cell 2
    have y3 : w4.cell? ⟨w.heap.size, 3, none⟩ = some (.int .i64 i4) := Y4.out.cell 3
    have y4 : w4.cell? ⟨w.heap.size, 4, none⟩ = some (.int .i64 i5) := Y4.out.cell 4
    have y5 : w4.cell? ⟨w.heap.size, 5, none⟩ = some (.int .i64 0) := Y4.out.cell 5
    have y6 : w4.cell? ⟨w.heap.size, 6, none⟩ = some (.int .i64 af) := Y4.out.cell 6
    have y7 : w4.cell? ⟨w.heap.size, 7, none⟩ = some (.slice q n d) := Y4.out.cell 7
    have r0 : w4.cell? ⟨w.heap.size + 1, 0, none⟩ = some (.int .i64 0) := Z4.out.cell 0
    have r1 : w4.cell? ⟨w.heap.size + 1, 1, none⟩ = some (.int .i64 0) := Z4.out.cell 1
    have r2 : w4.cell? ⟨w.heap.size + 1, 2, none⟩ = some (.int .i64 0) := Z4.out.cell 2
    have r3 : w4.cell? ⟨w.heap.size + 1, 3, none⟩ = some (.int .i64 0) := Z4.out.cell 3
    have r4 : w4.cell? ⟨w.heap.size + 1, 4, none⟩ = some (.int .i64 0) := Z4.out.cell 4
    have r5 : w4.cell? ⟨w.heap.size + 1, 5, none⟩ = some (.int .i64 0) := Z4.out.cell 5
    have r6 : w4.cell? ⟨w.heap.size + 1, 6, none⟩ = some (.int .i64 0) := Z4.out.cell 6
    have r7 : w4.cell? ⟨w.heap.size + 1, 7, none⟩ = some (.slice none 0 0) := Z4.out.cell 7
    have g0 := Z4.out.frozen 0
    have g1 := Z4.out.frozen 1
    have g2 := Z4.out.frozen 2
    have g3 := Z4.out.frozen 3
    have g4 := Z4.out.frozen 4
    have g5 := Z4.out.frozen 5
    have g6 := Z4.out.frozen 6
    have g7 := Z4.out.frozen 7
    go_wp2
    refine bodyPost_ret (v := .tuple #[.agg #[.int .i64 i1, .int .i64 i2, .int .i64 i3, .int .i64 i4, .int .i64 i5, .int .i64 0, .int .i64 af, .slice q n d], .int .i64 0]) (by simp [results, Tryd.results13, go_sem, r0, r1, r2, r3, r4, r5, r6, r7]) rfl ⟨rfl, ?_⟩
    iterate 8 refine Below.setCell ?_ (by simp only; omega) _
    exact B4.out
set_option maxRecDepth 100000 in
set_option maxHeartbeats 8000000 in
theorem r14rej_any (y : Lv) (w : World) : Calls Tryd.prog 15 #[lval y] w fun e w' => e = .returned (.tuple #[lval (rejL y).1, .int .i64 (rejL y).2]) ∧ Below w.heap.size w w' := by
  have CF := Lib.hid (fun W => Su.rafter_any y.x.status 3 W)
  have HJ : rejL y = if Su.err y.x.status 3 ≠ 0 then (lv0, Su.err y.x.status 3) else ({ y with x := { y.x with status := Su.aft y.x.status 3, order := 0 } }, 0) := rfl
  rw [HJ]
  generalize Su.err y.x.status 3 = er at *
  generalize Su.aft y.x.status 3 = af at *
  clear HJ
  obtain ⟨⟨i1, i2, i3, i4, i5, i6, i7, S⟩, q, n, d⟩ := y
  obtain ⟨w1, hw1, B1, Y1, Z1⟩ := boxes2 w #[.int .i64 i1, .int .i64 i2, .int .i64 i3, .int .i64 i4, .int .i64 i5, .int .i64 i6, .int .i64 i7, .slice q n d] #[.int .i64 0, .int .i64 0, .int .i64 0, .int .i64 0, .int .i64 0, .int .i64 0, .int .i64 0, .slice none 0 0] 27 27
  have y0 : w1.cell? ⟨w.heap.size, 0, none⟩ = some (.int .i64 i1) := Y1.out.cell 0
  have y1 : w1.cell? ⟨w.heap.size, 1, none⟩ = some (.int .i64 i2) := Y1.out.cell 1
  have y2 : w1.cell? ⟨w.heap.size, 2, none⟩ = some (.int .i64 i3) := Y1.out.cell 2
  have y3 : w1.cell? ⟨w.heap.size, 3, none⟩ = some (.int .i64 i4) := Y1.out.cell 3
  have y4 : w1.cell? ⟨w.heap.size, 4, none⟩ = some (.int .i64 i5) := Y1.out.cell 4
  have y5 : w1.cell? ⟨w.heap.size, 5, none⟩ = some (.int .i64 i6) := Y1.out.cell 5
  have y6 : w1.cell? ⟨w.heap.size, 6, none⟩ = some (.int .i64 i7) := Y1.out.cell 6
  have y7 : w1.cell? ⟨w.heap.size, 7, none⟩ = some (.slice q n d) := Y1.out.cell 7
  by_cases he : er ≠ 0
  · rw [if_pos he]
    have e1 : (er != 0) = true := by simp [he]
    simp only [lval, lv0, lt0] at CF ⊢
    clear he
    go_enter Tryd.func15, Tryd.ntmps15
    go_wp2_with fail
    refine (CF.out _).mono ?_
    rintro e w2 ⟨rfl, rfl⟩
    clear hw1 CF
    clear y0 y1 y2 y3 y4 y5 y6 y7 Y1
    have r0 : w1.cell? ⟨w.heap.size + 1, 0, none⟩ = some (.int .i64 0) := Z1.out.cell 0
    have r1 : w1.cell? ⟨w.heap.size + 1, 1, none⟩ = some (.int .i64 0) := Z1.out.cell 1
    have r2 : w1.cell? ⟨w.heap.size + 1, 2, none⟩ = some (.int .i64 0) := Z1.out.cell 2
    have r3 : w1.cell? ⟨w.heap.size + 1, 3, none⟩ = some (.int .i64 0) := Z1.out.cell 3
    have r4 : w1.cell? ⟨w.heap.size + 1, 4, none⟩ = some (.int .i64 0) := Z1.out.cell 4
    have r5 : w1.cell? ⟨w.heap.size + 1, 5, none⟩ = some (.int .i64 0) := Z1.out.cell 5
    have r6 : w1.cell? ⟨w.heap.size + 1, 6, none⟩ = some (.int .i64 0) := Z1.out.cell 6
    have r7 : w1.cell? ⟨w.heap.size + 1, 7, none⟩ = some (.slice none 0 0) := Z1.out.cell 7
    have g0 := Z1.out.frozen 0
    have g1 := Z1.out.frozen 1
    have g2 := Z1.out.frozen 2
    have g3 := Z1.out.frozen 3
    have g4 := Z1.out.frozen 4
    have g5 := Z1.out.frozen 5
    have g6 := Z1.out.frozen 6
    have g7 := Z1.out.frozen 7
    go_wp2
    refine bodyPost_ret (v := .tuple #[.agg #[.int .i64 0, .int .i64 0, .int .i64 0, .int .i64 0, .int .i64 0, .int .i64 0, .int .i64 0, .slice none 0 0], .int .i64 er]) (by simp [results, Tryd.results15, go_sem, r0, r1, r2, r3, r4, r5, r6, r7]) rfl ⟨rfl, ?_⟩
    iterate 8 refine Below.setCell ?_ (by simp only; omega) _
    exact B1.out
  · rw [if_neg he]
    have he0 : er = 0 := by simpa using he
    subst he0
    have e1 : ((0 : Int) != 0) = false := by decide
    clear he
    simp only [lval] at CF ⊢
    go_enter Tryd.func15, Tryd.ntmps15
    go_wp2_with fail
    refine (CF.out _).mono ?_
    rintro e w2 ⟨rfl, rfl⟩
    clear hw1 CF
    clear y0 y1 y2 y3 y4 y5 y7
    have f6 : w1.frozen? ⟨w.heap.size, 6, none⟩ = false := Y1.out.frozen 6
    go_upto_region 5 with fail
    have Y3 : Hid (Lies (w1.setCell ⟨w.heap.size, 6, none⟩ (.int .i64 af)) (w.heap.size) 27 #[.int .i64 i1, .int .i64 i2, .int .i64 i3, .int .i64 i4, .int .i64 i5, .int .i64 i6, .int .i64 af, .slice q n d]) := Lib.hid (by simpa using Y1.out.set_ 6 (.int .i64 af))
    have Z3 : Hid (Lies (w1.setCell ⟨w.heap.size, 6, none⟩ (.int .i64 af)) (w.heap.size + 1) 27 #[.int .i64 0, .int .i64 0, .int .i64 0, .int .i64 0, .int .i64 0, .int .i64 0, .int .i64 0, .slice none 0 0]) := Lib.hid (Z1.out.like (Below.heap_setCell w1 ⟨w.heap.size, 6, none⟩ _ _ (by simp only; omega)))
    have B3 := Lib.hid (B1.out.setCell (p := ⟨w.heap.size, 6, none⟩) (Nat.le_refl _) (.int .i64 af))
    clear f6 y6 Y1 Z1 B1
    generalize w1.setCell ⟨w.heap.size, 6, none⟩ (.int .i64 af) = w3 at *
    have f5 : w3.frozen? ⟨w.heap.size, 5, none⟩ = false := Y3.out.frozen 5
    have y5 : w3.cell? ⟨w.heap.size, 5, none⟩ = some (.int .i64 i6) := Y3.out.cell 5
    go_upto_region 6 with fail
    have Y4 : Hid (Lies (w3.setCell ⟨w.heap.size, 5, none⟩ (.int .i64 0)) (w.heap.size) 27 #[.int .i64 i1, .int .i64 i2, .int .i64 i3, .int .i64 i4, .int .i64 i5, .int .i64 0, .int .i64 af, .slice q n d]) := Lib.hid (by simpa using Y3.out.set_ 5 (.int .i64 0))
    have Z4 : Hid (Lies (w3.setCell ⟨w.heap.size, 5, none⟩ (.int .i64 0)) (w.heap.size + 1) 27 #[.int .i64 0, .int .i64 0, .int .i64 0, .int .i64 0, .int .i64 0, .int .i64 0, .int .i64 0, .slice none 0 0]) := Lib.hid (Z3.out.like (Below.heap_setCell w3 ⟨w.heap.size, 5, none⟩ _ _ (by simp only; omega)))
    have B4 := Lib.hid (B3.out.setCell (p := ⟨w.heap.size, 5, none⟩) (Nat.le_refl _) (.int .i64 0))
    clear f5 y5 Y3 Z3 B3
    generalize w3.setCell ⟨w.heap.size, 5, none⟩ (.int .i64 0) = w4 at *
    have y0 : w4.cell? ⟨w.heap.size, 0, none⟩ = some (.int .i64 i1) := Y4.out.cell 0
    have y1 : w4.cell? ⟨w.heap.size, 1, none⟩ = some (.int .i64 i2) := Y4.out.cell 1
    have y2 : w4.cell? ⟨w.heap.size, 2, none⟩ = some (.int .i64 i3) := Y4.out.cell 2
    have y3 : w4.cell? ⟨w.heap.size, 3, none⟩ = some (.int .i64 i4) := Y4.out.cell 3
    have y4 : w4.cell? ⟨w.heap.size, 4, none⟩ = some (.int .i64 i5) := Y4.out.cell 4
    have y5 : w4.cell? ⟨w.heap.size, 5, none⟩ = some (.int .i64 0) := Y4.out.cell 5
    have y6 : w4.cell? ⟨w.heap.size, 6, none⟩ = some (.int .i64 af) := Y4.out.cell 6
    have y7 : w4.cell? ⟨w.heap.size, 7, none⟩ = some (.slice q n d) := Y4.out.cell 7
    have r0 : w4.cell? ⟨w.heap.size + 1, 0, none⟩ = some (.int .i64 0) := Z4.out.cell 0
    have r1 : w4.cell? ⟨w.heap.size + 1, 1, none⟩ = some (.int .i64 0) := Z4.out.cell 1
    have r2 : w4.cell? ⟨w.heap.size + 1, 2, none⟩ = some (.int .i64 0) := Z4.out.cell 2
    have r3 : w4.cell? ⟨w.heap.size + 1, 3, none⟩ = some (.int .i64 0) := Z4.out.cell 3
    have r4 : w4.cell? ⟨w.heap.size + 1, 4, none⟩ = some (.int .i64 0) := Z4.out.cell 4
    have r5 : w4.cell? ⟨w.heap.size + 1, 5, none⟩ = some (.int .i64 0) := Z4.out.cell 5
    have r6 : w4.cell? ⟨w.heap.size + 1, 6, none⟩ = some (.int .i64 0) := Z4.out.cell 6
    have r7 : w4.cell? ⟨w.heap.size + 1, 7, none⟩ = some (.slice none 0 0) := Z4.out.cell 7
    have g0 := Z4.out.frozen 0
    have g1 := Z4.out.frozen 1
    have g2 := Z4.out.frozen 2
    have g3 := Z4.out.frozen 3
    have g4 := Z4.out.frozen 4
    have g5 := Z4.out.frozen 5
    have g6 := Z4.out.frozen 6
    have g7 := Z4.out.frozen 7
    go_wp2
    refine bodyPost_ret (v := .tuple #[.agg #[.int .i64 i1, .int .i64 i2, .int .i64 i3, .int .i64 i4, .int .i64 i5, .int .i64 0, .int .i64 af, .slice q n d], .int .i64 0]) (by simp [results, Tryd.results15, go_sem, r0, r1, r2, r3, r4, r5, r6, r7]) rfl ⟨rfl, ?_⟩
    iterate 8 refine Below.setCell ?_ (by simp only; omega) _
    exact B4.out
set_option maxRecDepth 100000 in
set_option maxHeartbeats 8000000 in
theorem r14rev_any (p : Ms.Pd) (y : Lv) (x g : Int) (w : World) : Calls Tryd.prog 11 #[Ms.pval p, lval y, .int .i64 x, .int .i64 g] w fun e w' => e = .returned (.tuple #[lval (revL p y x g).1, .int .i64 (revL p y x g).2]) ∧ Below w.heap.size w w' := by
  have CO := Lib.hid (fun W => r14over_any p (grantL y g) x W)
  have CF := Lib.hid (fun W => Su.rafter_any y.x.status 2 W)
  have CT := Lib.hid (fun W => St.two_any y.x.grant g W)
  have HJ : revL p y x g = if g < 0 ∨ 4611686018427387904 < g then (lv0, 1) else if Su.err y.x.status 2 ≠ 0 then (lv0, Su.err y.x.status 2) else if overB p (grantL y g).x x = true then (lv0, 9) else (grantL y g, 0) := rfl
  rw [HJ]
  generalize overB p (grantL y g).x x = o at *
  unfold grantL at *
  generalize Su.err y.x.status 2 = er at *
  generalize Su.aft y.x.status 2 = af at *
  generalize St.St.cap (St.St.fit y.x.grant + St.St.fit g) = gr at *
  clear HJ
  obtain ⟨a, b, c⟩ := p
  obtain ⟨⟨i1, i2, i3, i4, i5, i6, i7, S⟩, q, n, d⟩ := y
  obtain ⟨w1, hw1, B1, X1, Y1, Z1⟩ := boxes3 w #[.int .i64 a, .int .i64 b, .int .i64 c] #[.int .i64 i1, .int .i64 i2, .int .i64 i3, .int .i64 i4, .int .i64 i5, .int .i64 i6, .int .i64 i7, .slice q n d] #[.int .i64 0, .int .i64 0, .int .i64 0, .int .i64 0, .int .i64 0, .int .i64 0, .int .i64 0, .slice none 0 0] 23 27 27
  have x0 : w1.cell? ⟨w.heap.size, 0, none⟩ = some (.int .i64 a) := X1.out.cell 0
  have x1 : w1.cell? ⟨w.heap.size, 1, none⟩ = some (.int .i64 b) := X1.out.cell 1
  have x2 : w1.cell? ⟨w.heap.size, 2, none⟩ = some (.int .i64 c) := X1.out.cell 2
  have y0 : w1.cell? ⟨w.heap.size + 1, 0, none⟩ = some (.int .i64 i1) := Y1.out.cell 0
  have y1 : w1.cell? ⟨w.heap.size + 1, 1, none⟩ = some (.int .i64 i2) := Y1.out.cell 1
  have y2 : w1.cell? ⟨w.heap.size + 1, 2, none⟩ = some (.int .i64 i3) := Y1.out.cell 2
  have y3 : w1.cell? ⟨w.heap.size + 1, 3, none⟩ = some (.int .i64 i4) := Y1.out.cell 3
  have y4 : w1.cell? ⟨w.heap.size + 1, 4, none⟩ = some (.int .i64 i5) := Y1.out.cell 4
  have y5 : w1.cell? ⟨w.heap.size + 1, 5, none⟩ = some (.int .i64 i6) := Y1.out.cell 5
  have y6 : w1.cell? ⟨w.heap.size + 1, 6, none⟩ = some (.int .i64 i7) := Y1.out.cell 6
  have y7 : w1.cell? ⟨w.heap.size + 1, 7, none⟩ = some (.slice q n d) := Y1.out.cell 7
  by_cases h0 : g < 0 ∨ 4611686018427387904 < g
  · rw [if_pos h0]
    simp only [Ms.pval, lval, lv0, lt0] at ⊢
    clear CO CF CT
    rcases h0 with h0 | h0
    · have h1 : decide (g < 0) = true := by simp [h0]
      go_enter Tryd.func11, Tryd.ntmps11
      clear x0 x1 x2 y0 y1 y2 y3 y4 y5 y6 y7 X1 Y1
      have r0 : w1.cell? ⟨w.heap.size + 2, 0, none⟩ = some (.int .i64 0) := Z1.out.cell 0
      have r1 : w1.cell? ⟨w.heap.size + 2, 1, none⟩ = some (.int .i64 0) := Z1.out.cell 1
      have r2 : w1.cell? ⟨w.heap.size + 2, 2, none⟩ = some (.int .i64 0) := Z1.out.cell 2
      have r3 : w1.cell? ⟨w.heap.size + 2, 3, none⟩ = some (.int .i64 0) := Z1.out.cell 3
      have r4 : w1.cell? ⟨w.heap.size + 2, 4, none⟩ = some (.int .i64 0) := Z1.out.cell 4
      have r5 : w1.cell? ⟨w.heap.size + 2, 5, none⟩ = some (.int .i64 0) := Z1.out.cell 5
      have r6 : w1.cell? ⟨w.heap.size + 2, 6, none⟩ = some (.int .i64 0) := Z1.out.cell 6
      have r7 : w1.cell? ⟨w.heap.size + 2, 7, none⟩ = some (.slice none 0 0) := Z1.out.cell 7
      have g0 := Z1.out.frozen 0
      have g1 := Z1.out.frozen 1
      have g2 := Z1.out.frozen 2
      have g3 := Z1.out.frozen 3
      have g4 := Z1.out.frozen 4
      have g5 := Z1.out.frozen 5
      have g6 := Z1.out.frozen 6
      have g7 := Z1.out.frozen 7
      go_wp2
      refine bodyPost_ret (v := .tuple #[.agg #[.int .i64 0, .int .i64 0, .int .i64 0, .int .i64 0, .int .i64 0, .int .i64 0, .int .i64 0, .slice none 0 0], .int .i64 1]) (by simp [results, Tryd.results11, go_sem, r0, r1, r2, r3, r4, r5, r6, r7]) rfl ⟨rfl, ?_⟩
      iterate 8 refine Below.setCell ?_ (by simp only; omega) _
      exact B1.out
    · have h1 : decide (g < 0) = false := by simp; omega
      have h2 : decide (g > 4611686018427387904) = true := by simp; omega
      go_enter Tryd.func11, Tryd.ntmps11
      clear x0 x1 x2 y0 y1 y2 y3 y4 y5 y6 y7 X1 Y1
      have r0 : w1.cell? ⟨w.heap.size + 2, 0, none⟩ = some (.int .i64 0) := Z1.out.cell 0
      have r1 : w1.cell? ⟨w.heap.size + 2, 1, none⟩ = some (.int .i64 0) := Z1.out.cell 1
      have r2 : w1.cell? ⟨w.heap.size + 2, 2, none⟩ = some (.int .i64 0) := Z1.out.cell 2
      have r3 : w1.cell? ⟨w.heap.size + 2, 3, none⟩ = some (.int .i64 0) := Z1.out.cell 3
      have r4 : w1.cell? ⟨w.heap.size + 2, 4, none⟩ = some (.int .i64 0) := Z1.out.cell 4
      have r5 : w1.cell? ⟨w.heap.size + 2, 5, none⟩ = some (.int .i64 0) := Z1.out.cell 5
      have r6 : w1.cell? ⟨w.heap.size + 2, 6, none⟩ = some (.int .i64 0) := Z1.out.cell 6
      have r7 : w1.cell? ⟨w.heap.size + 2, 7, none⟩ = some (.slice none 0 0) := Z1.out.cell 7
      have g0 := Z1.out.frozen 0
      have g1 := Z1.out.frozen 1
      have g2 := Z1.out.frozen 2
      have g3 := Z1.out.frozen 3
      have g4 := Z1.out.frozen 4
      have g5 := Z1.out.frozen 5
      have g6 := Z1.out.frozen 6
      have g7 := Z1.out.frozen 7
      go_wp2
      refine bodyPost_ret (v := .tuple #[.agg #[.int .i64 0, .int .i64 0, .int .i64 0, .int .i64 0, .int .i64 0, .int .i64 0, .int .i64 0, .slice none 0 0], .int .i64 1]) (by simp [results, Tryd.results11, go_sem, r0, r1, r2, r3, r4, r5, r6, r7]) rfl ⟨rfl, ?_⟩
      iterate 8 refine Below.setCell ?_ (by simp only; omega) _
      exact B1.out
  · rw [if_neg h0]
    have h1 : decide (g < 0) = false := by simp; omega
    have h2 : decide (g > 4611686018427387904) = false := by simp; omega
    clear h0
    by_cases he : er ≠ 0
    · rw [if_pos he]
      have e1 : (er != 0) = true := by simp [he]
      simp only [Ms.pval, lval, lv0, lt0] at CF ⊢
      clear he CO CT
      go_enter Tryd.func11, Tryd.ntmps11
      go_wp2_with fail
      refine (CF.out _).mono ?_
      rintro e w2 ⟨rfl, rfl⟩
      clear hw1 CF
      clear x0 x1 x2 y0 y1 y2 y3 y4 y5 y6 y7 X1 Y1
      have r0 : w1.cell? ⟨w.heap.size + 2, 0, none⟩ = some (.int .i64 0) := Z1.out.cell 0
      have r1 : w1.cell? ⟨w.heap.size + 2, 1, none⟩ = some (.int .i64 0) := Z1.out.cell 1
      have r2 : w1.cell? ⟨w.heap.size + 2, 2, none⟩ = some (.int .i64 0) := Z1.out.cell 2
      have r3 : w1.cell? ⟨w.heap.size + 2, 3, none⟩ = some (.int .i64 0) := Z1.out.cell 3
      have r4 : w1.cell? ⟨w.heap.size + 2, 4, none⟩ = some (.int .i64 0) := Z1.out.cell 4
      have r5 : w1.cell? ⟨w.heap.size + 2, 5, none⟩ = some (.int .i64 0) := Z1.out.cell 5
      have r6 : w1.cell? ⟨w.heap.size + 2, 6, none⟩ = some (.int .i64 0) := Z1.out.cell 6
      have r7 : w1.cell? ⟨w.heap.size + 2, 7, none⟩ = some (.slice none 0 0) := Z1.out.cell 7
      have g0 := Z1.out.frozen 0
      have g1 := Z1.out.frozen 1
      have g2 := Z1.out.frozen 2
      have g3 := Z1.out.frozen 3
      have g4 := Z1.out.frozen 4
      have g5 := Z1.out.frozen 5
      have g6 := Z1.out.frozen 6
      have g7 := Z1.out.frozen 7
      go_wp2
      refine bodyPost_ret (v := .tuple #[.agg #[.int .i64 0, .int .i64 0, .int .i64 0, .int .i64 0, .int .i64 0, .int .i64 0, .int .i64 0, .slice none 0 0], .int .i64 er]) (by simp [results, Tryd.results11, go_sem, r0, r1, r2, r3, r4, r5, r6, r7]) rfl ⟨rfl, ?_⟩
      iterate 8 refine Below.setCell ?_ (by simp only; omega) _
      exact B1.out
    · rw [if_neg he]
      have he0 : er = 0 := by simpa using he
      subst he0
      have e1 : ((0 : Int) != 0) = false := by decide
      clear he
      cases o with
      | true =>
        simp only [Ms.pval, lval, lv0, lt0, if_true] at CO CF CT ⊢
        go_enter Tryd.func11, Tryd.ntmps11
        go_wp2_with fail
        refine (CF.out _).mono ?_
        rintro e w2 ⟨rfl, rfl⟩
        clear hw1 CF
        clear y0 y1 y2 y3 y4 y5 y7
        have f6 : w1.frozen? ⟨w.heap.size + 1, 6, none⟩ = false := Y1.out.frozen 6
        go_upto_region 7 with fail
        have Y3 : Hid (Lies (w1.setCell ⟨w.heap.size + 1, 6, none⟩ (.int .i64 af)) (w.heap.size + 1) 27 #[.int .i64 i1, .int .i64 i2, .int .i64 i3, .int .i64 i4, .int .i64 i5, .int .i64 i6, .int .i64 af, .slice q n d]) := Lib.hid (by simpa using Y1.out.set_ 6 (.int .i64 af))
        have Z3 : Hid (Lies (w1.setCell ⟨w.heap.size + 1, 6, none⟩ (.int .i64 af)) (w.heap.size + 2) 27 #[.int .i64 0, .int .i64 0, .int .i64 0, .int .i64 0, .int .i64 0, .int .i64 0, .int .i64 0, .slice none 0 0]) := Lib.hid (Z1.out.like (Below.heap_setCell w1 ⟨w.heap.size + 1, 6, none⟩ _ _ (by simp only; omega)))
        have B3 := Lib.hid (B1.out.setCell (p := ⟨w.heap.size + 1, 6, none⟩) (Nat.le_add_right _ _) (.int .i64 af))
        have X3 := Lib.hid (X1.out.like (Below.heap_setCell w1 ⟨w.heap.size + 1, 6, none⟩ (.int .i64 af) _ (by simp only; omega)))
        clear x0 x1 x2 X1
        clear f6 y6 Y1 Z1 B1
        generalize w1.setCell ⟨w.heap.size + 1, 6, none⟩ (.int .i64 af) = w3 at *
        have y4 : w3.cell? ⟨w.heap.size + 1, 4, none⟩ = some (.int .i64 i5) := Y3.out.cell 4
        have f4 : w3.frozen? ⟨w.heap.size + 1, 4, none⟩ = false := Y3.out.frozen 4
        go_wp2_with fail
        refine (CT.out _).mono ?_
        rintro e w2 ⟨rfl, rfl⟩
        clear CT
        go_upto_region 8 with fail
        have Y4 : Hid (Lies (w3.setCell ⟨w.heap.size + 1, 4, none⟩ (.int .i64 gr)) (w.heap.size + 1) 27 #[.int .i64 i1, .int .i64 i2, .int .i64 i3, .int .i64 i4, .int .i64 gr, .int .i64 i6, .int .i64 af, .slice q n d]) := Lib.hid (by simpa using Y3.out.set_ 4 (.int .i64 gr))
        have Z4 : Hid (Lies (w3.setCell ⟨w.heap.size + 1, 4, none⟩ (.int .i64 gr)) (w.heap.size + 2) 27 #[.int .i64 0, .int .i64 0, .int .i64 0, .int .i64 0, .int .i64 0, .int .i64 0, .int .i64 0, .slice none 0 0]) := Lib.hid (Z3.out.like (Below.heap_setCell w3 ⟨w.heap.size + 1, 4, none⟩ _ _ (by simp only; omega)))
        have B4 := Lib.hid (B3.out.setCell (p := ⟨w.heap.size + 1, 4, none⟩) (Nat.le_add_right _ _) (.int .i64 gr))
        have X4 := Lib.hid (X3.out.like (Below.heap_setCell w3 ⟨w.heap.size + 1, 4, none⟩ (.int .i64 gr) _ (by simp only; omega)))
        clear X3
        clear f4 y4 Y3 Z3 B3
        generalize w3.setCell ⟨w.heap.size + 1, 4, none⟩ (.int .i64 gr) = w4 at *
        have x0 : w4.cell? ⟨w.heap.size, 0, none⟩ = some (.int .i64 a) := X4.out.cell 0
        have x1 : w4.cell? ⟨w.heap.size, 1, none⟩ = some (.int .i64 b) := X4.out.cell 1
        have x2 : w4.cell? ⟨w.heap.size, 2, none⟩ = some (.int .i64 c) := X4.out.cell 2
        have y0 : w4.cell? ⟨w.heap.size + 1, 0, none⟩ = some (.int .i64 i1) := Y4.out.cell 0
        have y1 : w4.cell? ⟨w.heap.size + 1, 1, none⟩ = some (.int .i64 i2) := Y4.out.cell 1
        have y2 : w4.cell? ⟨w.heap.size + 1, 2, none⟩ = some (.int .i64 i3) := Y4.out.cell 2
        have y3 : w4.cell? ⟨w.heap.size + 1, 3, none⟩ = some (.int .i64 i4) := Y4.out.cell 3
        have y4 : w4.cell? ⟨w.heap.size + 1, 4, none⟩ = some (.int .i64 gr) := Y4.out.cell 4
        have y5 : w4.cell? ⟨w.heap.size + 1, 5, none⟩ = some (.int .i64 i6) := Y4.out.cell 5
        have y6 : w4.cell? ⟨w.heap.size + 1, 6, none⟩ = some (.int .i64 af) := Y4.out.cell 6
        have y7 : w4.cell? ⟨w.heap.size + 1, 7, none⟩ = some (.slice q n d) := Y4.out.cell 7
        go_wp2_with fail
        refine (CO.out _).mono ?_
        rintro e w5 ⟨rfl, hb⟩
        have B5 := Lib.hid (B4.out.trans (hb.mono B4.out.size))
        have Y5 := Lib.hid (Y4.out.below hb Y4.out.lt)
        have Z5 := Lib.hid (Z4.out.below hb Z4.out.lt)
        clear hb x0 x1 x2 y0 y1 y2 y3 y4 y5 y6 y7 CO X4 Y4 Z4 B4
        have r0 : w5.cell? ⟨w.heap.size + 2, 0, none⟩ = some (.int .i64 0) := Z5.out.cell 0
        have r1 : w5.cell? ⟨w.heap.size + 2, 1, none⟩ = some (.int .i64 0) := Z5.out.cell 1
        have r2 : w5.cell? ⟨w.heap.size + 2, 2, none⟩ = some (.int .i64 0) := Z5.out.cell 2
        have r3 : w5.cell? ⟨w.heap.size + 2, 3, none⟩ = some (.int .i64 0) := Z5.out.cell 3
        have r4 : w5.cell? ⟨w.heap.size + 2, 4, none⟩ = some (.int .i64 0) := Z5.out.cell 4
        have r5 : w5.cell? ⟨w.heap.size + 2, 5, none⟩ = some (.int .i64 0) := Z5.out.cell 5
        have r6 : w5.cell? ⟨w.heap.size + 2, 6, none⟩ = some (.int .i64 0) := Z5.out.cell 6
        have r7 : w5.cell? ⟨w.heap.size + 2, 7, none⟩ = some (.slice none 0 0) := Z5.out.cell 7
        have g0 := Z5.out.frozen 0
        have g1 := Z5.out.frozen 1
        have g2 := Z5.out.frozen 2
        have g3 := Z5.out.frozen 3
        have g4 := Z5.out.frozen 4
        have g5 := Z5.out.frozen 5
        have g6 := Z5.out.frozen 6
        have g7 := Z5.out.frozen 7
        go_wp2
        refine bodyPost_ret (v := .tuple #[.agg #[.int .i64 0, .int .i64 0, .int .i64 0, .int .i64 0, .int .i64 0, .int .i64 0, .int .i64 0, .slice none 0 0], .int .i64 9]) (by simp [results, Tryd.results11, go_sem, r0, r1, r2, r3, r4, r5, r6, r7]) rfl ⟨rfl, ?_⟩
        iterate 8 refine Below.setCell ?_ (by simp only; omega) _
        exact B5.out
      | false =>
        simp only [Ms.pval, lval, Bool.false_eq_true, if_false] at CO CF CT ⊢
        go_enter Tryd.func11, Tryd.ntmps11
        go_wp2_with fail
        refine (CF.out _).mono ?_
        rintro e w2 ⟨rfl, rfl⟩
        clear hw1 CF
        clear y0 y1 y2 y3 y4 y5 y7
        have f6 : w1.frozen? ⟨w.heap.size + 1, 6, none⟩ = false := Y1.out.frozen 6
        go_upto_region 7 with fail
        have Y3 : Hid (Lies (w1.setCell ⟨w.heap.size + 1, 6, none⟩ (.int .i64 af)) (w.heap.size + 1) 27 #[.int .i64 i1, .int .i64 i2, .int .i64 i3, .int .i64 i4, .int .i64 i5, .int .i64 i6, .int .i64 af, .slice q n d]) := Lib.hid (by simpa using Y1.out.set_ 6 (.int .i64 af))
        have Z3 : Hid (Lies (w1.setCell ⟨w.heap.size + 1, 6, none⟩ (.int .i64 af)) (w.heap.size + 2) 27 #[.int .i64 0, .int .i64 0, .int .i64 0, .int .i64 0, .int .i64 0, .int .i64 0, .int .i64 0, .slice none 0 0]) := Lib.hid (Z1.out.like (Below.heap_setCell w1 ⟨w.heap.size + 1, 6, none⟩ _ _ (by simp only; omega)))
        have B3 := Lib.hid (B1.out.setCell (p := ⟨w.heap.size + 1, 6, none⟩) (Nat.le_add_right _ _) (.int .i64 af))
        have X3 := Lib.hid (X1.out.like (Below.heap_setCell w1 ⟨w.heap.size + 1, 6, none⟩ (.int .i64 af) _ (by simp only; omega)))
        clear x0 x1 x2 X1
        clear f6 y6 Y1 Z1 B1
        generalize w1.setCell ⟨w.heap.size + 1, 6, none⟩ (.int .i64 af) = w3 at *
        have y4 : w3.cell? ⟨w.heap.size + 1, 4, none⟩ = some (.int .i64 i5) := Y3.out.cell 4
        have f4 : w3.frozen? ⟨w.heap.size + 1, 4, none⟩ = false := Y3.out.frozen 4
        go_wp2_with fail
        refine (CT.out _).mono ?_
        rintro e w2 ⟨rfl, rfl⟩
        clear CT
        go_upto_region 8 with fail
        have Y4 : Hid (Lies (w3.setCell ⟨w.heap.size + 1, 4, none⟩ (.int .i64 gr)) (w.heap.size + 1) 27 #[.int .i64 i1, .int .i64 i2, .int .i64 i3, .int .i64 i4, .int .i64 gr, .int .i64 i6, .int .i64 af, .slice q n d]) := Lib.hid (by simpa using Y3.out.set_ 4 (.int .i64 gr))
        have Z4 : Hid (Lies (w3.setCell ⟨w.heap.size + 1, 4, none⟩ (.int .i64 gr)) (w.heap.size + 2) 27 #[.int .i64 0, .int .i64 0, .int .i64 0, .int .i64 0, .int .i64 0, .int .i64 0, .int .i64 0, .slice none 0 0]) := Lib.hid (Z3.out.like (Below.heap_setCell w3 ⟨w.heap.size + 1, 4, none⟩ _ _ (by simp only; omega)))
        have B4 := Lib.hid (B3.out.setCell (p := ⟨w.heap.size + 1, 4, none⟩) (Nat.le_add_right _ _) (.int .i64 gr))
        have X4 := Lib.hid (X3.out.like (Below.heap_setCell w3 ⟨w.heap.size + 1, 4, none⟩ (.int .i64 gr) _ (by simp only; omega)))
        clear X3
        clear f4 y4 Y3 Z3 B3
        generalize w3.setCell ⟨w.heap.size + 1, 4, none⟩ (.int .i64 gr) = w4 at *
        have x0 : w4.cell? ⟨w.heap.size, 0, none⟩ = some (.int .i64 a) := X4.out.cell 0
        have x1 : w4.cell? ⟨w.heap.size, 1, none⟩ = some (.int .i64 b) := X4.out.cell 1
        have x2 : w4.cell? ⟨w.heap.size, 2, none⟩ = some (.int .i64 c) := X4.out.cell 2
        have y0 : w4.cell? ⟨w.heap.size + 1, 0, none⟩ = some (.int .i64 i1) := Y4.out.cell 0
        have y1 : w4.cell? ⟨w.heap.size + 1, 1, none⟩ = some (.int .i64 i2) := Y4.out.cell 1
        have y2 : w4.cell? ⟨w.heap.size + 1, 2, none⟩ = some (.int .i64 i3) := Y4.out.cell 2
        have y3 : w4.cell? ⟨w.heap.size + 1, 3, none⟩ = some (.int .i64 i4) := Y4.out.cell 3
        have y4 : w4.cell? ⟨w.heap.size + 1, 4, none⟩ = some (.int .i64 gr) := Y4.out.cell 4
        have y5 : w4.cell? ⟨w.heap.size + 1, 5, none⟩ = some (.int .i64 i6) := Y4.out.cell 5
        have y6 : w4.cell? ⟨w.heap.size + 1, 6, none⟩ = some (.int .i64 af) := Y4.out.cell 6
        have y7 : w4.cell? ⟨w.heap.size + 1, 7, none⟩ = some (.slice q n d) := Y4.out.cell 7
        go_wp2_with fail
        refine (CO.out _).mono ?_
        rintro e w5 ⟨rfl, hb⟩
        have B5 := Lib.hid (B4.out.trans (hb.mono B4.out.size))
        have Y5 := Lib.hid (Y4.out.below hb Y4.out.lt)
        have Z5 := Lib.hid (Z4.out.below hb Z4.out.lt)
        clear hb x0 x1 x2 y0 y1 y2 y3 y4 y5 y6 y7 CO X4 Y4 Z4 B4
        have y0 : w5.cell? ⟨w.heap.size + 1, 0, none⟩ = some (.int .i64 i1) := Y5.out.cell 0
        have y1 : w5.cell? ⟨w.heap.size + 1, 1, none⟩ = some (.int .i64 i2) := Y5.out.cell 1
        have y2 : w5.cell? ⟨w.heap.size + 1, 2, none⟩ = some (.int .i64 i3) := Y5.out.cell 2
        have y3 : w5.cell? ⟨w.heap.size + 1, 3, none⟩ = some (.int .i64 i4) := Y5.out.cell 3
        have y4 : w5.cell? ⟨w.heap.size + 1, 4, none⟩ = some (.int .i64 gr) := Y5.out.cell 4
        have y5 : w5.cell? ⟨w.heap.size + 1, 5, none⟩ = some (.int .i64 i6) := Y5.out.cell 5
        have y6 : w5.cell? ⟨w.heap.size + 1, 6, none⟩ = some (.int .i64 af) := Y5.out.cell 6
        have y7 : w5.cell? ⟨w.heap.size + 1, 7, none⟩ = some (.slice q n d) := Y5.out.cell 7
        have r0 : w5.cell? ⟨w.heap.size + 2, 0, none⟩ = some (.int .i64 0) := Z5.out.cell 0
        have r1 : w5.cell? ⟨w.heap.size + 2, 1, none⟩ = some (.int .i64 0) := Z5.out.cell 1
        have r2 : w5.cell? ⟨w.heap.size + 2, 2, none⟩ = some (.int .i64 0) := Z5.out.cell 2
        have r3 : w5.cell? ⟨w.heap.size + 2, 3, none⟩ = some (.int .i64 0) := Z5.out.cell 3
        have r4 : w5.cell? ⟨w.heap.size + 2, 4, none⟩ = some (.int .i64 0) := Z5.out.cell 4
        have r5 : w5.cell? ⟨w.heap.size + 2, 5, none⟩ = some (.int .i64 0) := Z5.out.cell 5
        have r6 : w5.cell? ⟨w.heap.size + 2, 6, none⟩ = some (.int .i64 0) := Z5.out.cell 6
        have r7 : w5.cell? ⟨w.heap.size + 2, 7, none⟩ = some (.slice none 0 0) := Z5.out.cell 7
        have g0 := Z5.out.frozen 0
        have g1 := Z5.out.frozen 1
        have g2 := Z5.out.frozen 2
        have g3 := Z5.out.frozen 3
        have g4 := Z5.out.frozen 4
        have g5 := Z5.out.frozen 5
        have g6 := Z5.out.frozen 6
        have g7 := Z5.out.frozen 7
        go_wp2
        refine bodyPost_ret (v := .tuple #[.agg #[.int .i64 i1, .int .i64 i2, .int .i64 i3, .int .i64 i4, .int .i64 gr, .int .i64 i6, .int .i64 af, .slice q n d], .int .i64 0]) (by simp [results, Tryd.results11, go_sem, r0, r1, r2, r3, r4, r5, r6, r7]) rfl ⟨rfl, ?_⟩
        iterate 8 refine Below.setCell ?_ (by simp only; omega) _
        exact B5.out
end Kp
end Go.Proofs.YtgmjmkkhoibbcaaDoor
