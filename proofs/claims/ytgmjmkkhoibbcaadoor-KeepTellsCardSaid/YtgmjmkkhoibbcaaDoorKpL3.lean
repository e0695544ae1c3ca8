/- The walk over the law that package keep never lets out what is over. Conditions: the contracts of package keep; the lot's stays read as such. -/
import Derived.Test.YtgmjmkkhoibbcaaDoorKpL1
import Derived.Test.YtgmjmkkhoibbcaaDoorKp1
import Derived.Deep.CutRange
namespace Go.Proofs.YtgmjmkkhoibbcaaDoor
open Go.RowKit Lo

namespace Kp
theorem run_mx (ts : Array TypeId) (t : TypeId) (a b : Int) (w : World) : (Builtin.max_ ts t #[.int .i64 a, .int .i64 b]).run Tryd.prog w = .ok (.int .i64 (max a b)) w := by
  have e : (if b > a then b else a) = max a b := by omega
  rw [run_max_int2, e]
set_option maxRecDepth 100000 in
set_option maxHeartbeats 32000000 in
theorem knever_long (I : Face) (p : Ms.Pd) (y : Lv) (x t1 t2 t3 : Int) (w : World) (hR : I.R w) (hn : 60 < y.n) : Calls Tryd.prog 4 #[Ms.pval p, lval y, .agg #[.int .i64 x, .int .i64 t1, .int .i64 t2, .int .i64 t3]] w fun e w' => e = .returned (.bool true) ∧ Below w.heap.size w w' := by
  have AL := Lib.hid (fun W (hW : Below w.heap.size w W) => kalive_any I W (I.on hR hW))
  obtain ⟨a, b, c⟩ := p
  obtain ⟨⟨j1, j2, j3, j4, j5, j6, j7, jS⟩, jq, jN, jd⟩ := y
  simp only [Ms.pval, lval] at hn ⊢
  have hn1 : decide (((jN : Nat) : Int) > 60) = true := by simp; omega
  clear hR hn
  obtain ⟨w0, h0, B0, X0, Y0, T0⟩ := boxes3 w #[.int .i64 a, .int .i64 b, .int .i64 c] #[.int .i64 j1, .int .i64 j2, .int .i64 j3, .int .i64 j4, .int .i64 j5, .int .i64 j6, .int .i64 j7, .slice jq jN jd] #[.int .i64 x, .int .i64 t1, .int .i64 t2, .int .i64 t3] 23 27 41
  rw [← h0] at B0 X0 Y0 T0
  clear h0
  have y7_ : (((w.alloc (.cells #[.int .i64 a, .int .i64 b, .int .i64 c] 23)).alloc (.cells #[.int .i64 j1, .int .i64 j2, .int .i64 j3, .int .i64 j4, .int .i64 j5, .int .i64 j6, .int .i64 j7, .slice jq jN jd] 27)).alloc (.cells #[.int .i64 x, .int .i64 t1, .int .i64 t2, .int .i64 t3] 41)).cell? ⟨w.heap.size + 1, 7, none⟩ = some (.slice jq jN jd) := Y0.out.cell 7
  go_enter Tryd.func4, Tryd.ntmps4
  go_wp2_with fail
  refine (AL.out _ B0.out).mono ?_
  rintro e w1 ⟨rfl, hb⟩
  have B1 := Lib.hid (B0.out.trans (hb.mono B0.out.size))
  have X1 := Lib.hid (X0.out.below hb X0.out.lt)
  have Y1 := Lib.hid (Y0.out.below hb Y0.out.lt)
  have T1 := Lib.hid (T0.out.below hb T0.out.lt)
  clear hb  y7_ X0 Y0 T0 B0
  go_wp2
  go_ret
  exact ⟨rfl, B1.out⟩
set_option maxRecDepth 100000 in
set_option maxHeartbeats 32000000 in
theorem knever_short (I : Face) (p : Ms.Pd) (y : Lv) (x t1 t2 t3 : Int) (w : World) (hR : I.R w) (hS : St w y) (hn : y.n ≤ 60) : Calls Tryd.prog 4 #[Ms.pval p, lval y, .agg #[.int .i64 x, .int .i64 t1, .int .i64 t2, .int .i64 t3]] w fun e w' => e = .returned (.bool true) ∧ Below w.heap.size w w' := by
  obtain ⟨mo, hmo⟩ : ∃ mo, max x t3 = mo := ⟨_, rfl⟩
  have hle : x ≤ mo := by omega
  have hn6 : y.n ≤ 1000000 := by omega
  have AL := Lib.hid (fun W (hW : Below w.heap.size w W) => kalive_any I W (I.on hR hW))
  have C0 := Lib.hid (fun W (hW : Below w.heap.size w W) => I.judge p y x W (I.on hR hW) (hS.keep hW) hn6)
  have C1 := Lib.hid (fun W (hW : Below w.heap.size w W) => I.rel p y x W (I.on hR hW) (hS.keep hW) hn6)
  have C2 := Lib.hid (fun W (hW : Below w.heap.size w W) => I.rev p y x t1 W (I.on hR hW) (hS.keep hW) hn6)
  have D0 := Lib.hid (fun q d W (hW : Below w.heap.size w W) => I.allow p (re (judgeL p y x).1 q d) W (I.on hR hW))
  have D1 := Lib.hid (fun q d W (hW : Below w.heap.size w W) => I.allow p (re (relL p y x).1 q d) W (I.on hR hW))
  have D2 := Lib.hid (fun q d W (hW : Below w.heap.size w W) => I.allow p (re (revL p y x t1).1 q d) W (I.on hR hW))
  have rx : ∀ (y : Lv) q d, (re y q d).x = y.x := fun _ _ _ => rfl
  simp only [rx] at D0 D1 D2
  clear rx
  have D3 := Lib.hid (fun W (hW : Below w.heap.size w W) => I.allow p y W (I.on hR hW))
  have CM := Lib.hid (fun W (hW : Below w.heap.size w W) => I.may p y x t2 W (I.on hR hW))
  have E0 := Lib.hid (fun W (hW : Below w.heap.size w W) => I.rel p y mo W (I.on hR hW) (hS.keep hW) hn6)
  have E1 := Lib.hid (fun W (hW : Below w.heap.size w W) => I.rev p y mo t1 W (I.on hR hW) (hS.keep hW) hn6)
  have E2 := Lib.hid (fun W (hW : Below w.heap.size w W) => I.rev p y x 4611686018427387904 W (I.on hR hW) (hS.keep hW) hn6)
  have E3 := Lib.hid (fun W (hW : Below w.heap.size w W) => I.may p y mo t2 W (I.on hR hW))
  have F0 := Lib.hid (judge_never (p := p) (y := y) (e := x))
  have F1 := Lib.hid (judge_held (p := p) (y := y) (e := x))
  have F2 := Lib.hid (rel_told (p := p) (y := y) (e := x))
  have F3 := Lib.hid (rev_told (p := p) (y := y) (e := x) (g := t1))
  have F4 := Lib.hid (fun h => congrArg Lv.x (rel_empty (p := p) (y := y) (e := x) h))
  have F5 := Lib.hid (fun h => congrArg Lv.x (rev_empty (p := p) (y := y) (e := x) (g := t1) h))
  have F6 := Lib.hid ((may_ok (p := p) (x := y.x) (e := x) (now := t2)).1)
  have G0 := Lib.hid (rel_more (p := p) (y := y) hle)
  have G1 := Lib.hid (rev_more (p := p) (y := y) (g := t1) hle)
  have G2 := Lib.hid (rev_most (p := p) (y := y) (e := x) (g := t1))
  have G3 := Lib.hid (may_more (p := p) (x := y.x) (now := t2) hle)
  have MX := fun (ts : Array TypeId) (ty : TypeId) W => run_mx ts ty x t3 W
  rw [hmo] at MX
  clear hR hle hmo hS hn6
  generalize hL0 : (judgeL p y x).1 = L0 at *
  generalize (judgeL p y x).2 = he at *
  generalize hL1 : (relL p y x).1 = L1 at *
  generalize (relL p y x).2 = er at *
  generalize hL2 : (revL p y x t1).1 = L2 at *
  generalize (revL p y x t1).2 = ev at *
  clear hL0 hL1 hL2
  generalize mayL p y.x x t2 = ml at *
  generalize (relL p y mo).1 = L3 at *
  generalize (relL p y mo).2 = wr at *
  generalize (revL p y mo t1).1 = L4 at *
  generalize (revL p y mo t1).2 = ls at *
  generalize (revL p y x 4611686018427387904).1 = L5 at *
  generalize (revL p y x 4611686018427387904).2 = bt at *
  generalize mayL p y.x mo t2 = st at *
  generalize allow p L0.x = al0 at *
  generalize allow p L1.x = al1 at *
  generalize allow p L2.x = al2 at *
  generalize allow p y.x = al3 at *
  obtain ⟨a, b, c⟩ := p
  obtain ⟨⟨j1, j2, j3, j4, j5, j6, j7, jS⟩, jq, jN, jd⟩ := y
  obtain ⟨⟨l1, l2, l3, l4, l5, l6, l7, lS⟩, lq, lN, ld⟩ := L0
  obtain ⟨⟨m1, m2, m3, m4, m5, m6, m7, mS⟩, mq, mN, md⟩ := L1
  obtain ⟨⟨o1, o2, o3, o4, o5, o6, o7, oS⟩, oq, oN, od⟩ := L2
  obtain ⟨⟨r1, r2, r3, r4, r5, r6, r7, rS⟩, rq, rN, rd⟩ := L3
  obtain ⟨⟨u1, u2, u3, u4, u5, u6, u7, uS⟩, uq, uN, ud⟩ := L4
  obtain ⟨⟨v1, v2, v3, v4, v5, v6, v7, vS⟩, vq, vN, vd⟩ := L5
  simp only [Ms.pval, lval, re, lv0, lt0, Lt.mk.injEq] at C0 C1 C2 D0 D1 D2 D3 CM E0 E1 E2 E3 F0 F1 F2 F3 F4 F5 F6 hn ⊢
  have hn1 : decide (((jN : Nat) : Int) > 60) = false := by simp; omega
  clear hn
  obtain ⟨w0, h0, B0, X0, Y0, T0⟩ := boxes3 w #[.int .i64 a, .int .i64 b, .int .i64 c] #[.int .i64 j1, .int .i64 j2, .int .i64 j3, .int .i64 j4, .int .i64 j5, .int .i64 j6, .int .i64 j7, .slice jq jN jd] #[.int .i64 x, .int .i64 t1, .int .i64 t2, .int .i64 t3] 23 27 41
  rw [← h0] at B0 X0 Y0 T0
  clear h0
  have x0_ : (((w.alloc (.cells #[.int .i64 a, .int .i64 b, .int .i64 c] 23)).alloc (.cells #[.int .i64 j1, .int .i64 j2, .int .i64 j3, .int .i64 j4, .int .i64 j5, .int .i64 j6, .int .i64 j7, .slice jq jN jd] 27)).alloc (.cells #[.int .i64 x, .int .i64 t1, .int .i64 t2, .int .i64 t3] 41)).cell? ⟨w.heap.size, 0, none⟩ = some (.int .i64 a) := X0.out.cell 0
  have x1_ : (((w.alloc (.cells #[.int .i64 a, .int .i64 b, .int .i64 c] 23)).alloc (.cells #[.int .i64 j1, .int .i64 j2, .int .i64 j3, .int .i64 j4, .int .i64 j5, .int .i64 j6, .int .i64 j7, .slice jq jN jd] 27)).alloc (.cells #[.int .i64 x, .int .i64 t1, .int .i64 t2, .int .i64 t3] 41)).cell? ⟨w.heap.size, 1, none⟩ = some (.int .i64 b) := X0.out.cell 1
  have x2_ : (((w.alloc (.cells #[.int .i64 a, .int .i64 b, .int .i64 c] 23)).alloc (.cells #[.int .i64 j1, .int .i64 j2, .int .i64 j3, .int .i64 j4, .int .i64 j5, .int .i64 j6, .int .i64 j7, .slice jq jN jd] 27)).alloc (.cells #[.int .i64 x, .int .i64 t1, .int .i64 t2, .int .i64 t3] 41)).cell? ⟨w.heap.size, 2, none⟩ = some (.int .i64 c) := X0.out.cell 2
  have y0_ : (((w.alloc (.cells #[.int .i64 a, .int .i64 b, .int .i64 c] 23)).alloc (.cells #[.int .i64 j1, .int .i64 j2, .int .i64 j3, .int .i64 j4, .int .i64 j5, .int .i64 j6, .int .i64 j7, .slice jq jN jd] 27)).alloc (.cells #[.int .i64 x, .int .i64 t1, .int .i64 t2, .int .i64 t3] 41)).cell? ⟨w.heap.size + 1, 0, none⟩ = some (.int .i64 j1) := Y0.out.cell 0
  have y1_ : (((w.alloc (.cells #[.int .i64 a, .int .i64 b, .int .i64 c] 23)).alloc (.cells #[.int .i64 j1, .int .i64 j2, .int .i64 j3, .int .i64 j4, .int .i64 j5, .int .i64 j6, .int .i64 j7, .slice jq jN jd] 27)).alloc (.cells #[.int .i64 x, .int .i64 t1, .int .i64 t2, .int .i64 t3] 41)).cell? ⟨w.heap.size + 1, 1, none⟩ = some (.int .i64 j2) := Y0.out.cell 1
  have y2_ : (((w.alloc (.cells #[.int .i64 a, .int .i64 b, .int .i64 c] 23)).alloc (.cells #[.int .i64 j1, .int .i64 j2, .int .i64 j3, .int .i64 j4, .int .i64 j5, .int .i64 j6, .int .i64 j7, .slice jq jN jd] 27)).alloc (.cells #[.int .i64 x, .int .i64 t1, .int .i64 t2, .int .i64 t3] 41)).cell? ⟨w.heap.size + 1, 2, none⟩ = some (.int .i64 j3) := Y0.out.cell 2
  have y3_ : (((w.alloc (.cells #[.int .i64 a, .int .i64 b, .int .i64 c] 23)).alloc (.cells #[.int .i64 j1, .int .i64 j2, .int .i64 j3, .int .i64 j4, .int .i64 j5, .int .i64 j6, .int .i64 j7, .slice jq jN jd] 27)).alloc (.cells #[.int .i64 x, .int .i64 t1, .int .i64 t2, .int .i64 t3] 41)).cell? ⟨w.heap.size + 1, 3, none⟩ = some (.int .i64 j4) := Y0.out.cell 3
  have y4_ : (((w.alloc (.cells #[.int .i64 a, .int .i64 b, .int .i64 c] 23)).alloc (.cells #[.int .i64 j1, .int .i64 j2, .int .i64 j3, .int .i64 j4, .int .i64 j5, .int .i64 j6, .int .i64 j7, .slice jq jN jd] 27)).alloc (.cells #[.int .i64 x, .int .i64 t1, .int .i64 t2, .int .i64 t3] 41)).cell? ⟨w.heap.size + 1, 4, none⟩ = some (.int .i64 j5) := Y0.out.cell 4
  have y5_ : (((w.alloc (.cells #[.int .i64 a, .int .i64 b, .int .i64 c] 23)).alloc (.cells #[.int .i64 j1, .int .i64 j2, .int .i64 j3, .int .i64 j4, .int .i64 j5, .int .i64 j6, .int .i64 j7, .slice jq jN jd] 27)).alloc (.cells #[.int .i64 x, .int .i64 t1, .int .i64 t2, .int .i64 t3] 41)).cell? ⟨w.heap.size + 1, 5, none⟩ = some (.int .i64 j6) := Y0.out.cell 5
  have y6_ : (((w.alloc (.cells #[.int .i64 a, .int .i64 b, .int .i64 c] 23)).alloc (.cells #[.int .i64 j1, .int .i64 j2, .int .i64 j3, .int .i64 j4, .int .i64 j5, .int .i64 j6, .int .i64 j7, .slice jq jN jd] 27)).alloc (.cells #[.int .i64 x, .int .i64 t1, .int .i64 t2, .int .i64 t3] 41)).cell? ⟨w.heap.size + 1, 6, none⟩ = some (.int .i64 j7) := Y0.out.cell 6
  have y7_ : (((w.alloc (.cells #[.int .i64 a, .int .i64 b, .int .i64 c] 23)).alloc (.cells #[.int .i64 j1, .int .i64 j2, .int .i64 j3, .int .i64 j4, .int .i64 j5, .int .i64 j6, .int .i64 j7, .slice jq jN jd] 27)).alloc (.cells #[.int .i64 x, .int .i64 t1, .int .i64 t2, .int .i64 t3] 41)).cell? ⟨w.heap.size + 1, 7, none⟩ = some (.slice jq jN jd) := Y0.out.cell 7
  have t0_ : (((w.alloc (.cells #[.int .i64 a, .int .i64 b, .int .i64 c] 23)).alloc (.cells #[.int .i64 j1, .int .i64 j2, .int .i64 j3, .int .i64 j4, .int .i64 j5, .int .i64 j6, .int .i64 j7, .slice jq jN jd] 27)).alloc (.cells #[.int .i64 x, .int .i64 t1, .int .i64 t2, .int .i64 t3] 41)).cell? ⟨w.heap.size + 2, 0, none⟩ = some (.int .i64 x) := T0.out.cell 0
  have t1_ : (((w.alloc (.cells #[.int .i64 a, .int .i64 b, .int .i64 c] 23)).alloc (.cells #[.int .i64 j1, .int .i64 j2, .int .i64 j3, .int .i64 j4, .int .i64 j5, .int .i64 j6, .int .i64 j7, .slice jq jN jd] 27)).alloc (.cells #[.int .i64 x, .int .i64 t1, .int .i64 t2, .int .i64 t3] 41)).cell? ⟨w.heap.size + 2, 1, none⟩ = some (.int .i64 t1) := T0.out.cell 1
  have t2_ : (((w.alloc (.cells #[.int .i64 a, .int .i64 b, .int .i64 c] 23)).alloc (.cells #[.int .i64 j1, .int .i64 j2, .int .i64 j3, .int .i64 j4, .int .i64 j5, .int .i64 j6, .int .i64 j7, .slice jq jN jd] 27)).alloc (.cells #[.int .i64 x, .int .i64 t1, .int .i64 t2, .int .i64 t3] 41)).cell? ⟨w.heap.size + 2, 2, none⟩ = some (.int .i64 t2) := T0.out.cell 2
  have t3_ : (((w.alloc (.cells #[.int .i64 a, .int .i64 b, .int .i64 c] 23)).alloc (.cells #[.int .i64 j1, .int .i64 j2, .int .i64 j3, .int .i64 j4, .int .i64 j5, .int .i64 j6, .int .i64 j7, .slice jq jN jd] 27)).alloc (.cells #[.int .i64 x, .int .i64 t1, .int .i64 t2, .int .i64 t3] 41)).cell? ⟨w.heap.size + 2, 3, none⟩ = some (.int .i64 t3) := T0.out.cell 3
  go_enter Tryd.func4, Tryd.ntmps4
  go_wp2_with fail
  refine (C0.out _ B0.out).mono ?_
  rintro e w1 ⟨lx, ly, rfl, _, hb⟩
  have B1 := Lib.hid (B0.out.trans (hb.mono B0.out.size))
  have X1 := Lib.hid (X0.out.below hb X0.out.lt)
  have Y1 := Lib.hid (Y0.out.below hb Y0.out.lt)
  have T1 := Lib.hid (T0.out.below hb T0.out.lt)
  clear hb C0 hn1 MX x0_ x1_ x2_ y0_ y1_ y2_ y3_ y4_ y5_ y6_ y7_ t0_ t1_ t2_ t3_ X0 Y0 T0 B0
  have B2 := Lib.hid (B1.out.alloc B1.out.size (.cells #[.int .i64 l1, .int .i64 l2, .int .i64 l3, .int .i64 l4, .int .i64 l5, .int .i64 l6, .int .i64 l7, .slice lx lN ly] 27))
  have X2 := Lib.hid (X1.out.alloc (.cells #[.int .i64 l1, .int .i64 l2, .int .i64 l3, .int .i64 l4, .int .i64 l5, .int .i64 l6, .int .i64 l7, .slice lx lN ly] 27))
  have Y2 := Lib.hid (Y1.out.alloc (.cells #[.int .i64 l1, .int .i64 l2, .int .i64 l3, .int .i64 l4, .int .i64 l5, .int .i64 l6, .int .i64 l7, .slice lx lN ly] 27))
  have T2 := Lib.hid (T1.out.alloc (.cells #[.int .i64 l1, .int .i64 l2, .int .i64 l3, .int .i64 l4, .int .i64 l5, .int .i64 l6, .int .i64 l7, .slice lx lN ly] 27))
  have A2 := Lib.hid (Lies.new w1 27 #[.int .i64 l1, .int .i64 l2, .int .i64 l3, .int .i64 l4, .int .i64 l5, .int .i64 l6, .int .i64 l7, .slice lx lN ly])
  clear B1 X1 Y1 T1
  have x0_ : (w1.alloc (.cells #[.int .i64 l1, .int .i64 l2, .int .i64 l3, .int .i64 l4, .int .i64 l5, .int .i64 l6, .int .i64 l7, .slice lx lN ly] 27)).cell? ⟨w.heap.size, 0, none⟩ = some (.int .i64 a) := X2.out.cell 0
  have x1_ : (w1.alloc (.cells #[.int .i64 l1, .int .i64 l2, .int .i64 l3, .int .i64 l4, .int .i64 l5, .int .i64 l6, .int .i64 l7, .slice lx lN ly] 27)).cell? ⟨w.heap.size, 1, none⟩ = some (.int .i64 b) := X2.out.cell 1
  have x2_ : (w1.alloc (.cells #[.int .i64 l1, .int .i64 l2, .int .i64 l3, .int .i64 l4, .int .i64 l5, .int .i64 l6, .int .i64 l7, .slice lx lN ly] 27)).cell? ⟨w.heap.size, 2, none⟩ = some (.int .i64 c) := X2.out.cell 2
  have y0_ : (w1.alloc (.cells #[.int .i64 l1, .int .i64 l2, .int .i64 l3, .int .i64 l4, .int .i64 l5, .int .i64 l6, .int .i64 l7, .slice lx lN ly] 27)).cell? ⟨w.heap.size + 1, 0, none⟩ = some (.int .i64 j1) := Y2.out.cell 0
  have y1_ : (w1.alloc (.cells #[.int .i64 l1, .int .i64 l2, .int .i64 l3, .int .i64 l4, .int .i64 l5, .int .i64 l6, .int .i64 l7, .slice lx lN ly] 27)).cell? ⟨w.heap.size + 1, 1, none⟩ = some (.int .i64 j2) := Y2.out.cell 1
  have y2_ : (w1.alloc (.cells #[.int .i64 l1, .int .i64 l2, .int .i64 l3, .int .i64 l4, .int .i64 l5, .int .i64 l6, .int .i64 l7, .slice lx lN ly] 27)).cell? ⟨w.heap.size + 1, 2, none⟩ = some (.int .i64 j3) := Y2.out.cell 2
  have y3_ : (w1.alloc (.cells #[.int .i64 l1, .int .i64 l2, .int .i64 l3, .int .i64 l4, .int .i64 l5, .int .i64 l6, .int .i64 l7, .slice lx lN ly] 27)).cell? ⟨w.heap.size + 1, 3, none⟩ = some (.int .i64 j4) := Y2.out.cell 3
  have y4_ : (w1.alloc (.cells #[.int .i64 l1, .int .i64 l2, .int .i64 l3, .int .i64 l4, .int .i64 l5, .int .i64 l6, .int .i64 l7, .slice lx lN ly] 27)).cell? ⟨w.heap.size + 1, 4, none⟩ = some (.int .i64 j5) := Y2.out.cell 4
  have y5_ : (w1.alloc (.cells #[.int .i64 l1, .int .i64 l2, .int .i64 l3, .int .i64 l4, .int .i64 l5, .int .i64 l6, .int .i64 l7, .slice lx lN ly] 27)).cell? ⟨w.heap.size + 1, 5, none⟩ = some (.int .i64 j6) := Y2.out.cell 5
  have y6_ : (w1.alloc (.cells #[.int .i64 l1, .int .i64 l2, .int .i64 l3, .int .i64 l4, .int .i64 l5, .int .i64 l6, .int .i64 l7, .slice lx lN ly] 27)).cell? ⟨w.heap.size + 1, 6, none⟩ = some (.int .i64 j7) := Y2.out.cell 6
  have y7_ : (w1.alloc (.cells #[.int .i64 l1, .int .i64 l2, .int .i64 l3, .int .i64 l4, .int .i64 l5, .int .i64 l6, .int .i64 l7, .slice lx lN ly] 27)).cell? ⟨w.heap.size + 1, 7, none⟩ = some (.slice jq jN jd) := Y2.out.cell 7
  go_wp2_with fail
  refine (C1.out _ B2.out).mono ?_
  rintro e w3 ⟨mx, my, rfl, _, hb⟩
  have B3 := Lib.hid (B2.out.trans (hb.mono B2.out.size))
  have X3 := Lib.hid (X2.out.below hb X2.out.lt)
  have Y3 := Lib.hid (Y2.out.below hb Y2.out.lt)
  have T3 := Lib.hid (T2.out.below hb T2.out.lt)
  have A3 := Lib.hid (A2.out.below hb A2.out.lt)
  clear hb C1 x0_ x1_ x2_ y0_ y1_ y2_ y3_ y4_ y5_ y6_ y7_ X2 Y2 T2 A2 B2
  have B4 := Lib.hid (B3.out.alloc B3.out.size (.cells #[.int .i64 m1, .int .i64 m2, .int .i64 m3, .int .i64 m4, .int .i64 m5, .int .i64 m6, .int .i64 m7, .slice mx mN my] 27))
  have X4 := Lib.hid (X3.out.alloc (.cells #[.int .i64 m1, .int .i64 m2, .int .i64 m3, .int .i64 m4, .int .i64 m5, .int .i64 m6, .int .i64 m7, .slice mx mN my] 27))
  have Y4 := Lib.hid (Y3.out.alloc (.cells #[.int .i64 m1, .int .i64 m2, .int .i64 m3, .int .i64 m4, .int .i64 m5, .int .i64 m6, .int .i64 m7, .slice mx mN my] 27))
  have T4 := Lib.hid (T3.out.alloc (.cells #[.int .i64 m1, .int .i64 m2, .int .i64 m3, .int .i64 m4, .int .i64 m5, .int .i64 m6, .int .i64 m7, .slice mx mN my] 27))
  have A4 := Lib.hid (A3.out.alloc (.cells #[.int .i64 m1, .int .i64 m2, .int .i64 m3, .int .i64 m4, .int .i64 m5, .int .i64 m6, .int .i64 m7, .slice mx mN my] 27))
  have C4 := Lib.hid (Lies.new w3 27 #[.int .i64 m1, .int .i64 m2, .int .i64 m3, .int .i64 m4, .int .i64 m5, .int .i64 m6, .int .i64 m7, .slice mx mN my])
  clear B3 X3 Y3 T3 A3
  have x0_ : (w3.alloc (.cells #[.int .i64 m1, .int .i64 m2, .int .i64 m3, .int .i64 m4, .int .i64 m5, .int .i64 m6, .int .i64 m7, .slice mx mN my] 27)).cell? ⟨w.heap.size, 0, none⟩ = some (.int .i64 a) := X4.out.cell 0
  have x1_ : (w3.alloc (.cells #[.int .i64 m1, .int .i64 m2, .int .i64 m3, .int .i64 m4, .int .i64 m5, .int .i64 m6, .int .i64 m7, .slice mx mN my] 27)).cell? ⟨w.heap.size, 1, none⟩ = some (.int .i64 b) := X4.out.cell 1
  have x2_ : (w3.alloc (.cells #[.int .i64 m1, .int .i64 m2, .int .i64 m3, .int .i64 m4, .int .i64 m5, .int .i64 m6, .int .i64 m7, .slice mx mN my] 27)).cell? ⟨w.heap.size, 2, none⟩ = some (.int .i64 c) := X4.out.cell 2
  have y0_ : (w3.alloc (.cells #[.int .i64 m1, .int .i64 m2, .int .i64 m3, .int .i64 m4, .int .i64 m5, .int .i64 m6, .int .i64 m7, .slice mx mN my] 27)).cell? ⟨w.heap.size + 1, 0, none⟩ = some (.int .i64 j1) := Y4.out.cell 0
  have y1_ : (w3.alloc (.cells #[.int .i64 m1, .int .i64 m2, .int .i64 m3, .int .i64 m4, .int .i64 m5, .int .i64 m6, .int .i64 m7, .slice mx mN my] 27)).cell? ⟨w.heap.size + 1, 1, none⟩ = some (.int .i64 j2) := Y4.out.cell 1
  have y2_ : (w3.alloc (.cells #[.int .i64 m1, .int .i64 m2, .int .i64 m3, .int .i64 m4, .int .i64 m5, .int .i64 m6, .int .i64 m7, .slice mx mN my] 27)).cell? ⟨w.heap.size + 1, 2, none⟩ = some (.int .i64 j3) := Y4.out.cell 2
  have y3_ : (w3.alloc (.cells #[.int .i64 m1, .int .i64 m2, .int .i64 m3, .int .i64 m4, .int .i64 m5, .int .i64 m6, .int .i64 m7, .slice mx mN my] 27)).cell? ⟨w.heap.size + 1, 3, none⟩ = some (.int .i64 j4) := Y4.out.cell 3
  have y4_ : (w3.alloc (.cells #[.int .i64 m1, .int .i64 m2, .int .i64 m3, .int .i64 m4, .int .i64 m5, .int .i64 m6, .int .i64 m7, .slice mx mN my] 27)).cell? ⟨w.heap.size + 1, 4, none⟩ = some (.int .i64 j5) := Y4.out.cell 4
  have y5_ : (w3.alloc (.cells #[.int .i64 m1, .int .i64 m2, .int .i64 m3, .int .i64 m4, .int .i64 m5, .int .i64 m6, .int .i64 m7, .slice mx mN my] 27)).cell? ⟨w.heap.size + 1, 5, none⟩ = some (.int .i64 j6) := Y4.out.cell 5
  have y6_ : (w3.alloc (.cells #[.int .i64 m1, .int .i64 m2, .int .i64 m3, .int .i64 m4, .int .i64 m5, .int .i64 m6, .int .i64 m7, .slice mx mN my] 27)).cell? ⟨w.heap.size + 1, 6, none⟩ = some (.int .i64 j7) := Y4.out.cell 6
  have y7_ : (w3.alloc (.cells #[.int .i64 m1, .int .i64 m2, .int .i64 m3, .int .i64 m4, .int .i64 m5, .int .i64 m6, .int .i64 m7, .slice mx mN my] 27)).cell? ⟨w.heap.size + 1, 7, none⟩ = some (.slice jq jN jd) := Y4.out.cell 7
  go_wp2_with fail
  refine (C2.out _ B4.out).mono ?_
  rintro e w5 ⟨ox, oy, rfl, _, hb⟩
  have B5 := Lib.hid (B4.out.trans (hb.mono B4.out.size))
  have X5 := Lib.hid (X4.out.below hb X4.out.lt)
  have Y5 := Lib.hid (Y4.out.below hb Y4.out.lt)
  have T5 := Lib.hid (T4.out.below hb T4.out.lt)
  have A5 := Lib.hid (A4.out.below hb A4.out.lt)
  have C5 := Lib.hid (C4.out.below hb C4.out.lt)
  clear hb C2 x0_ x1_ x2_ y0_ y1_ y2_ y3_ y4_ y5_ y6_ y7_ X4 Y4 T4 A4 C4 B4
  have B6 := Lib.hid (B5.out.alloc B5.out.size (.cells #[.int .i64 o1, .int .i64 o2, .int .i64 o3, .int .i64 o4, .int .i64 o5, .int .i64 o6, .int .i64 o7, .slice ox oN oy] 27))
  have X6 := Lib.hid (X5.out.alloc (.cells #[.int .i64 o1, .int .i64 o2, .int .i64 o3, .int .i64 o4, .int .i64 o5, .int .i64 o6, .int .i64 o7, .slice ox oN oy] 27))
  have Y6 := Lib.hid (Y5.out.alloc (.cells #[.int .i64 o1, .int .i64 o2, .int .i64 o3, .int .i64 o4, .int .i64 o5, .int .i64 o6, .int .i64 o7, .slice ox oN oy] 27))
  have T6 := Lib.hid (T5.out.alloc (.cells #[.int .i64 o1, .int .i64 o2, .int .i64 o3, .int .i64 o4, .int .i64 o5, .int .i64 o6, .int .i64 o7, .slice ox oN oy] 27))
  have A6 := Lib.hid (A5.out.alloc (.cells #[.int .i64 o1, .int .i64 o2, .int .i64 o3, .int .i64 o4, .int .i64 o5, .int .i64 o6, .int .i64 o7, .slice ox oN oy] 27))
  have C6 := Lib.hid (C5.out.alloc (.cells #[.int .i64 o1, .int .i64 o2, .int .i64 o3, .int .i64 o4, .int .i64 o5, .int .i64 o6, .int .i64 o7, .slice ox oN oy] 27))
  have G6 := Lib.hid (Lies.new w5 27 #[.int .i64 o1, .int .i64 o2, .int .i64 o3, .int .i64 o4, .int .i64 o5, .int .i64 o6, .int .i64 o7, .slice ox oN oy])
  clear B5 X5 Y5 T5 A5 C5
  clear T6
  go_upto_region 10 with fail
  go_cut [103] from 40 to 102 (fun s103 wx => s103 = .bool false ∧ Hid (Below w.heap.size w wx) ∧ Hid (Lies wx (w.heap.size) 23 #[.int .i64 a, .int .i64 b, .int .i64 c]) ∧ Hid (Lies wx (w.heap.size + 1) 27 #[.int .i64 j1, .int .i64 j2, .int .i64 j3, .int .i64 j4, .int .i64 j5, .int .i64 j6, .int .i64 j7, .slice jq jN jd]) ∧ Hid (Lies wx (w1.heap.size) 27 #[.int .i64 l1, .int .i64 l2, .int .i64 l3, .int .i64 l4, .int .i64 l5, .int .i64 l6, .int .i64 l7, .slice lx lN ly]) ∧ Hid (Lies wx (w3.heap.size) 27 #[.int .i64 m1, .int .i64 m2, .int .i64 m3, .int .i64 m4, .int .i64 m5, .int .i64 m6, .int .i64 m7, .slice mx mN my]) ∧ Hid (Lies wx (w5.heap.size) 27 #[.int .i64 o1, .int .i64 o2, .int .i64 o3, .int .i64 o4, .int .i64 o5, .int .i64 o6, .int .i64 o7, .slice ox oN oy]))
  case first =>
    by_cases h0 : l7 = 1
    · have b0 : (l7 == 1) = true := by simp [h0]
      have i0 : x ≤ al0 := F0.out h0
      have i0' : decide (al0 < x) = false := by simp; omega
      clear h0
      have x0_ : (w5.alloc (.cells #[.int .i64 o1, .int .i64 o2, .int .i64 o3, .int .i64 o4, .int .i64 o5, .int .i64 o6, .int .i64 o7, .slice ox oN oy] 27)).cell? ⟨w.heap.size, 0, none⟩ = some (.int .i64 a) := X6.out.cell 0
      have x1_ : (w5.alloc (.cells #[.int .i64 o1, .int .i64 o2, .int .i64 o3, .int .i64 o4, .int .i64 o5, .int .i64 o6, .int .i64 o7, .slice ox oN oy] 27)).cell? ⟨w.heap.size, 1, none⟩ = some (.int .i64 b) := X6.out.cell 1
      have x2_ : (w5.alloc (.cells #[.int .i64 o1, .int .i64 o2, .int .i64 o3, .int .i64 o4, .int .i64 o5, .int .i64 o6, .int .i64 o7, .slice ox oN oy] 27)).cell? ⟨w.heap.size, 2, none⟩ = some (.int .i64 c) := X6.out.cell 2
      have a0_ : (w5.alloc (.cells #[.int .i64 o1, .int .i64 o2, .int .i64 o3, .int .i64 o4, .int .i64 o5, .int .i64 o6, .int .i64 o7, .slice ox oN oy] 27)).cell? ⟨w1.heap.size, 0, none⟩ = some (.int .i64 l1) := A6.out.cell 0
      have a1_ : (w5.alloc (.cells #[.int .i64 o1, .int .i64 o2, .int .i64 o3, .int .i64 o4, .int .i64 o5, .int .i64 o6, .int .i64 o7, .slice ox oN oy] 27)).cell? ⟨w1.heap.size, 1, none⟩ = some (.int .i64 l2) := A6.out.cell 1
      have a2_ : (w5.alloc (.cells #[.int .i64 o1, .int .i64 o2, .int .i64 o3, .int .i64 o4, .int .i64 o5, .int .i64 o6, .int .i64 o7, .slice ox oN oy] 27)).cell? ⟨w1.heap.size, 2, none⟩ = some (.int .i64 l3) := A6.out.cell 2
      have a3_ : (w5.alloc (.cells #[.int .i64 o1, .int .i64 o2, .int .i64 o3, .int .i64 o4, .int .i64 o5, .int .i64 o6, .int .i64 o7, .slice ox oN oy] 27)).cell? ⟨w1.heap.size, 3, none⟩ = some (.int .i64 l4) := A6.out.cell 3
      have a4_ : (w5.alloc (.cells #[.int .i64 o1, .int .i64 o2, .int .i64 o3, .int .i64 o4, .int .i64 o5, .int .i64 o6, .int .i64 o7, .slice ox oN oy] 27)).cell? ⟨w1.heap.size, 4, none⟩ = some (.int .i64 l5) := A6.out.cell 4
      have a5_ : (w5.alloc (.cells #[.int .i64 o1, .int .i64 o2, .int .i64 o3, .int .i64 o4, .int .i64 o5, .int .i64 o6, .int .i64 o7, .slice ox oN oy] 27)).cell? ⟨w1.heap.size, 5, none⟩ = some (.int .i64 l6) := A6.out.cell 5
      have a6_ : (w5.alloc (.cells #[.int .i64 o1, .int .i64 o2, .int .i64 o3, .int .i64 o4, .int .i64 o5, .int .i64 o6, .int .i64 o7, .slice ox oN oy] 27)).cell? ⟨w1.heap.size, 6, none⟩ = some (.int .i64 l7) := A6.out.cell 6
      have a7_ : (w5.alloc (.cells #[.int .i64 o1, .int .i64 o2, .int .i64 o3, .int .i64 o4, .int .i64 o5, .int .i64 o6, .int .i64 o7, .slice ox oN oy] 27)).cell? ⟨w1.heap.size, 7, none⟩ = some (.slice lx lN ly) := A6.out.cell 7
      have c6_ : (w5.alloc (.cells #[.int .i64 o1, .int .i64 o2, .int .i64 o3, .int .i64 o4, .int .i64 o5, .int .i64 o6, .int .i64 o7, .slice ox oN oy] 27)).cell? ⟨w3.heap.size, 6, none⟩ = some (.int .i64 m7) := C6.out.cell 6
      have g6_ : (w5.alloc (.cells #[.int .i64 o1, .int .i64 o2, .int .i64 o3, .int .i64 o4, .int .i64 o5, .int .i64 o6, .int .i64 o7, .slice ox oN oy] 27)).cell? ⟨w5.heap.size, 6, none⟩ = some (.int .i64 o7) := G6.out.cell 6
      go_wp2_with fail
      refine (D0.out lx ly _ B6.out).mono ?_
      rintro e w7 ⟨rfl, hb⟩
      have B7 := Lib.hid (B6.out.trans (hb.mono B6.out.size))
      have X7 := Lib.hid (X6.out.below hb X6.out.lt)
      have Y7 := Lib.hid (Y6.out.below hb Y6.out.lt)
      have A7 := Lib.hid (A6.out.below hb A6.out.lt)
      have C7 := Lib.hid (C6.out.below hb C6.out.lt)
      have G7 := Lib.hid (G6.out.below hb G6.out.lt)
      clear hb D0 x0_ x1_ x2_ a0_ a1_ a2_ a3_ a4_ a5_ a6_ a7_ c6_ g6_ X6 Y6 A6 C6 G6 B6
      by_cases h1 : er = 0
      · obtain ⟨g1, i1⟩ := F2.out h1
        have b1 : (er == 0) = true := by simp [h1]
        have c1 : (m7 != 1) = false := by simp [g1]
        have i1' : decide (al1 < x) = false := by simp; omega
        clear h1 g1
        have x0_ : w7.cell? ⟨w.heap.size, 0, none⟩ = some (.int .i64 a) := X7.out.cell 0
        have x1_ : w7.cell? ⟨w.heap.size, 1, none⟩ = some (.int .i64 b) := X7.out.cell 1
        have x2_ : w7.cell? ⟨w.heap.size, 2, none⟩ = some (.int .i64 c) := X7.out.cell 2
        have c0_ : w7.cell? ⟨w3.heap.size, 0, none⟩ = some (.int .i64 m1) := C7.out.cell 0
        have c1_ : w7.cell? ⟨w3.heap.size, 1, none⟩ = some (.int .i64 m2) := C7.out.cell 1
        have c2_ : w7.cell? ⟨w3.heap.size, 2, none⟩ = some (.int .i64 m3) := C7.out.cell 2
        have c3_ : w7.cell? ⟨w3.heap.size, 3, none⟩ = some (.int .i64 m4) := C7.out.cell 3
        have c4_ : w7.cell? ⟨w3.heap.size, 4, none⟩ = some (.int .i64 m5) := C7.out.cell 4
        have c5_ : w7.cell? ⟨w3.heap.size, 5, none⟩ = some (.int .i64 m6) := C7.out.cell 5
        have c6_ : w7.cell? ⟨w3.heap.size, 6, none⟩ = some (.int .i64 m7) := C7.out.cell 6
        have c7_ : w7.cell? ⟨w3.heap.size, 7, none⟩ = some (.slice mx mN my) := C7.out.cell 7
        have a6_ : w7.cell? ⟨w1.heap.size, 6, none⟩ = some (.int .i64 l7) := A7.out.cell 6
        have g6_ : w7.cell? ⟨w5.heap.size, 6, none⟩ = some (.int .i64 o7) := G7.out.cell 6
        go_wp2_with fail
        refine (D1.out mx my _ B7.out).mono ?_
        rintro e w8 ⟨rfl, hb⟩
        have B8 := Lib.hid (B7.out.trans (hb.mono B7.out.size))
        have X8 := Lib.hid (X7.out.below hb X7.out.lt)
        have Y8 := Lib.hid (Y7.out.below hb Y7.out.lt)
        have A8 := Lib.hid (A7.out.below hb A7.out.lt)
        have C8 := Lib.hid (C7.out.below hb C7.out.lt)
        have G8 := Lib.hid (G7.out.below hb G7.out.lt)
        clear hb D1 x0_ x1_ x2_ c0_ c1_ c2_ c3_ c4_ c5_ c6_ c7_ a6_ g6_ X7 Y7 A7 C7 G7 B7
        by_cases h2 : ev = 0
        · obtain ⟨g2, i2⟩ := F3.out h2
          have b2 : (ev == 0) = true := by simp [h2]
          have c2 : (o7 != 1) = false := by simp [g2]
          have i2' : decide (al2 < x) = false := by simp; omega
          clear h2 g2
          have x0_ : w8.cell? ⟨w.heap.size, 0, none⟩ = some (.int .i64 a) := X8.out.cell 0
          have x1_ : w8.cell? ⟨w.heap.size, 1, none⟩ = some (.int .i64 b) := X8.out.cell 1
          have x2_ : w8.cell? ⟨w.heap.size, 2, none⟩ = some (.int .i64 c) := X8.out.cell 2
          have g0_ : w8.cell? ⟨w5.heap.size, 0, none⟩ = some (.int .i64 o1) := G8.out.cell 0
          have g1_ : w8.cell? ⟨w5.heap.size, 1, none⟩ = some (.int .i64 o2) := G8.out.cell 1
          have g2_ : w8.cell? ⟨w5.heap.size, 2, none⟩ = some (.int .i64 o3) := G8.out.cell 2
          have g3_ : w8.cell? ⟨w5.heap.size, 3, none⟩ = some (.int .i64 o4) := G8.out.cell 3
          have g4_ : w8.cell? ⟨w5.heap.size, 4, none⟩ = some (.int .i64 o5) := G8.out.cell 4
          have g5_ : w8.cell? ⟨w5.heap.size, 5, none⟩ = some (.int .i64 o6) := G8.out.cell 5
          have g6_ : w8.cell? ⟨w5.heap.size, 6, none⟩ = some (.int .i64 o7) := G8.out.cell 6
          have g7_ : w8.cell? ⟨w5.heap.size, 7, none⟩ = some (.slice ox oN oy) := G8.out.cell 7
          have a6_ : w8.cell? ⟨w1.heap.size, 6, none⟩ = some (.int .i64 l7) := A8.out.cell 6
          have c6_ : w8.cell? ⟨w3.heap.size, 6, none⟩ = some (.int .i64 m7) := C8.out.cell 6
          go_wp2_with fail
          refine (D2.out ox oy _ B8.out).mono ?_
          rintro e w9 ⟨rfl, hb⟩
          have B9 := Lib.hid (B8.out.trans (hb.mono B8.out.size))
          have X9 := Lib.hid (X8.out.below hb X8.out.lt)
          have Y9 := Lib.hid (Y8.out.below hb Y8.out.lt)
          have A9 := Lib.hid (A8.out.below hb A8.out.lt)
          have C9 := Lib.hid (C8.out.below hb C8.out.lt)
          have G9 := Lib.hid (G8.out.below hb G8.out.lt)
          clear hb D2 x0_ x1_ x2_ g0_ g1_ g2_ g3_ g4_ g5_ g6_ g7_ a6_ c6_ X8 Y8 A8 C8 G8 B8
          have a6_ : w9.cell? ⟨w1.heap.size, 6, none⟩ = some (.int .i64 l7) := A9.out.cell 6
          have c6_ : w9.cell? ⟨w3.heap.size, 6, none⟩ = some (.int .i64 m7) := C9.out.cell 6
          have g6_ : w9.cell? ⟨w5.heap.size, 6, none⟩ = some (.int .i64 o7) := G9.out.cell 6
          go_wp2_with fail
          go_meet
          exact ⟨rfl, B9, X9, Y9, A9, C9, G9⟩
        · have b2 : (ev == 0) = false := by simp [h2]
          clear h2
          have a6_ : w8.cell? ⟨w1.heap.size, 6, none⟩ = some (.int .i64 l7) := A8.out.cell 6
          have c6_ : w8.cell? ⟨w3.heap.size, 6, none⟩ = some (.int .i64 m7) := C8.out.cell 6
          have g6_ : w8.cell? ⟨w5.heap.size, 6, none⟩ = some (.int .i64 o7) := G8.out.cell 6
          go_wp2_with fail
          go_meet
          exact ⟨rfl, B8, X8, Y8, A8, C8, G8⟩
      · have b1 : (er == 0) = false := by simp [h1]
        clear h1
        by_cases h2 : ev = 0
        · obtain ⟨g2, i2⟩ := F3.out h2
          have b2 : (ev == 0) = true := by simp [h2]
          have c2 : (o7 != 1) = false := by simp [g2]
          have i2' : decide (al2 < x) = false := by simp; omega
          clear h2 g2
          have x0_ : w7.cell? ⟨w.heap.size, 0, none⟩ = some (.int .i64 a) := X7.out.cell 0
          have x1_ : w7.cell? ⟨w.heap.size, 1, none⟩ = some (.int .i64 b) := X7.out.cell 1
          have x2_ : w7.cell? ⟨w.heap.size, 2, none⟩ = some (.int .i64 c) := X7.out.cell 2
          have g0_ : w7.cell? ⟨w5.heap.size, 0, none⟩ = some (.int .i64 o1) := G7.out.cell 0
          have g1_ : w7.cell? ⟨w5.heap.size, 1, none⟩ = some (.int .i64 o2) := G7.out.cell 1
          have g2_ : w7.cell? ⟨w5.heap.size, 2, none⟩ = some (.int .i64 o3) := G7.out.cell 2
          have g3_ : w7.cell? ⟨w5.heap.size, 3, none⟩ = some (.int .i64 o4) := G7.out.cell 3
          have g4_ : w7.cell? ⟨w5.heap.size, 4, none⟩ = some (.int .i64 o5) := G7.out.cell 4
          have g5_ : w7.cell? ⟨w5.heap.size, 5, none⟩ = some (.int .i64 o6) := G7.out.cell 5
          have g6_ : w7.cell? ⟨w5.heap.size, 6, none⟩ = some (.int .i64 o7) := G7.out.cell 6
          have g7_ : w7.cell? ⟨w5.heap.size, 7, none⟩ = some (.slice ox oN oy) := G7.out.cell 7
          have a6_ : w7.cell? ⟨w1.heap.size, 6, none⟩ = some (.int .i64 l7) := A7.out.cell 6
          have c6_ : w7.cell? ⟨w3.heap.size, 6, none⟩ = some (.int .i64 m7) := C7.out.cell 6
          go_wp2_with fail
          refine (D2.out ox oy _ B7.out).mono ?_
          rintro e w8 ⟨rfl, hb⟩
          have B8 := Lib.hid (B7.out.trans (hb.mono B7.out.size))
          have X8 := Lib.hid (X7.out.below hb X7.out.lt)
          have Y8 := Lib.hid (Y7.out.below hb Y7.out.lt)
          have A8 := Lib.hid (A7.out.below hb A7.out.lt)
          have C8 := Lib.hid (C7.out.below hb C7.out.lt)
          have G8 := Lib.hid (G7.out.below hb G7.out.lt)
          clear hb D2 x0_ x1_ x2_ g0_ g1_ g2_ g3_ g4_ g5_ g6_ g7_ a6_ c6_ X7 Y7 A7 C7 G7 B7
          have a6_ : w8.cell? ⟨w1.heap.size, 6, none⟩ = some (.int .i64 l7) := A8.out.cell 6
          have c6_ : w8.cell? ⟨w3.heap.size, 6, none⟩ = some (.int .i64 m7) := C8.out.cell 6
          have g6_ : w8.cell? ⟨w5.heap.size, 6, none⟩ = some (.int .i64 o7) := G8.out.cell 6
          go_wp2_with fail
          go_meet
          exact ⟨rfl, B8, X8, Y8, A8, C8, G8⟩
        · have b2 : (ev == 0) = false := by simp [h2]
          clear h2
          have a6_ : w7.cell? ⟨w1.heap.size, 6, none⟩ = some (.int .i64 l7) := A7.out.cell 6
          have c6_ : w7.cell? ⟨w3.heap.size, 6, none⟩ = some (.int .i64 m7) := C7.out.cell 6
          have g6_ : w7.cell? ⟨w5.heap.size, 6, none⟩ = some (.int .i64 o7) := G7.out.cell 6
          go_wp2_with fail
          go_meet
          exact ⟨rfl, B7, X7, Y7, A7, C7, G7⟩
    · have b0 : (l7 == 1) = false := by simp [h0]
      clear h0
      by_cases h1 : er = 0
      · obtain ⟨g1, i1⟩ := F2.out h1
        have b1 : (er == 0) = true := by simp [h1]
        have c1 : (m7 != 1) = false := by simp [g1]
        have i1' : decide (al1 < x) = false := by simp; omega
        clear h1 g1
        have x0_ : (w5.alloc (.cells #[.int .i64 o1, .int .i64 o2, .int .i64 o3, .int .i64 o4, .int .i64 o5, .int .i64 o6, .int .i64 o7, .slice ox oN oy] 27)).cell? ⟨w.heap.size, 0, none⟩ = some (.int .i64 a) := X6.out.cell 0
        have x1_ : (w5.alloc (.cells #[.int .i64 o1, .int .i64 o2, .int .i64 o3, .int .i64 o4, .int .i64 o5, .int .i64 o6, .int .i64 o7, .slice ox oN oy] 27)).cell? ⟨w.heap.size, 1, none⟩ = some (.int .i64 b) := X6.out.cell 1
        have x2_ : (w5.alloc (.cells #[.int .i64 o1, .int .i64 o2, .int .i64 o3, .int .i64 o4, .int .i64 o5, .int .i64 o6, .int .i64 o7, .slice ox oN oy] 27)).cell? ⟨w.heap.size, 2, none⟩ = some (.int .i64 c) := X6.out.cell 2
        have c0_ : (w5.alloc (.cells #[.int .i64 o1, .int .i64 o2, .int .i64 o3, .int .i64 o4, .int .i64 o5, .int .i64 o6, .int .i64 o7, .slice ox oN oy] 27)).cell? ⟨w3.heap.size, 0, none⟩ = some (.int .i64 m1) := C6.out.cell 0
        have c1_ : (w5.alloc (.cells #[.int .i64 o1, .int .i64 o2, .int .i64 o3, .int .i64 o4, .int .i64 o5, .int .i64 o6, .int .i64 o7, .slice ox oN oy] 27)).cell? ⟨w3.heap.size, 1, none⟩ = some (.int .i64 m2) := C6.out.cell 1
        have c2_ : (w5.alloc (.cells #[.int .i64 o1, .int .i64 o2, .int .i64 o3, .int .i64 o4, .int .i64 o5, .int .i64 o6, .int .i64 o7, .slice ox oN oy] 27)).cell? ⟨w3.heap.size, 2, none⟩ = some (.int .i64 m3) := C6.out.cell 2
        have c3_ : (w5.alloc (.cells #[.int .i64 o1, .int .i64 o2, .int .i64 o3, .int .i64 o4, .int .i64 o5, .int .i64 o6, .int .i64 o7, .slice ox oN oy] 27)).cell? ⟨w3.heap.size, 3, none⟩ = some (.int .i64 m4) := C6.out.cell 3
        have c4_ : (w5.alloc (.cells #[.int .i64 o1, .int .i64 o2, .int .i64 o3, .int .i64 o4, .int .i64 o5, .int .i64 o6, .int .i64 o7, .slice ox oN oy] 27)).cell? ⟨w3.heap.size, 4, none⟩ = some (.int .i64 m5) := C6.out.cell 4
        have c5_ : (w5.alloc (.cells #[.int .i64 o1, .int .i64 o2, .int .i64 o3, .int .i64 o4, .int .i64 o5, .int .i64 o6, .int .i64 o7, .slice ox oN oy] 27)).cell? ⟨w3.heap.size, 5, none⟩ = some (.int .i64 m6) := C6.out.cell 5
        have c6_ : (w5.alloc (.cells #[.int .i64 o1, .int .i64 o2, .int .i64 o3, .int .i64 o4, .int .i64 o5, .int .i64 o6, .int .i64 o7, .slice ox oN oy] 27)).cell? ⟨w3.heap.size, 6, none⟩ = some (.int .i64 m7) := C6.out.cell 6
        have c7_ : (w5.alloc (.cells #[.int .i64 o1, .int .i64 o2, .int .i64 o3, .int .i64 o4, .int .i64 o5, .int .i64 o6, .int .i64 o7, .slice ox oN oy] 27)).cell? ⟨w3.heap.size, 7, none⟩ = some (.slice mx mN my) := C6.out.cell 7
        have a6_ : (w5.alloc (.cells #[.int .i64 o1, .int .i64 o2, .int .i64 o3, .int .i64 o4, .int .i64 o5, .int .i64 o6, .int .i64 o7, .slice ox oN oy] 27)).cell? ⟨w1.heap.size, 6, none⟩ = some (.int .i64 l7) := A6.out.cell 6
        have g6_ : (w5.alloc (.cells #[.int .i64 o1, .int .i64 o2, .int .i64 o3, .int .i64 o4, .int .i64 o5, .int .i64 o6, .int .i64 o7, .slice ox oN oy] 27)).cell? ⟨w5.heap.size, 6, none⟩ = some (.int .i64 o7) := G6.out.cell 6
        go_wp2_with fail
        refine (D1.out mx my _ B6.out).mono ?_
        rintro e w7 ⟨rfl, hb⟩
        have B7 := Lib.hid (B6.out.trans (hb.mono B6.out.size))
        have X7 := Lib.hid (X6.out.below hb X6.out.lt)
        have Y7 := Lib.hid (Y6.out.below hb Y6.out.lt)
        have A7 := Lib.hid (A6.out.below hb A6.out.lt)
        have C7 := Lib.hid (C6.out.below hb C6.out.lt)
        have G7 := Lib.hid (G6.out.below hb G6.out.lt)
        clear hb D1 x0_ x1_ x2_ c0_ c1_ c2_ c3_ c4_ c5_ c6_ c7_ a6_ g6_ X6 Y6 A6 C6 G6 B6
        by_cases h2 : ev = 0
        · obtain ⟨g2, i2⟩ := F3.out h2
          have b2 : (ev == 0) = true := by simp [h2]
          have c2 : (o7 != 1) = false := by simp [g2]
          have i2' : decide (al2 < x) = false := by simp; omega
          clear h2 g2
          have x0_ : w7.cell? ⟨w.heap.size, 0, none⟩ = some (.int .i64 a) := X7.out.cell 0
          have x1_ : w7.cell? ⟨w.heap.size, 1, none⟩ = some (.int .i64 b) := X7.out.cell 1
          have x2_ : w7.cell? ⟨w.heap.size, 2, none⟩ = some (.int .i64 c) := X7.out.cell 2
          have g0_ : w7.cell? ⟨w5.heap.size, 0, none⟩ = some (.int .i64 o1) := G7.out.cell 0
          have g1_ : w7.cell? ⟨w5.heap.size, 1, none⟩ = some (.int .i64 o2) := G7.out.cell 1
          have g2_ : w7.cell? ⟨w5.heap.size, 2, none⟩ = some (.int .i64 o3) := G7.out.cell 2
          have g3_ : w7.cell? ⟨w5.heap.size, 3, none⟩ = some (.int .i64 o4) := G7.out.cell 3
          have g4_ : w7.cell? ⟨w5.heap.size, 4, none⟩ = some (.int .i64 o5) := G7.out.cell 4
          have g5_ : w7.cell? ⟨w5.heap.size, 5, none⟩ = some (.int .i64 o6) := G7.out.cell 5
          have g6_ : w7.cell? ⟨w5.heap.size, 6, none⟩ = some (.int .i64 o7) := G7.out.cell 6
          have g7_ : w7.cell? ⟨w5.heap.size, 7, none⟩ = some (.slice ox oN oy) := G7.out.cell 7
          have a6_ : w7.cell? ⟨w1.heap.size, 6, none⟩ = some (.int .i64 l7) := A7.out.cell 6
          have c6_ : w7.cell? ⟨w3.heap.size, 6, none⟩ = some (.int .i64 m7) := C7.out.cell 6
          go_wp2_with fail
          refine (D2.out ox oy _ B7.out).mono ?_
          rintro e w8 ⟨rfl, hb⟩
          have B8 := Lib.hid (B7.out.trans (hb.mono B7.out.size))
          have X8 := Lib.hid (X7.out.below hb X7.out.lt)
          have Y8 := Lib.hid (Y7.out.below hb Y7.out.lt)
          have A8 := Lib.hid (A7.out.below hb A7.out.lt)
          have C8 := Lib.hid (C7.out.below hb C7.out.lt)
          have G8 := Lib.hid (G7.out.below hb G7.out.lt)
          clear hb D2 x0_ x1_ x2_ g0_ g1_ g2_ g3_ g4_ g5_ g6_ g7_ a6_ c6_ X7 Y7 A7 C7 G7 B7
          have a6_ : w8.cell? ⟨w1.heap.size, 6, none⟩ = some (.int .i64 l7) := A8.out.cell 6
          have c6_ : w8.cell? ⟨w3.heap.size, 6, none⟩ = some (.int .i64 m7) := C8.out.cell 6
          have g6_ : w8.cell? ⟨w5.heap.size, 6, none⟩ = some (.int .i64 o7) := G8.out.cell 6
          go_wp2_with fail
          go_meet
          exact ⟨rfl, B8, X8, Y8, A8, C8, G8⟩
        · have b2 : (ev == 0) = false := by simp [h2]
          clear h2
          have a6_ : w7.cell? ⟨w1.heap.size, 6, none⟩ = some (.int .i64 l7) := A7.out.cell 6
          have c6_ : w7.cell? ⟨w3.heap.size, 6, none⟩ = some (.int .i64 m7) := C7.out.cell 6
          have g6_ : w7.cell? ⟨w5.heap.size, 6, none⟩ = some (.int .i64 o7) := G7.out.cell 6
          go_wp2_with fail
          go_meet
          exact ⟨rfl, B7, X7, Y7, A7, C7, G7⟩
      · have b1 : (er == 0) = false := by simp [h1]
        clear h1
        by_cases h2 : ev = 0
        · obtain ⟨g2, i2⟩ := F3.out h2
          have b2 : (ev == 0) = true := by simp [h2]
          have c2 : (o7 != 1) = false := by simp [g2]
          have i2' : decide (al2 < x) = false := by simp; omega
          clear h2 g2
          have x0_ : (w5.alloc (.cells #[.int .i64 o1, .int .i64 o2, .int .i64 o3, .int .i64 o4, .int .i64 o5, .int .i64 o6, .int .i64 o7, .slice ox oN oy] 27)).cell? ⟨w.heap.size, 0, none⟩ = some (.int .i64 a) := X6.out.cell 0
          have x1_ : (w5.alloc (.cells #[.int .i64 o1, .int .i64 o2, .int .i64 o3, .int .i64 o4, .int .i64 o5, .int .i64 o6, .int .i64 o7, .slice ox oN oy] 27)).cell? ⟨w.heap.size, 1, none⟩ = some (.int .i64 b) := X6.out.cell 1
          have x2_ : (w5.alloc (.cells #[.int .i64 o1, .int .i64 o2, .int .i64 o3, .int .i64 o4, .int .i64 o5, .int .i64 o6, .int .i64 o7, .slice ox oN oy] 27)).cell? ⟨w.heap.size, 2, none⟩ = some (.int .i64 c) := X6.out.cell 2
          have g0_ : (w5.alloc (.cells #[.int .i64 o1, .int .i64 o2, .int .i64 o3, .int .i64 o4, .int .i64 o5, .int .i64 o6, .int .i64 o7, .slice ox oN oy] 27)).cell? ⟨w5.heap.size, 0, none⟩ = some (.int .i64 o1) := G6.out.cell 0
          have g1_ : (w5.alloc (.cells #[.int .i64 o1, .int .i64 o2, .int .i64 o3, .int .i64 o4, .int .i64 o5, .int .i64 o6, .int .i64 o7, .slice ox oN oy] 27)).cell? ⟨w5.heap.size, 1, none⟩ = some (.int .i64 o2) := G6.out.cell 1
          have g2_ : (w5.alloc (.cells #[.int .i64 o1, .int .i64 o2, .int .i64 o3, .int .i64 o4, .int .i64 o5, .int .i64 o6, .int .i64 o7, .slice ox oN oy] 27)).cell? ⟨w5.heap.size, 2, none⟩ = some (.int .i64 o3) := G6.out.cell 2
          have g3_ : (w5.alloc (.cells #[.int .i64 o1, .int .i64 o2, .int .i64 o3, .int .i64 o4, .int .i64 o5, .int .i64 o6, .int .i64 o7, .slice ox oN oy] 27)).cell? ⟨w5.heap.size, 3, none⟩ = some (.int .i64 o4) := G6.out.cell 3
          have g4_ : (w5.alloc (.cells #[.int .i64 o1, .int .i64 o2, .int .i64 o3, .int .i64 o4, .int .i64 o5, .int .i64 o6, .int .i64 o7, .slice ox oN oy] 27)).cell? ⟨w5.heap.size, 4, none⟩ = some (.int .i64 o5) := G6.out.cell 4
          have g5_ : (w5.alloc (.cells #[.int .i64 o1, .int .i64 o2, .int .i64 o3, .int .i64 o4, .int .i64 o5, .int .i64 o6, .int .i64 o7, .slice ox oN oy] 27)).cell? ⟨w5.heap.size, 5, none⟩ = some (.int .i64 o6) := G6.out.cell 5
          have g6_ : (w5.alloc (.cells #[.int .i64 o1, .int .i64 o2, .int .i64 o3, .int .i64 o4, .int .i64 o5, .int .i64 o6, .int .i64 o7, .slice ox oN oy] 27)).cell? ⟨w5.heap.size, 6, none⟩ = some (.int .i64 o7) := G6.out.cell 6
          have g7_ : (w5.alloc (.cells #[.int .i64 o1, .int .i64 o2, .int .i64 o3, .int .i64 o4, .int .i64 o5, .int .i64 o6, .int .i64 o7, .slice ox oN oy] 27)).cell? ⟨w5.heap.size, 7, none⟩ = some (.slice ox oN oy) := G6.out.cell 7
          have a6_ : (w5.alloc (.cells #[.int .i64 o1, .int .i64 o2, .int .i64 o3, .int .i64 o4, .int .i64 o5, .int .i64 o6, .int .i64 o7, .slice ox oN oy] 27)).cell? ⟨w1.heap.size, 6, none⟩ = some (.int .i64 l7) := A6.out.cell 6
          have c6_ : (w5.alloc (.cells #[.int .i64 o1, .int .i64 o2, .int .i64 o3, .int .i64 o4, .int .i64 o5, .int .i64 o6, .int .i64 o7, .slice ox oN oy] 27)).cell? ⟨w3.heap.size, 6, none⟩ = some (.int .i64 m7) := C6.out.cell 6
          go_wp2_with fail
          refine (D2.out ox oy _ B6.out).mono ?_
          rintro e w7 ⟨rfl, hb⟩
          have B7 := Lib.hid (B6.out.trans (hb.mono B6.out.size))
          have X7 := Lib.hid (X6.out.below hb X6.out.lt)
          have Y7 := Lib.hid (Y6.out.below hb Y6.out.lt)
          have A7 := Lib.hid (A6.out.below hb A6.out.lt)
          have C7 := Lib.hid (C6.out.below hb C6.out.lt)
          have G7 := Lib.hid (G6.out.below hb G6.out.lt)
          clear hb D2 x0_ x1_ x2_ g0_ g1_ g2_ g3_ g4_ g5_ g6_ g7_ a6_ c6_ X6 Y6 A6 C6 G6 B6
          have a6_ : w7.cell? ⟨w1.heap.size, 6, none⟩ = some (.int .i64 l7) := A7.out.cell 6
          have c6_ : w7.cell? ⟨w3.heap.size, 6, none⟩ = some (.int .i64 m7) := C7.out.cell 6
          have g6_ : w7.cell? ⟨w5.heap.size, 6, none⟩ = some (.int .i64 o7) := G7.out.cell 6
          go_wp2_with fail
          go_meet
          exact ⟨rfl, B7, X7, Y7, A7, C7, G7⟩
        · have b2 : (ev == 0) = false := by simp [h2]
          clear h2
          have a6_ : (w5.alloc (.cells #[.int .i64 o1, .int .i64 o2, .int .i64 o3, .int .i64 o4, .int .i64 o5, .int .i64 o6, .int .i64 o7, .slice ox oN oy] 27)).cell? ⟨w1.heap.size, 6, none⟩ = some (.int .i64 l7) := A6.out.cell 6
          have c6_ : (w5.alloc (.cells #[.int .i64 o1, .int .i64 o2, .int .i64 o3, .int .i64 o4, .int .i64 o5, .int .i64 o6, .int .i64 o7, .slice ox oN oy] 27)).cell? ⟨w3.heap.size, 6, none⟩ = some (.int .i64 m7) := C6.out.cell 6
          have g6_ : (w5.alloc (.cells #[.int .i64 o1, .int .i64 o2, .int .i64 o3, .int .i64 o4, .int .i64 o5, .int .i64 o6, .int .i64 o7, .slice ox oN oy] 27)).cell? ⟨w5.heap.size, 6, none⟩ = some (.int .i64 o7) := G6.out.cell 6
          go_wp2_with fail
          go_meet
          exact ⟨rfl, B6, X6, Y6, A6, C6, G6⟩
  case rest =>
    obtain ⟨rfl, B100, X100, Y100, A100, C100, G100⟩ := hcut
    clear D0 D1 D2 F0 F2 F3
    go_upto_region 12 with fail
    go_cut [12, 147] from 104 to 146 (fun _ s147 wx => s147 = .bool false ∧ Hid (Below w.heap.size w wx) ∧ Hid (Lies wx (w.heap.size) 23 #[.int .i64 a, .int .i64 b, .int .i64 c]) ∧ Hid (Lies wx (w.heap.size + 1) 27 #[.int .i64 j1, .int .i64 j2, .int .i64 j3, .int .i64 j4, .int .i64 j5, .int .i64 j6, .int .i64 j7, .slice jq jN jd]))
    case first =>
      have a5_ : wc.cell? ⟨w1.heap.size, 5, none⟩ = some (.int .i64 l6) := A100.out.cell 5
      have a6_ : wc.cell? ⟨w1.heap.size, 6, none⟩ = some (.int .i64 l7) := A100.out.cell 6
      have y6_ : wc.cell? ⟨w.heap.size + 1, 6, none⟩ = some (.int .i64 j7) := Y100.out.cell 6
      have c0_ : wc.cell? ⟨w3.heap.size, 0, none⟩ = some (.int .i64 m1) := C100.out.cell 0
      have c2_ : wc.cell? ⟨w3.heap.size, 2, none⟩ = some (.int .i64 m3) := C100.out.cell 2
      have g0_ : wc.cell? ⟨w5.heap.size, 0, none⟩ = some (.int .i64 o1) := G100.out.cell 0
      have g2_ : wc.cell? ⟨w5.heap.size, 2, none⟩ = some (.int .i64 o3) := G100.out.cell 2
      cases he with
      | true =>
        obtain ⟨g0, g1, g2⟩ := F1.out rfl
        have d0 : (l7 != 2) = false := by simp [g0]
        have d1 : (l6 != 0) = false := by simp [g1]
        have d2 : (j7 != 1) = false := by simp [g2]
        clear g0 g1 g2
        by_cases h1 : er = 0
        · have b1 : (er != 0) = false := by simp [h1]
          clear h1
          by_cases h2 : ev = 0
          · have b2 : (ev != 0) = false := by simp [h2]
            clear h2
            go_wp2_with fail
            go_meet
            exact ⟨rfl, B100, X100, Y100⟩
          · have b2 : (ev != 0) = true := by simp [h2]
            obtain ⟨g1, _, g3, _⟩ := F5.out h2
            have p2 : (o1 != 0) = false := by simp [g1]
            have q2 : (o3 != 0) = false := by simp [g3]
            clear h2 g1 g3
            go_wp2_with fail
            go_meet
            exact ⟨rfl, B100, X100, Y100⟩
        · have b1 : (er != 0) = true := by simp [h1]
          obtain ⟨g1, _, g3, _⟩ := F4.out h1
          have p1 : (m1 != 0) = false := by simp [g1]
          have q1 : (m3 != 0) = false := by simp [g3]
          clear h1 g1 g3
          by_cases h2 : ev = 0
          · have b2 : (ev != 0) = false := by simp [h2]
            clear h2
            go_wp2_with fail
            go_meet
            exact ⟨rfl, B100, X100, Y100⟩
          · have b2 : (ev != 0) = true := by simp [h2]
            obtain ⟨g1, _, g3, _⟩ := F5.out h2
            have p2 : (o1 != 0) = false := by simp [g1]
            have q2 : (o3 != 0) = false := by simp [g3]
            clear h2 g1 g3
            go_wp2_with fail
            go_meet
            exact ⟨rfl, B100, X100, Y100⟩
      | false =>
        by_cases h1 : er = 0
        · have b1 : (er != 0) = false := by simp [h1]
          clear h1
          by_cases h2 : ev = 0
          · have b2 : (ev != 0) = false := by simp [h2]
            clear h2
            go_wp2_with fail
            go_meet
            exact ⟨rfl, B100, X100, Y100⟩
          · have b2 : (ev != 0) = true := by simp [h2]
            obtain ⟨g1, _, g3, _⟩ := F5.out h2
            have p2 : (o1 != 0) = false := by simp [g1]
            have q2 : (o3 != 0) = false := by simp [g3]
            clear h2 g1 g3
            go_wp2_with fail
            go_meet
            exact ⟨rfl, B100, X100, Y100⟩
        · have b1 : (er != 0) = true := by simp [h1]
          obtain ⟨g1, _, g3, _⟩ := F4.out h1
          have p1 : (m1 != 0) = false := by simp [g1]
          have q1 : (m3 != 0) = false := by simp [g3]
          clear h1 g1 g3
          by_cases h2 : ev = 0
          · have b2 : (ev != 0) = false := by simp [h2]
            clear h2
            go_wp2_with fail
            go_meet
            exact ⟨rfl, B100, X100, Y100⟩
          · have b2 : (ev != 0) = true := by simp [h2]
            obtain ⟨g1, _, g3, _⟩ := F5.out h2
            have p2 : (o1 != 0) = false := by simp [g1]
            have q2 : (o3 != 0) = false := by simp [g3]
            clear h2 g1 g3
            go_wp2_with fail
            go_meet
            exact ⟨rfl, B100, X100, Y100⟩
    case rest =>
      obtain ⟨rfl, B200, X200, Y200⟩ := hcut
      clear F1 F4 F5 A100 C100 G100 X100 Y100 B100
      have x0_ : wc.cell? ⟨w.heap.size, 0, none⟩ = some (.int .i64 a) := X200.out.cell 0
      have x1_ : wc.cell? ⟨w.heap.size, 1, none⟩ = some (.int .i64 b) := X200.out.cell 1
      have x2_ : wc.cell? ⟨w.heap.size, 2, none⟩ = some (.int .i64 c) := X200.out.cell 2
      have y0_ : wc.cell? ⟨w.heap.size + 1, 0, none⟩ = some (.int .i64 j1) := Y200.out.cell 0
      have y1_ : wc.cell? ⟨w.heap.size + 1, 1, none⟩ = some (.int .i64 j2) := Y200.out.cell 1
      have y2_ : wc.cell? ⟨w.heap.size + 1, 2, none⟩ = some (.int .i64 j3) := Y200.out.cell 2
      have y3_ : wc.cell? ⟨w.heap.size + 1, 3, none⟩ = some (.int .i64 j4) := Y200.out.cell 3
      have y4_ : wc.cell? ⟨w.heap.size + 1, 4, none⟩ = some (.int .i64 j5) := Y200.out.cell 4
      have y5_ : wc.cell? ⟨w.heap.size + 1, 5, none⟩ = some (.int .i64 j6) := Y200.out.cell 5
      have y6_ : wc.cell? ⟨w.heap.size + 1, 6, none⟩ = some (.int .i64 j7) := Y200.out.cell 6
      have y7_ : wc.cell? ⟨w.heap.size + 1, 7, none⟩ = some (.slice jq jN jd) := Y200.out.cell 7
      go_wp2_with fail
      refine (CM.out _ B200.out).mono ?_
      rintro e w201 ⟨rfl, hb⟩
      have B201 := Lib.hid (B200.out.trans (hb.mono B200.out.size))
      have X201 := Lib.hid (X200.out.below hb X200.out.lt)
      have Y201 := Lib.hid (Y200.out.below hb Y200.out.lt)
      clear hb CM x0_ x1_ x2_ y0_ y1_ y2_ y3_ y4_ y5_ y6_ y7_ X200 Y200 B200
      go_upto_region 15 with fail
      go_cut [172] from 153 to 171 (fun s172 wx => s172 = .bool false ∧ Hid (Below w.heap.size w wx) ∧ Hid (Lies wx (w.heap.size) 23 #[.int .i64 a, .int .i64 b, .int .i64 c]) ∧ Hid (Lies wx (w.heap.size + 1) 27 #[.int .i64 j1, .int .i64 j2, .int .i64 j3, .int .i64 j4, .int .i64 j5, .int .i64 j6, .int .i64 j7, .slice jq jN jd]))
      case first =>
        by_cases h0 : ml = 0
        · obtain ⟨g1, g2, g3⟩ := F6.out h0
          have b0 : (ml == 0) = true := by simp [h0]
          have d2 : (j7 != 1) = false := by simp [g1]
          have d3 : decide (al3 < x) = false := by simp; omega
          have d4 : decide (j4 ≤ t2) = false := by simp; omega
          clear h0 g1
          have x0_ : w201.cell? ⟨w.heap.size, 0, none⟩ = some (.int .i64 a) := X201.out.cell 0
          have x1_ : w201.cell? ⟨w.heap.size, 1, none⟩ = some (.int .i64 b) := X201.out.cell 1
          have x2_ : w201.cell? ⟨w.heap.size, 2, none⟩ = some (.int .i64 c) := X201.out.cell 2
          have y0_ : w201.cell? ⟨w.heap.size + 1, 0, none⟩ = some (.int .i64 j1) := Y201.out.cell 0
          have y1_ : w201.cell? ⟨w.heap.size + 1, 1, none⟩ = some (.int .i64 j2) := Y201.out.cell 1
          have y2_ : w201.cell? ⟨w.heap.size + 1, 2, none⟩ = some (.int .i64 j3) := Y201.out.cell 2
          have y3_ : w201.cell? ⟨w.heap.size + 1, 3, none⟩ = some (.int .i64 j4) := Y201.out.cell 3
          have y4_ : w201.cell? ⟨w.heap.size + 1, 4, none⟩ = some (.int .i64 j5) := Y201.out.cell 4
          have y5_ : w201.cell? ⟨w.heap.size + 1, 5, none⟩ = some (.int .i64 j6) := Y201.out.cell 5
          have y6_ : w201.cell? ⟨w.heap.size + 1, 6, none⟩ = some (.int .i64 j7) := Y201.out.cell 6
          have y7_ : w201.cell? ⟨w.heap.size + 1, 7, none⟩ = some (.slice jq jN jd) := Y201.out.cell 7
          go_wp2_with fail
          refine (D3.out _ B201.out).mono ?_
          rintro e w202 ⟨rfl, hb⟩
          have B202 := Lib.hid (B201.out.trans (hb.mono B201.out.size))
          have X202 := Lib.hid (X201.out.below hb X201.out.lt)
          have Y202 := Lib.hid (Y201.out.below hb Y201.out.lt)
          clear hb D3 x0_ x1_ x2_ y0_ y1_ y2_ y3_ y4_ y5_ y6_ y7_ X201 Y201 B201
          have y3_ : w202.cell? ⟨w.heap.size + 1, 3, none⟩ = some (.int .i64 j4) := Y202.out.cell 3
          go_wp2_with fail
          go_meet
          exact ⟨rfl, B202, X202, Y202⟩
        · have b0 : (ml == 0) = false := by simp [h0]
          clear h0
          go_wp2_with fail
          go_meet
          exact ⟨rfl, B201, X201, Y201⟩
      case rest =>
        obtain ⟨rfl, B300, X300, Y300⟩ := hcut
        clear D3 F6 X201 Y201 B201
        have x0_ : wc.cell? ⟨w.heap.size, 0, none⟩ = some (.int .i64 a) := X300.out.cell 0
        have x1_ : wc.cell? ⟨w.heap.size, 1, none⟩ = some (.int .i64 b) := X300.out.cell 1
        have x2_ : wc.cell? ⟨w.heap.size, 2, none⟩ = some (.int .i64 c) := X300.out.cell 2
        have y0_ : wc.cell? ⟨w.heap.size + 1, 0, none⟩ = some (.int .i64 j1) := Y300.out.cell 0
        have y1_ : wc.cell? ⟨w.heap.size + 1, 1, none⟩ = some (.int .i64 j2) := Y300.out.cell 1
        have y2_ : wc.cell? ⟨w.heap.size + 1, 2, none⟩ = some (.int .i64 j3) := Y300.out.cell 2
        have y3_ : wc.cell? ⟨w.heap.size + 1, 3, none⟩ = some (.int .i64 j4) := Y300.out.cell 3
        have y4_ : wc.cell? ⟨w.heap.size + 1, 4, none⟩ = some (.int .i64 j5) := Y300.out.cell 4
        have y5_ : wc.cell? ⟨w.heap.size + 1, 5, none⟩ = some (.int .i64 j6) := Y300.out.cell 5
        have y6_ : wc.cell? ⟨w.heap.size + 1, 6, none⟩ = some (.int .i64 j7) := Y300.out.cell 6
        have y7_ : wc.cell? ⟨w.heap.size + 1, 7, none⟩ = some (.slice jq jN jd) := Y300.out.cell 7
        go_wp2_with fail
        refine (E0.out _ B300.out).mono ?_
        rintro e w301 ⟨rx, ry, rfl, _, hb⟩
        have B301 := Lib.hid (B300.out.trans (hb.mono B300.out.size))
        have X301 := Lib.hid (X300.out.below hb X300.out.lt)
        have Y301 := Lib.hid (Y300.out.below hb Y300.out.lt)
        clear hb E0 x0_ x1_ x2_ y0_ y1_ y2_ y3_ y4_ y5_ y6_ y7_ X300 Y300 B300
        have B302 := Lib.hid (B301.out.alloc B301.out.size (.cells #[.int .i64 r1, .int .i64 r2, .int .i64 r3, .int .i64 r4, .int .i64 r5, .int .i64 r6, .int .i64 r7, .slice rx rN ry] 27))
        have X302 := Lib.hid (X301.out.alloc (.cells #[.int .i64 r1, .int .i64 r2, .int .i64 r3, .int .i64 r4, .int .i64 r5, .int .i64 r6, .int .i64 r7, .slice rx rN ry] 27))
        have Y302 := Lib.hid (Y301.out.alloc (.cells #[.int .i64 r1, .int .i64 r2, .int .i64 r3, .int .i64 r4, .int .i64 r5, .int .i64 r6, .int .i64 r7, .slice rx rN ry] 27))
        have A302 := Lib.hid (Lies.new w301 27 #[.int .i64 r1, .int .i64 r2, .int .i64 r3, .int .i64 r4, .int .i64 r5, .int .i64 r6, .int .i64 r7, .slice rx rN ry])
        clear B301 X301 Y301
        clear A302
        have x0_ : (w301.alloc (.cells #[.int .i64 r1, .int .i64 r2, .int .i64 r3, .int .i64 r4, .int .i64 r5, .int .i64 r6, .int .i64 r7, .slice rx rN ry] 27)).cell? ⟨w.heap.size, 0, none⟩ = some (.int .i64 a) := X302.out.cell 0
        have x1_ : (w301.alloc (.cells #[.int .i64 r1, .int .i64 r2, .int .i64 r3, .int .i64 r4, .int .i64 r5, .int .i64 r6, .int .i64 r7, .slice rx rN ry] 27)).cell? ⟨w.heap.size, 1, none⟩ = some (.int .i64 b) := X302.out.cell 1
        have x2_ : (w301.alloc (.cells #[.int .i64 r1, .int .i64 r2, .int .i64 r3, .int .i64 r4, .int .i64 r5, .int .i64 r6, .int .i64 r7, .slice rx rN ry] 27)).cell? ⟨w.heap.size, 2, none⟩ = some (.int .i64 c) := X302.out.cell 2
        have y0_ : (w301.alloc (.cells #[.int .i64 r1, .int .i64 r2, .int .i64 r3, .int .i64 r4, .int .i64 r5, .int .i64 r6, .int .i64 r7, .slice rx rN ry] 27)).cell? ⟨w.heap.size + 1, 0, none⟩ = some (.int .i64 j1) := Y302.out.cell 0
        have y1_ : (w301.alloc (.cells #[.int .i64 r1, .int .i64 r2, .int .i64 r3, .int .i64 r4, .int .i64 r5, .int .i64 r6, .int .i64 r7, .slice rx rN ry] 27)).cell? ⟨w.heap.size + 1, 1, none⟩ = some (.int .i64 j2) := Y302.out.cell 1
        have y2_ : (w301.alloc (.cells #[.int .i64 r1, .int .i64 r2, .int .i64 r3, .int .i64 r4, .int .i64 r5, .int .i64 r6, .int .i64 r7, .slice rx rN ry] 27)).cell? ⟨w.heap.size + 1, 2, none⟩ = some (.int .i64 j3) := Y302.out.cell 2
        have y3_ : (w301.alloc (.cells #[.int .i64 r1, .int .i64 r2, .int .i64 r3, .int .i64 r4, .int .i64 r5, .int .i64 r6, .int .i64 r7, .slice rx rN ry] 27)).cell? ⟨w.heap.size + 1, 3, none⟩ = some (.int .i64 j4) := Y302.out.cell 3
        have y4_ : (w301.alloc (.cells #[.int .i64 r1, .int .i64 r2, .int .i64 r3, .int .i64 r4, .int .i64 r5, .int .i64 r6, .int .i64 r7, .slice rx rN ry] 27)).cell? ⟨w.heap.size + 1, 4, none⟩ = some (.int .i64 j5) := Y302.out.cell 4
        have y5_ : (w301.alloc (.cells #[.int .i64 r1, .int .i64 r2, .int .i64 r3, .int .i64 r4, .int .i64 r5, .int .i64 r6, .int .i64 r7, .slice rx rN ry] 27)).cell? ⟨w.heap.size + 1, 5, none⟩ = some (.int .i64 j6) := Y302.out.cell 5
        have y6_ : (w301.alloc (.cells #[.int .i64 r1, .int .i64 r2, .int .i64 r3, .int .i64 r4, .int .i64 r5, .int .i64 r6, .int .i64 r7, .slice rx rN ry] 27)).cell? ⟨w.heap.size + 1, 6, none⟩ = some (.int .i64 j7) := Y302.out.cell 6
        have y7_ : (w301.alloc (.cells #[.int .i64 r1, .int .i64 r2, .int .i64 r3, .int .i64 r4, .int .i64 r5, .int .i64 r6, .int .i64 r7, .slice rx rN ry] 27)).cell? ⟨w.heap.size + 1, 7, none⟩ = some (.slice jq jN jd) := Y302.out.cell 7
        go_wp2_with fail
        refine (E1.out _ B302.out).mono ?_
        rintro e w303 ⟨ux, uy, rfl, _, hb⟩
        have B303 := Lib.hid (B302.out.trans (hb.mono B302.out.size))
        have X303 := Lib.hid (X302.out.below hb X302.out.lt)
        have Y303 := Lib.hid (Y302.out.below hb Y302.out.lt)
        clear hb E1 x0_ x1_ x2_ y0_ y1_ y2_ y3_ y4_ y5_ y6_ y7_ X302 Y302 B302
        have B304 := Lib.hid (B303.out.alloc B303.out.size (.cells #[.int .i64 u1, .int .i64 u2, .int .i64 u3, .int .i64 u4, .int .i64 u5, .int .i64 u6, .int .i64 u7, .slice ux uN uy] 27))
        have X304 := Lib.hid (X303.out.alloc (.cells #[.int .i64 u1, .int .i64 u2, .int .i64 u3, .int .i64 u4, .int .i64 u5, .int .i64 u6, .int .i64 u7, .slice ux uN uy] 27))
        have Y304 := Lib.hid (Y303.out.alloc (.cells #[.int .i64 u1, .int .i64 u2, .int .i64 u3, .int .i64 u4, .int .i64 u5, .int .i64 u6, .int .i64 u7, .slice ux uN uy] 27))
        have A304 := Lib.hid (Lies.new w303 27 #[.int .i64 u1, .int .i64 u2, .int .i64 u3, .int .i64 u4, .int .i64 u5, .int .i64 u6, .int .i64 u7, .slice ux uN uy])
        clear B303 X303 Y303
        clear A304
        have x0_ : (w303.alloc (.cells #[.int .i64 u1, .int .i64 u2, .int .i64 u3, .int .i64 u4, .int .i64 u5, .int .i64 u6, .int .i64 u7, .slice ux uN uy] 27)).cell? ⟨w.heap.size, 0, none⟩ = some (.int .i64 a) := X304.out.cell 0
        have x1_ : (w303.alloc (.cells #[.int .i64 u1, .int .i64 u2, .int .i64 u3, .int .i64 u4, .int .i64 u5, .int .i64 u6, .int .i64 u7, .slice ux uN uy] 27)).cell? ⟨w.heap.size, 1, none⟩ = some (.int .i64 b) := X304.out.cell 1
        have x2_ : (w303.alloc (.cells #[.int .i64 u1, .int .i64 u2, .int .i64 u3, .int .i64 u4, .int .i64 u5, .int .i64 u6, .int .i64 u7, .slice ux uN uy] 27)).cell? ⟨w.heap.size, 2, none⟩ = some (.int .i64 c) := X304.out.cell 2
        have y0_ : (w303.alloc (.cells #[.int .i64 u1, .int .i64 u2, .int .i64 u3, .int .i64 u4, .int .i64 u5, .int .i64 u6, .int .i64 u7, .slice ux uN uy] 27)).cell? ⟨w.heap.size + 1, 0, none⟩ = some (.int .i64 j1) := Y304.out.cell 0
        have y1_ : (w303.alloc (.cells #[.int .i64 u1, .int .i64 u2, .int .i64 u3, .int .i64 u4, .int .i64 u5, .int .i64 u6, .int .i64 u7, .slice ux uN uy] 27)).cell? ⟨w.heap.size + 1, 1, none⟩ = some (.int .i64 j2) := Y304.out.cell 1
        have y2_ : (w303.alloc (.cells #[.int .i64 u1, .int .i64 u2, .int .i64 u3, .int .i64 u4, .int .i64 u5, .int .i64 u6, .int .i64 u7, .slice ux uN uy] 27)).cell? ⟨w.heap.size + 1, 2, none⟩ = some (.int .i64 j3) := Y304.out.cell 2
        have y3_ : (w303.alloc (.cells #[.int .i64 u1, .int .i64 u2, .int .i64 u3, .int .i64 u4, .int .i64 u5, .int .i64 u6, .int .i64 u7, .slice ux uN uy] 27)).cell? ⟨w.heap.size + 1, 3, none⟩ = some (.int .i64 j4) := Y304.out.cell 3
        have y4_ : (w303.alloc (.cells #[.int .i64 u1, .int .i64 u2, .int .i64 u3, .int .i64 u4, .int .i64 u5, .int .i64 u6, .int .i64 u7, .slice ux uN uy] 27)).cell? ⟨w.heap.size + 1, 4, none⟩ = some (.int .i64 j5) := Y304.out.cell 4
        have y5_ : (w303.alloc (.cells #[.int .i64 u1, .int .i64 u2, .int .i64 u3, .int .i64 u4, .int .i64 u5, .int .i64 u6, .int .i64 u7, .slice ux uN uy] 27)).cell? ⟨w.heap.size + 1, 5, none⟩ = some (.int .i64 j6) := Y304.out.cell 5
        have y6_ : (w303.alloc (.cells #[.int .i64 u1, .int .i64 u2, .int .i64 u3, .int .i64 u4, .int .i64 u5, .int .i64 u6, .int .i64 u7, .slice ux uN uy] 27)).cell? ⟨w.heap.size + 1, 6, none⟩ = some (.int .i64 j7) := Y304.out.cell 6
        have y7_ : (w303.alloc (.cells #[.int .i64 u1, .int .i64 u2, .int .i64 u3, .int .i64 u4, .int .i64 u5, .int .i64 u6, .int .i64 u7, .slice ux uN uy] 27)).cell? ⟨w.heap.size + 1, 7, none⟩ = some (.slice jq jN jd) := Y304.out.cell 7
        go_wp2_with fail
        refine (E2.out _ B304.out).mono ?_
        rintro e w305 ⟨vx, vy, rfl, _, hb⟩
        have B305 := Lib.hid (B304.out.trans (hb.mono B304.out.size))
        have X305 := Lib.hid (X304.out.below hb X304.out.lt)
        have Y305 := Lib.hid (Y304.out.below hb Y304.out.lt)
        clear hb E2 x0_ x1_ x2_ y0_ y1_ y2_ y3_ y4_ y5_ y6_ y7_ X304 Y304 B304
        have B306 := Lib.hid (B305.out.alloc B305.out.size (.cells #[.int .i64 v1, .int .i64 v2, .int .i64 v3, .int .i64 v4, .int .i64 v5, .int .i64 v6, .int .i64 v7, .slice vx vN vy] 27))
        have X306 := Lib.hid (X305.out.alloc (.cells #[.int .i64 v1, .int .i64 v2, .int .i64 v3, .int .i64 v4, .int .i64 v5, .int .i64 v6, .int .i64 v7, .slice vx vN vy] 27))
        have Y306 := Lib.hid (Y305.out.alloc (.cells #[.int .i64 v1, .int .i64 v2, .int .i64 v3, .int .i64 v4, .int .i64 v5, .int .i64 v6, .int .i64 v7, .slice vx vN vy] 27))
        have A306 := Lib.hid (Lies.new w305 27 #[.int .i64 v1, .int .i64 v2, .int .i64 v3, .int .i64 v4, .int .i64 v5, .int .i64 v6, .int .i64 v7, .slice vx vN vy])
        clear B305 X305 Y305
        clear A306
        have x0_ : (w305.alloc (.cells #[.int .i64 v1, .int .i64 v2, .int .i64 v3, .int .i64 v4, .int .i64 v5, .int .i64 v6, .int .i64 v7, .slice vx vN vy] 27)).cell? ⟨w.heap.size, 0, none⟩ = some (.int .i64 a) := X306.out.cell 0
        have x1_ : (w305.alloc (.cells #[.int .i64 v1, .int .i64 v2, .int .i64 v3, .int .i64 v4, .int .i64 v5, .int .i64 v6, .int .i64 v7, .slice vx vN vy] 27)).cell? ⟨w.heap.size, 1, none⟩ = some (.int .i64 b) := X306.out.cell 1
        have x2_ : (w305.alloc (.cells #[.int .i64 v1, .int .i64 v2, .int .i64 v3, .int .i64 v4, .int .i64 v5, .int .i64 v6, .int .i64 v7, .slice vx vN vy] 27)).cell? ⟨w.heap.size, 2, none⟩ = some (.int .i64 c) := X306.out.cell 2
        have y0_ : (w305.alloc (.cells #[.int .i64 v1, .int .i64 v2, .int .i64 v3, .int .i64 v4, .int .i64 v5, .int .i64 v6, .int .i64 v7, .slice vx vN vy] 27)).cell? ⟨w.heap.size + 1, 0, none⟩ = some (.int .i64 j1) := Y306.out.cell 0
        have y1_ : (w305.alloc (.cells #[.int .i64 v1, .int .i64 v2, .int .i64 v3, .int .i64 v4, .int .i64 v5, .int .i64 v6, .int .i64 v7, .slice vx vN vy] 27)).cell? ⟨w.heap.size + 1, 1, none⟩ = some (.int .i64 j2) := Y306.out.cell 1
        have y2_ : (w305.alloc (.cells #[.int .i64 v1, .int .i64 v2, .int .i64 v3, .int .i64 v4, .int .i64 v5, .int .i64 v6, .int .i64 v7, .slice vx vN vy] 27)).cell? ⟨w.heap.size + 1, 2, none⟩ = some (.int .i64 j3) := Y306.out.cell 2
        have y3_ : (w305.alloc (.cells #[.int .i64 v1, .int .i64 v2, .int .i64 v3, .int .i64 v4, .int .i64 v5, .int .i64 v6, .int .i64 v7, .slice vx vN vy] 27)).cell? ⟨w.heap.size + 1, 3, none⟩ = some (.int .i64 j4) := Y306.out.cell 3
        have y4_ : (w305.alloc (.cells #[.int .i64 v1, .int .i64 v2, .int .i64 v3, .int .i64 v4, .int .i64 v5, .int .i64 v6, .int .i64 v7, .slice vx vN vy] 27)).cell? ⟨w.heap.size + 1, 4, none⟩ = some (.int .i64 j5) := Y306.out.cell 4
        have y5_ : (w305.alloc (.cells #[.int .i64 v1, .int .i64 v2, .int .i64 v3, .int .i64 v4, .int .i64 v5, .int .i64 v6, .int .i64 v7, .slice vx vN vy] 27)).cell? ⟨w.heap.size + 1, 5, none⟩ = some (.int .i64 j6) := Y306.out.cell 5
        have y6_ : (w305.alloc (.cells #[.int .i64 v1, .int .i64 v2, .int .i64 v3, .int .i64 v4, .int .i64 v5, .int .i64 v6, .int .i64 v7, .slice vx vN vy] 27)).cell? ⟨w.heap.size + 1, 6, none⟩ = some (.int .i64 j7) := Y306.out.cell 6
        have y7_ : (w305.alloc (.cells #[.int .i64 v1, .int .i64 v2, .int .i64 v3, .int .i64 v4, .int .i64 v5, .int .i64 v6, .int .i64 v7, .slice vx vN vy] 27)).cell? ⟨w.heap.size + 1, 7, none⟩ = some (.slice jq jN jd) := Y306.out.cell 7
        go_wp2_with fail
        refine (E3.out _ B306.out).mono ?_
        rintro e w307 ⟨rfl, hb⟩
        have B307 := Lib.hid (B306.out.trans (hb.mono B306.out.size))
        have X307 := Lib.hid (X306.out.below hb X306.out.lt)
        have Y307 := Lib.hid (Y306.out.below hb Y306.out.lt)
        clear hb E3 x0_ x1_ x2_ y0_ y1_ y2_ y3_ y4_ y5_ y6_ y7_ X306 Y306 B306
        go_wp2_with fail
        refine (AL.out _ B307.out).mono ?_
        rintro e w308 ⟨rfl, hb⟩
        have B308 := Lib.hid (B307.out.trans (hb.mono B307.out.size))
        have X308 := Lib.hid (X307.out.below hb X307.out.lt)
        have Y308 := Lib.hid (Y307.out.below hb Y307.out.lt)
        clear hb AL  X307 Y307 B307
        by_cases h0 : wr = 0
        · have k0 := G0.out h0
          have b0 : (wr != 0) = false := by simp [h0]
          have c0 : (er == 0) = true := by simp [k0]
          clear k0
          by_cases h1 : ls = 0
          · have k1 := G1.out h1
            have b1 : (ls != 0) = false := by simp [h1]
            have c1 : (ev == 0) = true := by simp [k1]
            clear k1
            by_cases h2 : ev = 0
            · have k2 := G2.out h2
              have b2 : (ev != 0) = false := by simp [h2]
              have c2 : (bt == 0) = true := by simp [k2]
              clear k2
              by_cases h3 : st = 0
              · have k3 := G3.out h3
                have b3 : (st != 0) = false := by simp [h3]
                have c3 : (ml == 0) = true := by simp [k3]
                clear k3
                go_wp2
                go_ret
                exact ⟨rfl, B308.out⟩
              · have b3 : (st != 0) = true := by simp [h3]
                go_wp2
                go_ret
                exact ⟨rfl, B308.out⟩
            · have b2 : (ev != 0) = true := by simp [h2]
              by_cases h3 : st = 0
              · have k3 := G3.out h3
                have b3 : (st != 0) = false := by simp [h3]
                have c3 : (ml == 0) = true := by simp [k3]
                clear k3
                go_wp2
                go_ret
                exact ⟨rfl, B308.out⟩
              · have b3 : (st != 0) = true := by simp [h3]
                go_wp2
                go_ret
                exact ⟨rfl, B308.out⟩
          · have b1 : (ls != 0) = true := by simp [h1]
            by_cases h2 : ev = 0
            · have k2 := G2.out h2
              have b2 : (ev != 0) = false := by simp [h2]
              have c2 : (bt == 0) = true := by simp [k2]
              clear k2
              by_cases h3 : st = 0
              · have k3 := G3.out h3
                have b3 : (st != 0) = false := by simp [h3]
                have c3 : (ml == 0) = true := by simp [k3]
                clear k3
                go_wp2
                go_ret
                exact ⟨rfl, B308.out⟩
              · have b3 : (st != 0) = true := by simp [h3]
                go_wp2
                go_ret
                exact ⟨rfl, B308.out⟩
            · have b2 : (ev != 0) = true := by simp [h2]
              by_cases h3 : st = 0
              · have k3 := G3.out h3
                have b3 : (st != 0) = false := by simp [h3]
                have c3 : (ml == 0) = true := by simp [k3]
                clear k3
                go_wp2
                go_ret
                exact ⟨rfl, B308.out⟩
              · have b3 : (st != 0) = true := by simp [h3]
                go_wp2
                go_ret
                exact ⟨rfl, B308.out⟩
        · have b0 : (wr != 0) = true := by simp [h0]
          by_cases h1 : ls = 0
          · have k1 := G1.out h1
            have b1 : (ls != 0) = false := by simp [h1]
            have c1 : (ev == 0) = true := by simp [k1]
            clear k1
            by_cases h2 : ev = 0
            · have k2 := G2.out h2
              have b2 : (ev != 0) = false := by simp [h2]
              have c2 : (bt == 0) = true := by simp [k2]
              clear k2
              by_cases h3 : st = 0
              · have k3 := G3.out h3
                have b3 : (st != 0) = false := by simp [h3]
                have c3 : (ml == 0) = true := by simp [k3]
                clear k3
                go_wp2
                go_ret
                exact ⟨rfl, B308.out⟩
              · have b3 : (st != 0) = true := by simp [h3]
                go_wp2
                go_ret
                exact ⟨rfl, B308.out⟩
            · have b2 : (ev != 0) = true := by simp [h2]
              by_cases h3 : st = 0
              · have k3 := G3.out h3
                have b3 : (st != 0) = false := by simp [h3]
                have c3 : (ml == 0) = true := by simp [k3]
                clear k3
                go_wp2
                go_ret
                exact ⟨rfl, B308.out⟩
              · have b3 : (st != 0) = true := by simp [h3]
                go_wp2
                go_ret
                exact ⟨rfl, B308.out⟩
          · have b1 : (ls != 0) = true := by simp [h1]
            by_cases h2 : ev = 0
            · have k2 := G2.out h2
              have b2 : (ev != 0) = false := by simp [h2]
              have c2 : (bt == 0) = true := by simp [k2]
              clear k2
              by_cases h3 : st = 0
              · have k3 := G3.out h3
                have b3 : (st != 0) = false := by simp [h3]
                have c3 : (ml == 0) = true := by simp [k3]
                clear k3
                go_wp2
                go_ret
                exact ⟨rfl, B308.out⟩
              · have b3 : (st != 0) = true := by simp [h3]
                go_wp2
                go_ret
                exact ⟨rfl, B308.out⟩
            · have b2 : (ev != 0) = true := by simp [h2]
              by_cases h3 : st = 0
              · have k3 := G3.out h3
                have b3 : (st != 0) = false := by simp [h3]
                have c3 : (ml == 0) = true := by simp [k3]
                clear k3
                go_wp2
                go_ret
                exact ⟨rfl, B308.out⟩
              · have b3 : (st != 0) = true := by simp [h3]
                go_wp2
                go_ret
                exact ⟨rfl, B308.out⟩
end Kp
end Go.Proofs.YtgmjmkkhoibbcaaDoor
