/- The walk over the law that holds package keep against the document's answer. Conditions: the contracts of package keep; the lot's stays read as such. -/
import Derived.Test.YtgmjmkkhoibbcaaDoorKpL1
import Derived.Test.YtgmjmkkhoibbcaaDoorKp1
import Derived.Test.YtgmjmkkhoibbcaaDoorLo2
import Derived.Test.YtgmjmkkhoibbcaaDoorRng
namespace Go.Proofs.YtgmjmkkhoibbcaaDoor
open Go.RowKit Lo

namespace Kp
/-- A lot is the same as itself, wherever its stays lie. -/
theorem one_told (A : Lv) (q : Option Addr) (d : Nat) (w : World) (h1 : St w (re A q d)) (h : St w A) (hn : A.n ≤ 1000000) : Calls Tryd.prog 16 #[lval (re A q d), lval A] w fun e w' => e = .returned (.bool true) ∧ Below w.heap.size w w' :=
  (rone_any (re A q d) A w h1 h hn).mono fun e w' ⟨he, hb⟩ => ⟨by rw [he]; simp [re], hb⟩
set_option maxRecDepth 100000 in
set_option maxHeartbeats 16000000 in
theorem ktells_long (I : Face) (p : Ms.Pd) (y : Lv) (t0 t1 t2 : Int) (w : World) (hR : I.R w) (hn : 60 < y.n) : Calls Tryd.prog 3 #[Ms.pval p, lval y, .agg #[.int .i64 t0, .int .i64 t1, .int .i64 t2]] w fun e w' => e = .returned (.bool true) ∧ Below w.heap.size w w' := by
  have AL := Lib.hid (fun W (hW : Below w.heap.size w W) => kalive_any I W (I.on hR hW))
  obtain ⟨a, b, c⟩ := p
  obtain ⟨⟨j1, j2, j3, j4, j5, j6, j7, jS⟩, jq, jN, jd⟩ := y
  simp only [Ms.pval, lval] at hn ⊢
  have hn1 : decide (((jN : Nat) : Int) > 60) = true := by simp; omega
  clear hR hn
  obtain ⟨w0, h0, B0, X0, Y0, T0⟩ := boxes3 w #[.int .i64 a, .int .i64 b, .int .i64 c] #[.int .i64 j1, .int .i64 j2, .int .i64 j3, .int .i64 j4, .int .i64 j5, .int .i64 j6, .int .i64 j7, .slice jq jN jd] #[.int .i64 t0, .int .i64 t1, .int .i64 t2] 23 27 28
  rw [← h0] at B0 X0 Y0 T0
  clear h0
  have y7_ : (((w.alloc (.cells #[.int .i64 a, .int .i64 b, .int .i64 c] 23)).alloc (.cells #[.int .i64 j1, .int .i64 j2, .int .i64 j3, .int .i64 j4, .int .i64 j5, .int .i64 j6, .int .i64 j7, .slice jq jN jd] 27)).alloc (.cells #[.int .i64 t0, .int .i64 t1, .int .i64 t2] 28)).cell? ⟨w.heap.size + 1, 7, none⟩ = some (.slice jq jN jd) := Y0.out.cell 7
  go_enter Tryd.func3, Tryd.ntmps3
  go_wp2_with fail
  refine (AL.out _ B0.out).mono ?_
  rintro e w1 ⟨rfl, hb⟩
  have B1 := Lib.hid (B0.out.trans (hb.mono B0.out.size))
  have X1 := Lib.hid (X0.out.below hb X0.out.lt)
  have Y1 := Lib.hid (Y0.out.below hb Y0.out.lt)
  have T1 := Lib.hid (T0.out.below hb T0.out.lt)
  clear hb  y7_ X0 Y0 T0 B0
  go_wp2
  go_ret
  exact ⟨rfl, B1.out⟩
set_option maxRecDepth 100000 in
set_option maxHeartbeats 16000000 in
theorem ktells_short (I : Face) (p : Ms.Pd) (y : Lv) (t0 t1 t2 : Int) (w : World) (hR : I.R w) (hS : St w y) (hn : y.n ≤ 60) : Calls Tryd.prog 3 #[Ms.pval p, lval y, .agg #[.int .i64 t0, .int .i64 t1, .int .i64 t2]] w fun e w' => e = .returned (.bool true) ∧ Below w.heap.size w w' := by
  have hn6 : y.n ≤ 1000000 := by omega
  have AL := Lib.hid (fun W (hW : Below w.heap.size w W) => kalive_any I W (I.on hR hW))
  have C0 := Lib.hid (fun W (hW : Below w.heap.size w W) => I.judge p y t0 W (I.on hR hW) (hS.keep hW) hn6)
  have R0 := Lib.hid (fun W => r14judge_any p y t0 W)
  have O0 := Lib.hid (fun q d W (hW : Below w.heap.size w W) (hs : St W (re (judgeL p y t0).1 q d)) => one_told (judgeL p y t0).1 q d W hs (St.keep (st_judge hS p t0) hW) (Nat.le_trans (n_judge p y t0) (by omega)))
  have C1 := Lib.hid (fun W (hW : Below w.heap.size w W) => I.rel p y t0 W (I.on hR hW) (hS.keep hW) hn6)
  have R1 := Lib.hid (fun W => r14rel_any p y t0 W)
  have O1 := Lib.hid (fun q d W (hW : Below w.heap.size w W) (hs : St W (re (relL p y t0).1 q d)) => one_told (relL p y t0).1 q d W hs (St.keep (st_rel hS p t0) hW) (Nat.le_trans (n_rel p y t0) (by omega)))
  have C2 := Lib.hid (fun W (hW : Below w.heap.size w W) => I.rev p y t0 t1 W (I.on hR hW) (hS.keep hW) hn6)
  have R2 := Lib.hid (fun W => r14rev_any p y t0 t1 W)
  have O2 := Lib.hid (fun q d W (hW : Below w.heap.size w W) (hs : St W (re (revL p y t0 t1).1 q d)) => one_told (revL p y t0 t1).1 q d W hs (St.keep (st_rev hS p t0 t1) hW) (Nat.le_trans (n_rev p y t0 t1) (by omega)))
  have C3 := Lib.hid (fun W (hW : Below w.heap.size w W) => I.hold y W (I.on hR hW) (hS.keep hW) hn6)
  have R3 := Lib.hid (fun W => r14hold_any y W)
  have O3 := Lib.hid (fun q d W (hW : Below w.heap.size w W) (hs : St W (re (holdL y).1 q d)) => one_told (holdL y).1 q d W hs (St.keep (st_hold hS ) hW) (Nat.le_trans (n_hold y) (by omega)))
  have C4 := Lib.hid (fun W (hW : Below w.heap.size w W) => I.rej y W (I.on hR hW) (hS.keep hW) hn6)
  have R4 := Lib.hid (fun W => r14rej_any y W)
  have O4 := Lib.hid (fun q d W (hW : Below w.heap.size w W) (hs : St W (re (rejL y).1 q d)) => one_told (rejL y).1 q d W hs (St.keep (st_rej hS ) hW) (Nat.le_trans (n_rej y) (by omega)))
  have CA := Lib.hid (fun W (hW : Below w.heap.size w W) => I.allow p y W (I.on hR hW))
  have RA := Lib.hid (fun W => r14allow_any p y W)
  have CM := Lib.hid (fun W (hW : Below w.heap.size w W) => I.may p y t0 t2 W (I.on hR hW))
  have RM := Lib.hid (fun W => r14may_any p y t0 t2 W)
  clear hR hS hn6
  generalize allow p y.x = al at *
  generalize mayL p y.x t0 t2 = ml at *
  generalize (judgeL p y t0).1 = L0 at *
  generalize (judgeL p y t0).2 = e0 at *
  generalize (relL p y t0).1 = L1 at *
  generalize (relL p y t0).2 = e1 at *
  generalize (revL p y t0 t1).1 = L2 at *
  generalize (revL p y t0 t1).2 = e2 at *
  generalize (holdL y).1 = L3 at *
  generalize (holdL y).2 = e3 at *
  generalize (rejL y).1 = L4 at *
  generalize (rejL y).2 = e4 at *
  obtain ⟨a, b, c⟩ := p
  obtain ⟨⟨j1, j2, j3, j4, j5, j6, j7, jS⟩, jq, jN, jd⟩ := y
  obtain ⟨⟨l1, l2, l3, l4, l5, l6, l7, lS⟩, lq, lN, ld⟩ := L0
  obtain ⟨⟨m1, m2, m3, m4, m5, m6, m7, mS⟩, mq, mN, md⟩ := L1
  obtain ⟨⟨o1, o2, o3, o4, o5, o6, o7, oS⟩, oq, oN, od⟩ := L2
  obtain ⟨⟨r1, r2, r3, r4, r5, r6, r7, rS⟩, rq, rN, rd⟩ := L3
  obtain ⟨⟨u1, u2, u3, u4, u5, u6, u7, uS⟩, uq, uN, ud⟩ := L4
  simp only [Ms.pval, lval, re] at C0 R0 O0 C1 R1 O1 C2 R2 O2 C3 R3 O3 C4 R4 O4 CA RA CM RM hn ⊢
  have hn1 : decide (((jN : Nat) : Int) > 60) = false := by simp; omega
  have q0 : (e0 != e0) = false := by cases e0 <;> rfl
  have q1 : (e1 != e1) = false := by simp
  have q2 : (e2 != e2) = false := by simp
  have q3 : (e3 != e3) = false := by simp
  have q4 : (e4 != e4) = false := by simp
  clear hn
  obtain ⟨w0, h0, B0, X0, Y0, T0⟩ := boxes3 w #[.int .i64 a, .int .i64 b, .int .i64 c] #[.int .i64 j1, .int .i64 j2, .int .i64 j3, .int .i64 j4, .int .i64 j5, .int .i64 j6, .int .i64 j7, .slice jq jN jd] #[.int .i64 t0, .int .i64 t1, .int .i64 t2] 23 27 28
  rw [← h0] at B0 X0 Y0 T0
  clear h0
  have x0_ : (((w.alloc (.cells #[.int .i64 a, .int .i64 b, .int .i64 c] 23)).alloc (.cells #[.int .i64 j1, .int .i64 j2, .int .i64 j3, .int .i64 j4, .int .i64 j5, .int .i64 j6, .int .i64 j7, .slice jq jN jd] 27)).alloc (.cells #[.int .i64 t0, .int .i64 t1, .int .i64 t2] 28)).cell? ⟨w.heap.size, 0, none⟩ = some (.int .i64 a) := X0.out.cell 0
  have x1_ : (((w.alloc (.cells #[.int .i64 a, .int .i64 b, .int .i64 c] 23)).alloc (.cells #[.int .i64 j1, .int .i64 j2, .int .i64 j3, .int .i64 j4, .int .i64 j5, .int .i64 j6, .int .i64 j7, .slice jq jN jd] 27)).alloc (.cells #[.int .i64 t0, .int .i64 t1, .int .i64 t2] 28)).cell? ⟨w.heap.size, 1, none⟩ = some (.int .i64 b) := X0.out.cell 1
  have x2_ : (((w.alloc (.cells #[.int .i64 a, .int .i64 b, .int .i64 c] 23)).alloc (.cells #[.int .i64 j1, .int .i64 j2, .int .i64 j3, .int .i64 j4, .int .i64 j5, .int .i64 j6, .int .i64 j7, .slice jq jN jd] 27)).alloc (.cells #[.int .i64 t0, .int .i64 t1, .int .i64 t2] 28)).cell? ⟨w.heap.size, 2, none⟩ = some (.int .i64 c) := X0.out.cell 2
  have y0_ : (((w.alloc (.cells #[.int .i64 a, .int .i64 b, .int .i64 c] 23)).alloc (.cells #[.int .i64 j1, .int .i64 j2, .int .i64 j3, .int .i64 j4, .int .i64 j5, .int .i64 j6, .int .i64 j7, .slice jq jN jd] 27)).alloc (.cells #[.int .i64 t0, .int .i64 t1, .int .i64 t2] 28)).cell? ⟨w.heap.size + 1, 0, none⟩ = some (.int .i64 j1) := Y0.out.cell 0
  have y1_ : (((w.alloc (.cells #[.int .i64 a, .int .i64 b, .int .i64 c] 23)).alloc (.cells #[.int .i64 j1, .int .i64 j2, .int .i64 j3, .int .i64 j4, .int .i64 j5, .int .i64 j6, .int .i64 j7, .slice jq jN jd] 27)).alloc (.cells #[.int .i64 t0, .int .i64 t1, .int .i64 t2] 28)).cell? ⟨w.heap.size + 1, 1, none⟩ = some (.int .i64 j2) := Y0.out.cell 1
  have y2_ : (((w.alloc (.cells #[.int .i64 a, .int .i64 b, .int .i64 c] 23)).alloc (.cells #[.int .i64 j1, .int .i64 j2, .int .i64 j3, .int .i64 j4, .int .i64 j5, .int .i64 j6, .int .i64 j7, .slice jq jN jd] 27)).alloc (.cells #[.int .i64 t0, .int .i64 t1, .int .i64 t2] 28)).cell? ⟨w.heap.size + 1, 2, none⟩ = some (.int .i64 j3) := Y0.out.cell 2
  have y3_ : (((w.alloc (.cells #[.int .i64 a, .int .i64 b, .int .i64 c] 23)).alloc (.cells #[.int .i64 j1, .int .i64 j2, .int .i64 j3, .int .i64 j4, .int .i64 j5, .int .i64 j6, .int .i64 j7, .slice jq jN jd] 27)).alloc (.cells #[.int .i64 t0, .int .i64 t1, .int .i64 t2] 28)).cell? ⟨w.heap.size + 1, 3, none⟩ = some (.int .i64 j4) := Y0.out.cell 3
  have y4_ : (((w.alloc (.cells #[.int .i64 a, .int .i64 b, .int .i64 c] 23)).alloc (.cells #[.int .i64 j1, .int .i64 j2, .int .i64 j3, .int .i64 j4, .int .i64 j5, .int .i64 j6, .int .i64 j7, .slice jq jN jd] 27)).alloc (.cells #[.int .i64 t0, .int .i64 t1, .int .i64 t2] 28)).cell? ⟨w.heap.size + 1, 4, none⟩ = some (.int .i64 j5) := Y0.out.cell 4
  have y5_ : (((w.alloc (.cells #[.int .i64 a, .int .i64 b, .int .i64 c] 23)).alloc (.cells #[.int .i64 j1, .int .i64 j2, .int .i64 j3, .int .i64 j4, .int .i64 j5, .int .i64 j6, .int .i64 j7, .slice jq jN jd] 27)).alloc (.cells #[.int .i64 t0, .int .i64 t1, .int .i64 t2] 28)).cell? ⟨w.heap.size + 1, 5, none⟩ = some (.int .i64 j6) := Y0.out.cell 5
  have y6_ : (((w.alloc (.cells #[.int .i64 a, .int .i64 b, .int .i64 c] 23)).alloc (.cells #[.int .i64 j1, .int .i64 j2, .int .i64 j3, .int .i64 j4, .int .i64 j5, .int .i64 j6, .int .i64 j7, .slice jq jN jd] 27)).alloc (.cells #[.int .i64 t0, .int .i64 t1, .int .i64 t2] 28)).cell? ⟨w.heap.size + 1, 6, none⟩ = some (.int .i64 j7) := Y0.out.cell 6
  have y7_ : (((w.alloc (.cells #[.int .i64 a, .int .i64 b, .int .i64 c] 23)).alloc (.cells #[.int .i64 j1, .int .i64 j2, .int .i64 j3, .int .i64 j4, .int .i64 j5, .int .i64 j6, .int .i64 j7, .slice jq jN jd] 27)).alloc (.cells #[.int .i64 t0, .int .i64 t1, .int .i64 t2] 28)).cell? ⟨w.heap.size + 1, 7, none⟩ = some (.slice jq jN jd) := Y0.out.cell 7
  have t0_ : (((w.alloc (.cells #[.int .i64 a, .int .i64 b, .int .i64 c] 23)).alloc (.cells #[.int .i64 j1, .int .i64 j2, .int .i64 j3, .int .i64 j4, .int .i64 j5, .int .i64 j6, .int .i64 j7, .slice jq jN jd] 27)).alloc (.cells #[.int .i64 t0, .int .i64 t1, .int .i64 t2] 28)).cell? ⟨w.heap.size + 2, 0, none⟩ = some (.int .i64 t0) := T0.out.cell 0
  go_enter Tryd.func3, Tryd.ntmps3
  go_wp2_with fail
  refine (C0.out _ B0.out).mono ?_
  rintro e w1 ⟨lx, ly, rfl, htl, hb⟩
  have Sl1 := Lib.hid htl.1
  have B1 := Lib.hid (B0.out.trans (hb.mono B0.out.size))
  have X1 := Lib.hid (X0.out.below hb X0.out.lt)
  have Y1 := Lib.hid (Y0.out.below hb Y0.out.lt)
  have T1 := Lib.hid (T0.out.below hb T0.out.lt)
  clear hb C0 hn1 x0_ x1_ x2_ y0_ y1_ y2_ y3_ y4_ y5_ y6_ y7_ t0_ X0 Y0 T0 B0 htl
  have B2 := Lib.hid (B1.out.alloc B1.out.size (.cells #[.int .i64 l1, .int .i64 l2, .int .i64 l3, .int .i64 l4, .int .i64 l5, .int .i64 l6, .int .i64 l7, .slice lx lN ly] 27))
  have X2 := Lib.hid (X1.out.alloc (.cells #[.int .i64 l1, .int .i64 l2, .int .i64 l3, .int .i64 l4, .int .i64 l5, .int .i64 l6, .int .i64 l7, .slice lx lN ly] 27))
  have Y2 := Lib.hid (Y1.out.alloc (.cells #[.int .i64 l1, .int .i64 l2, .int .i64 l3, .int .i64 l4, .int .i64 l5, .int .i64 l6, .int .i64 l7, .slice lx lN ly] 27))
  have T2 := Lib.hid (T1.out.alloc (.cells #[.int .i64 l1, .int .i64 l2, .int .i64 l3, .int .i64 l4, .int .i64 l5, .int .i64 l6, .int .i64 l7, .slice lx lN ly] 27))
  have A2 := Lib.hid (Lies.new w1 27 #[.int .i64 l1, .int .i64 l2, .int .i64 l3, .int .i64 l4, .int .i64 l5, .int .i64 l6, .int .i64 l7, .slice lx lN ly])
  have Sl2 := Lib.hid (Sl1.out.keep (alloc_below w1 (.cells #[.int .i64 l1, .int .i64 l2, .int .i64 l3, .int .i64 l4, .int .i64 l5, .int .i64 l6, .int .i64 l7, .slice lx lN ly] 27)))
  clear B1 X1 Y1 T1 Sl1
  have x0_ : (w1.alloc (.cells #[.int .i64 l1, .int .i64 l2, .int .i64 l3, .int .i64 l4, .int .i64 l5, .int .i64 l6, .int .i64 l7, .slice lx lN ly] 27)).cell? ⟨w.heap.size, 0, none⟩ = some (.int .i64 a) := X2.out.cell 0
  have x1_ : (w1.alloc (.cells #[.int .i64 l1, .int .i64 l2, .int .i64 l3, .int .i64 l4, .int .i64 l5, .int .i64 l6, .int .i64 l7, .slice lx lN ly] 27)).cell? ⟨w.heap.size, 1, none⟩ = some (.int .i64 b) := X2.out.cell 1
  have x2_ : (w1.alloc (.cells #[.int .i64 l1, .int .i64 l2, .int .i64 l3, .int .i64 l4, .int .i64 l5, .int .i64 l6, .int .i64 l7, .slice lx lN ly] 27)).cell? ⟨w.heap.size, 2, none⟩ = some (.int .i64 c) := X2.out.cell 2
  have y0_ : (w1.alloc (.cells #[.int .i64 l1, .int .i64 l2, .int .i64 l3, .int .i64 l4, .int .i64 l5, .int .i64 l6, .int .i64 l7, .slice lx lN ly] 27)).cell? ⟨w.heap.size + 1, 0, none⟩ = some (.int .i64 j1) := Y2.out.cell 0
  have y1_ : (w1.alloc (.cells #[.int .i64 l1, .int .i64 l2, .int .i64 l3, .int .i64 l4, .int .i64 l5, .int .i64 l6, .int .i64 l7, .slice lx lN ly] 27)).cell? ⟨w.heap.size + 1, 1, none⟩ = some (.int .i64 j2) := Y2.out.cell 1
  have y2_ : (w1.alloc (.cells #[.int .i64 l1, .int .i64 l2, .int .i64 l3, .int .i64 l4, .int .i64 l5, .int .i64 l6, .int .i64 l7, .slice lx lN ly] 27)).cell? ⟨w.heap.size + 1, 2, none⟩ = some (.int .i64 j3) := Y2.out.cell 2
  have y3_ : (w1.alloc (.cells #[.int .i64 l1, .int .i64 l2, .int .i64 l3, .int .i64 l4, .int .i64 l5, .int .i64 l6, .int .i64 l7, .slice lx lN ly] 27)).cell? ⟨w.heap.size + 1, 3, none⟩ = some (.int .i64 j4) := Y2.out.cell 3
  have y4_ : (w1.alloc (.cells #[.int .i64 l1, .int .i64 l2, .int .i64 l3, .int .i64 l4, .int .i64 l5, .int .i64 l6, .int .i64 l7, .slice lx lN ly] 27)).cell? ⟨w.heap.size + 1, 4, none⟩ = some (.int .i64 j5) := Y2.out.cell 4
  have y5_ : (w1.alloc (.cells #[.int .i64 l1, .int .i64 l2, .int .i64 l3, .int .i64 l4, .int .i64 l5, .int .i64 l6, .int .i64 l7, .slice lx lN ly] 27)).cell? ⟨w.heap.size + 1, 5, none⟩ = some (.int .i64 j6) := Y2.out.cell 5
  have y6_ : (w1.alloc (.cells #[.int .i64 l1, .int .i64 l2, .int .i64 l3, .int .i64 l4, .int .i64 l5, .int .i64 l6, .int .i64 l7, .slice lx lN ly] 27)).cell? ⟨w.heap.size + 1, 6, none⟩ = some (.int .i64 j7) := Y2.out.cell 6
  have y7_ : (w1.alloc (.cells #[.int .i64 l1, .int .i64 l2, .int .i64 l3, .int .i64 l4, .int .i64 l5, .int .i64 l6, .int .i64 l7, .slice lx lN ly] 27)).cell? ⟨w.heap.size + 1, 7, none⟩ = some (.slice jq jN jd) := Y2.out.cell 7
  have t0_ : (w1.alloc (.cells #[.int .i64 l1, .int .i64 l2, .int .i64 l3, .int .i64 l4, .int .i64 l5, .int .i64 l6, .int .i64 l7, .slice lx lN ly] 27)).cell? ⟨w.heap.size + 2, 0, none⟩ = some (.int .i64 t0) := T2.out.cell 0
  go_wp2_with fail
  refine (R0.out _).mono ?_
  rintro e w3 ⟨rfl, hb⟩
  have Sl3 := Lib.hid (Sl2.out.keep hb)
  have B3 := Lib.hid (B2.out.trans (hb.mono B2.out.size))
  have X3 := Lib.hid (X2.out.below hb X2.out.lt)
  have Y3 := Lib.hid (Y2.out.below hb Y2.out.lt)
  have T3 := Lib.hid (T2.out.below hb T2.out.lt)
  have A3 := Lib.hid (A2.out.below hb A2.out.lt)
  clear hb R0 x0_ x1_ x2_ y0_ y1_ y2_ y3_ y4_ y5_ y6_ y7_ t0_ X2 Y2 T2 A2 B2 Sl2
  have B4 := Lib.hid (B3.out.alloc B3.out.size (.cells #[.int .i64 l1, .int .i64 l2, .int .i64 l3, .int .i64 l4, .int .i64 l5, .int .i64 l6, .int .i64 l7, .slice lq lN ld] 27))
  have X4 := Lib.hid (X3.out.alloc (.cells #[.int .i64 l1, .int .i64 l2, .int .i64 l3, .int .i64 l4, .int .i64 l5, .int .i64 l6, .int .i64 l7, .slice lq lN ld] 27))
  have Y4 := Lib.hid (Y3.out.alloc (.cells #[.int .i64 l1, .int .i64 l2, .int .i64 l3, .int .i64 l4, .int .i64 l5, .int .i64 l6, .int .i64 l7, .slice lq lN ld] 27))
  have T4 := Lib.hid (T3.out.alloc (.cells #[.int .i64 l1, .int .i64 l2, .int .i64 l3, .int .i64 l4, .int .i64 l5, .int .i64 l6, .int .i64 l7, .slice lq lN ld] 27))
  have A4 := Lib.hid (A3.out.alloc (.cells #[.int .i64 l1, .int .i64 l2, .int .i64 l3, .int .i64 l4, .int .i64 l5, .int .i64 l6, .int .i64 l7, .slice lq lN ld] 27))
  have F4 := Lib.hid (Lies.new w3 27 #[.int .i64 l1, .int .i64 l2, .int .i64 l3, .int .i64 l4, .int .i64 l5, .int .i64 l6, .int .i64 l7, .slice lq lN ld])
  have Sl4 := Lib.hid (Sl3.out.keep (alloc_below w3 (.cells #[.int .i64 l1, .int .i64 l2, .int .i64 l3, .int .i64 l4, .int .i64 l5, .int .i64 l6, .int .i64 l7, .slice lq lN ld] 27)))
  clear B3 X3 Y3 T3 A3 Sl3
  have x0_ : (w3.alloc (.cells #[.int .i64 l1, .int .i64 l2, .int .i64 l3, .int .i64 l4, .int .i64 l5, .int .i64 l6, .int .i64 l7, .slice lq lN ld] 27)).cell? ⟨w.heap.size, 0, none⟩ = some (.int .i64 a) := X4.out.cell 0
  have x1_ : (w3.alloc (.cells #[.int .i64 l1, .int .i64 l2, .int .i64 l3, .int .i64 l4, .int .i64 l5, .int .i64 l6, .int .i64 l7, .slice lq lN ld] 27)).cell? ⟨w.heap.size, 1, none⟩ = some (.int .i64 b) := X4.out.cell 1
  have x2_ : (w3.alloc (.cells #[.int .i64 l1, .int .i64 l2, .int .i64 l3, .int .i64 l4, .int .i64 l5, .int .i64 l6, .int .i64 l7, .slice lq lN ld] 27)).cell? ⟨w.heap.size, 2, none⟩ = some (.int .i64 c) := X4.out.cell 2
  have y0_ : (w3.alloc (.cells #[.int .i64 l1, .int .i64 l2, .int .i64 l3, .int .i64 l4, .int .i64 l5, .int .i64 l6, .int .i64 l7, .slice lq lN ld] 27)).cell? ⟨w.heap.size + 1, 0, none⟩ = some (.int .i64 j1) := Y4.out.cell 0
  have y1_ : (w3.alloc (.cells #[.int .i64 l1, .int .i64 l2, .int .i64 l3, .int .i64 l4, .int .i64 l5, .int .i64 l6, .int .i64 l7, .slice lq lN ld] 27)).cell? ⟨w.heap.size + 1, 1, none⟩ = some (.int .i64 j2) := Y4.out.cell 1
  have y2_ : (w3.alloc (.cells #[.int .i64 l1, .int .i64 l2, .int .i64 l3, .int .i64 l4, .int .i64 l5, .int .i64 l6, .int .i64 l7, .slice lq lN ld] 27)).cell? ⟨w.heap.size + 1, 2, none⟩ = some (.int .i64 j3) := Y4.out.cell 2
  have y3_ : (w3.alloc (.cells #[.int .i64 l1, .int .i64 l2, .int .i64 l3, .int .i64 l4, .int .i64 l5, .int .i64 l6, .int .i64 l7, .slice lq lN ld] 27)).cell? ⟨w.heap.size + 1, 3, none⟩ = some (.int .i64 j4) := Y4.out.cell 3
  have y4_ : (w3.alloc (.cells #[.int .i64 l1, .int .i64 l2, .int .i64 l3, .int .i64 l4, .int .i64 l5, .int .i64 l6, .int .i64 l7, .slice lq lN ld] 27)).cell? ⟨w.heap.size + 1, 4, none⟩ = some (.int .i64 j5) := Y4.out.cell 4
  have y5_ : (w3.alloc (.cells #[.int .i64 l1, .int .i64 l2, .int .i64 l3, .int .i64 l4, .int .i64 l5, .int .i64 l6, .int .i64 l7, .slice lq lN ld] 27)).cell? ⟨w.heap.size + 1, 5, none⟩ = some (.int .i64 j6) := Y4.out.cell 5
  have y6_ : (w3.alloc (.cells #[.int .i64 l1, .int .i64 l2, .int .i64 l3, .int .i64 l4, .int .i64 l5, .int .i64 l6, .int .i64 l7, .slice lq lN ld] 27)).cell? ⟨w.heap.size + 1, 6, none⟩ = some (.int .i64 j7) := Y4.out.cell 6
  have y7_ : (w3.alloc (.cells #[.int .i64 l1, .int .i64 l2, .int .i64 l3, .int .i64 l4, .int .i64 l5, .int .i64 l6, .int .i64 l7, .slice lq lN ld] 27)).cell? ⟨w.heap.size + 1, 7, none⟩ = some (.slice jq jN jd) := Y4.out.cell 7
  have t0_ : (w3.alloc (.cells #[.int .i64 l1, .int .i64 l2, .int .i64 l3, .int .i64 l4, .int .i64 l5, .int .i64 l6, .int .i64 l7, .slice lq lN ld] 27)).cell? ⟨w.heap.size + 2, 0, none⟩ = some (.int .i64 t0) := T4.out.cell 0
  go_wp2_with fail
  refine (C1.out _ B4.out).mono ?_
  rintro e w5 ⟨mx, my, rfl, htm, hb⟩
  have Sl5 := Lib.hid (Sl4.out.keep hb)
  have Sm5 := Lib.hid htm.1
  have B5 := Lib.hid (B4.out.trans (hb.mono B4.out.size))
  have X5 := Lib.hid (X4.out.below hb X4.out.lt)
  have Y5 := Lib.hid (Y4.out.below hb Y4.out.lt)
  have T5 := Lib.hid (T4.out.below hb T4.out.lt)
  have A5 := Lib.hid (A4.out.below hb A4.out.lt)
  have F5 := Lib.hid (F4.out.below hb F4.out.lt)
  clear hb C1 x0_ x1_ x2_ y0_ y1_ y2_ y3_ y4_ y5_ y6_ y7_ t0_ X4 Y4 T4 A4 F4 B4 Sl4 htm
  have B6 := Lib.hid (B5.out.alloc B5.out.size (.cells #[.int .i64 m1, .int .i64 m2, .int .i64 m3, .int .i64 m4, .int .i64 m5, .int .i64 m6, .int .i64 m7, .slice mx mN my] 27))
  have X6 := Lib.hid (X5.out.alloc (.cells #[.int .i64 m1, .int .i64 m2, .int .i64 m3, .int .i64 m4, .int .i64 m5, .int .i64 m6, .int .i64 m7, .slice mx mN my] 27))
  have Y6 := Lib.hid (Y5.out.alloc (.cells #[.int .i64 m1, .int .i64 m2, .int .i64 m3, .int .i64 m4, .int .i64 m5, .int .i64 m6, .int .i64 m7, .slice mx mN my] 27))
  have T6 := Lib.hid (T5.out.alloc (.cells #[.int .i64 m1, .int .i64 m2, .int .i64 m3, .int .i64 m4, .int .i64 m5, .int .i64 m6, .int .i64 m7, .slice mx mN my] 27))
  have A6 := Lib.hid (A5.out.alloc (.cells #[.int .i64 m1, .int .i64 m2, .int .i64 m3, .int .i64 m4, .int .i64 m5, .int .i64 m6, .int .i64 m7, .slice mx mN my] 27))
  have F6 := Lib.hid (F5.out.alloc (.cells #[.int .i64 m1, .int .i64 m2, .int .i64 m3, .int .i64 m4, .int .i64 m5, .int .i64 m6, .int .i64 m7, .slice mx mN my] 27))
  have C6 := Lib.hid (Lies.new w5 27 #[.int .i64 m1, .int .i64 m2, .int .i64 m3, .int .i64 m4, .int .i64 m5, .int .i64 m6, .int .i64 m7, .slice mx mN my])
  have Sl6 := Lib.hid (Sl5.out.keep (alloc_below w5 (.cells #[.int .i64 m1, .int .i64 m2, .int .i64 m3, .int .i64 m4, .int .i64 m5, .int .i64 m6, .int .i64 m7, .slice mx mN my] 27)))
  have Sm6 := Lib.hid (Sm5.out.keep (alloc_below w5 (.cells #[.int .i64 m1, .int .i64 m2, .int .i64 m3, .int .i64 m4, .int .i64 m5, .int .i64 m6, .int .i64 m7, .slice mx mN my] 27)))
  clear B5 X5 Y5 T5 A5 F5 Sl5 Sm5
  have x0_ : (w5.alloc (.cells #[.int .i64 m1, .int .i64 m2, .int .i64 m3, .int .i64 m4, .int .i64 m5, .int .i64 m6, .int .i64 m7, .slice mx mN my] 27)).cell? ⟨w.heap.size, 0, none⟩ = some (.int .i64 a) := X6.out.cell 0
  have x1_ : (w5.alloc (.cells #[.int .i64 m1, .int .i64 m2, .int .i64 m3, .int .i64 m4, .int .i64 m5, .int .i64 m6, .int .i64 m7, .slice mx mN my] 27)).cell? ⟨w.heap.size, 1, none⟩ = some (.int .i64 b) := X6.out.cell 1
  have x2_ : (w5.alloc (.cells #[.int .i64 m1, .int .i64 m2, .int .i64 m3, .int .i64 m4, .int .i64 m5, .int .i64 m6, .int .i64 m7, .slice mx mN my] 27)).cell? ⟨w.heap.size, 2, none⟩ = some (.int .i64 c) := X6.out.cell 2
  have y0_ : (w5.alloc (.cells #[.int .i64 m1, .int .i64 m2, .int .i64 m3, .int .i64 m4, .int .i64 m5, .int .i64 m6, .int .i64 m7, .slice mx mN my] 27)).cell? ⟨w.heap.size + 1, 0, none⟩ = some (.int .i64 j1) := Y6.out.cell 0
  have y1_ : (w5.alloc (.cells #[.int .i64 m1, .int .i64 m2, .int .i64 m3, .int .i64 m4, .int .i64 m5, .int .i64 m6, .int .i64 m7, .slice mx mN my] 27)).cell? ⟨w.heap.size + 1, 1, none⟩ = some (.int .i64 j2) := Y6.out.cell 1
  have y2_ : (w5.alloc (.cells #[.int .i64 m1, .int .i64 m2, .int .i64 m3, .int .i64 m4, .int .i64 m5, .int .i64 m6, .int .i64 m7, .slice mx mN my] 27)).cell? ⟨w.heap.size + 1, 2, none⟩ = some (.int .i64 j3) := Y6.out.cell 2
  have y3_ : (w5.alloc (.cells #[.int .i64 m1, .int .i64 m2, .int .i64 m3, .int .i64 m4, .int .i64 m5, .int .i64 m6, .int .i64 m7, .slice mx mN my] 27)).cell? ⟨w.heap.size + 1, 3, none⟩ = some (.int .i64 j4) := Y6.out.cell 3
  have y4_ : (w5.alloc (.cells #[.int .i64 m1, .int .i64 m2, .int .i64 m3, .int .i64 m4, .int .i64 m5, .int .i64 m6, .int .i64 m7, .slice mx mN my] 27)).cell? ⟨w.heap.size + 1, 4, none⟩ = some (.int .i64 j5) := Y6.out.cell 4
  have y5_ : (w5.alloc (.cells #[.int .i64 m1, .int .i64 m2, .int .i64 m3, .int .i64 m4, .int .i64 m5, .int .i64 m6, .int .i64 m7, .slice mx mN my] 27)).cell? ⟨w.heap.size + 1, 5, none⟩ = some (.int .i64 j6) := Y6.out.cell 5
  have y6_ : (w5.alloc (.cells #[.int .i64 m1, .int .i64 m2, .int .i64 m3, .int .i64 m4, .int .i64 m5, .int .i64 m6, .int .i64 m7, .slice mx mN my] 27)).cell? ⟨w.heap.size + 1, 6, none⟩ = some (.int .i64 j7) := Y6.out.cell 6
  have y7_ : (w5.alloc (.cells #[.int .i64 m1, .int .i64 m2, .int .i64 m3, .int .i64 m4, .int .i64 m5, .int .i64 m6, .int .i64 m7, .slice mx mN my] 27)).cell? ⟨w.heap.size + 1, 7, none⟩ = some (.slice jq jN jd) := Y6.out.cell 7
  have t0_ : (w5.alloc (.cells #[.int .i64 m1, .int .i64 m2, .int .i64 m3, .int .i64 m4, .int .i64 m5, .int .i64 m6, .int .i64 m7, .slice mx mN my] 27)).cell? ⟨w.heap.size + 2, 0, none⟩ = some (.int .i64 t0) := T6.out.cell 0
  go_wp2_with fail
  refine (R1.out _).mono ?_
  rintro e w7 ⟨rfl, hb⟩
  have Sl7 := Lib.hid (Sl6.out.keep hb)
  have Sm7 := Lib.hid (Sm6.out.keep hb)
  have B7 := Lib.hid (B6.out.trans (hb.mono B6.out.size))
  have X7 := Lib.hid (X6.out.below hb X6.out.lt)
  have Y7 := Lib.hid (Y6.out.below hb Y6.out.lt)
  have T7 := Lib.hid (T6.out.below hb T6.out.lt)
  have A7 := Lib.hid (A6.out.below hb A6.out.lt)
  have F7 := Lib.hid (F6.out.below hb F6.out.lt)
  have C7 := Lib.hid (C6.out.below hb C6.out.lt)
  clear hb R1 x0_ x1_ x2_ y0_ y1_ y2_ y3_ y4_ y5_ y6_ y7_ t0_ X6 Y6 T6 A6 F6 C6 B6 Sl6 Sm6
  have B8 := Lib.hid (B7.out.alloc B7.out.size (.cells #[.int .i64 m1, .int .i64 m2, .int .i64 m3, .int .i64 m4, .int .i64 m5, .int .i64 m6, .int .i64 m7, .slice mq mN md] 27))
  have X8 := Lib.hid (X7.out.alloc (.cells #[.int .i64 m1, .int .i64 m2, .int .i64 m3, .int .i64 m4, .int .i64 m5, .int .i64 m6, .int .i64 m7, .slice mq mN md] 27))
  have Y8 := Lib.hid (Y7.out.alloc (.cells #[.int .i64 m1, .int .i64 m2, .int .i64 m3, .int .i64 m4, .int .i64 m5, .int .i64 m6, .int .i64 m7, .slice mq mN md] 27))
  have T8 := Lib.hid (T7.out.alloc (.cells #[.int .i64 m1, .int .i64 m2, .int .i64 m3, .int .i64 m4, .int .i64 m5, .int .i64 m6, .int .i64 m7, .slice mq mN md] 27))
  have A8 := Lib.hid (A7.out.alloc (.cells #[.int .i64 m1, .int .i64 m2, .int .i64 m3, .int .i64 m4, .int .i64 m5, .int .i64 m6, .int .i64 m7, .slice mq mN md] 27))
  have F8 := Lib.hid (F7.out.alloc (.cells #[.int .i64 m1, .int .i64 m2, .int .i64 m3, .int .i64 m4, .int .i64 m5, .int .i64 m6, .int .i64 m7, .slice mq mN md] 27))
  have C8 := Lib.hid (C7.out.alloc (.cells #[.int .i64 m1, .int .i64 m2, .int .i64 m3, .int .i64 m4, .int .i64 m5, .int .i64 m6, .int .i64 m7, .slice mq mN md] 27))
  have D8 := Lib.hid (Lies.new w7 27 #[.int .i64 m1, .int .i64 m2, .int .i64 m3, .int .i64 m4, .int .i64 m5, .int .i64 m6, .int .i64 m7, .slice mq mN md])
  have Sl8 := Lib.hid (Sl7.out.keep (alloc_below w7 (.cells #[.int .i64 m1, .int .i64 m2, .int .i64 m3, .int .i64 m4, .int .i64 m5, .int .i64 m6, .int .i64 m7, .slice mq mN md] 27)))
  have Sm8 := Lib.hid (Sm7.out.keep (alloc_below w7 (.cells #[.int .i64 m1, .int .i64 m2, .int .i64 m3, .int .i64 m4, .int .i64 m5, .int .i64 m6, .int .i64 m7, .slice mq mN md] 27)))
  clear B7 X7 Y7 T7 A7 F7 C7 Sl7 Sm7
  have x0_ : (w7.alloc (.cells #[.int .i64 m1, .int .i64 m2, .int .i64 m3, .int .i64 m4, .int .i64 m5, .int .i64 m6, .int .i64 m7, .slice mq mN md] 27)).cell? ⟨w.heap.size, 0, none⟩ = some (.int .i64 a) := X8.out.cell 0
  have x1_ : (w7.alloc (.cells #[.int .i64 m1, .int .i64 m2, .int .i64 m3, .int .i64 m4, .int .i64 m5, .int .i64 m6, .int .i64 m7, .slice mq mN md] 27)).cell? ⟨w.heap.size, 1, none⟩ = some (.int .i64 b) := X8.out.cell 1
  have x2_ : (w7.alloc (.cells #[.int .i64 m1, .int .i64 m2, .int .i64 m3, .int .i64 m4, .int .i64 m5, .int .i64 m6, .int .i64 m7, .slice mq mN md] 27)).cell? ⟨w.heap.size, 2, none⟩ = some (.int .i64 c) := X8.out.cell 2
  have y0_ : (w7.alloc (.cells #[.int .i64 m1, .int .i64 m2, .int .i64 m3, .int .i64 m4, .int .i64 m5, .int .i64 m6, .int .i64 m7, .slice mq mN md] 27)).cell? ⟨w.heap.size + 1, 0, none⟩ = some (.int .i64 j1) := Y8.out.cell 0
  have y1_ : (w7.alloc (.cells #[.int .i64 m1, .int .i64 m2, .int .i64 m3, .int .i64 m4, .int .i64 m5, .int .i64 m6, .int .i64 m7, .slice mq mN md] 27)).cell? ⟨w.heap.size + 1, 1, none⟩ = some (.int .i64 j2) := Y8.out.cell 1
  have y2_ : (w7.alloc (.cells #[.int .i64 m1, .int .i64 m2, .int .i64 m3, .int .i64 m4, .int .i64 m5, .int .i64 m6, .int .i64 m7, .slice mq mN md] 27)).cell? ⟨w.heap.size + 1, 2, none⟩ = some (.int .i64 j3) := Y8.out.cell 2
  have y3_ : (w7.alloc (.cells #[.int .i64 m1, .int .i64 m2, .int .i64 m3, .int .i64 m4, .int .i64 m5, .int .i64 m6, .int .i64 m7, .slice mq mN md] 27)).cell? ⟨w.heap.size + 1, 3, none⟩ = some (.int .i64 j4) := Y8.out.cell 3
  have y4_ : (w7.alloc (.cells #[.int .i64 m1, .int .i64 m2, .int .i64 m3, .int .i64 m4, .int .i64 m5, .int .i64 m6, .int .i64 m7, .slice mq mN md] 27)).cell? ⟨w.heap.size + 1, 4, none⟩ = some (.int .i64 j5) := Y8.out.cell 4
  have y5_ : (w7.alloc (.cells #[.int .i64 m1, .int .i64 m2, .int .i64 m3, .int .i64 m4, .int .i64 m5, .int .i64 m6, .int .i64 m7, .slice mq mN md] 27)).cell? ⟨w.heap.size + 1, 5, none⟩ = some (.int .i64 j6) := Y8.out.cell 5
  have y6_ : (w7.alloc (.cells #[.int .i64 m1, .int .i64 m2, .int .i64 m3, .int .i64 m4, .int .i64 m5, .int .i64 m6, .int .i64 m7, .slice mq mN md] 27)).cell? ⟨w.heap.size + 1, 6, none⟩ = some (.int .i64 j7) := Y8.out.cell 6
  have y7_ : (w7.alloc (.cells #[.int .i64 m1, .int .i64 m2, .int .i64 m3, .int .i64 m4, .int .i64 m5, .int .i64 m6, .int .i64 m7, .slice mq mN md] 27)).cell? ⟨w.heap.size + 1, 7, none⟩ = some (.slice jq jN jd) := Y8.out.cell 7
  have t0_ : (w7.alloc (.cells #[.int .i64 m1, .int .i64 m2, .int .i64 m3, .int .i64 m4, .int .i64 m5, .int .i64 m6, .int .i64 m7, .slice mq mN md] 27)).cell? ⟨w.heap.size + 2, 0, none⟩ = some (.int .i64 t0) := T8.out.cell 0
  have t1_ : (w7.alloc (.cells #[.int .i64 m1, .int .i64 m2, .int .i64 m3, .int .i64 m4, .int .i64 m5, .int .i64 m6, .int .i64 m7, .slice mq mN md] 27)).cell? ⟨w.heap.size + 2, 1, none⟩ = some (.int .i64 t1) := T8.out.cell 1
  go_wp2_with fail
  refine (C2.out _ B8.out).mono ?_
  rintro e w9 ⟨ox, oy, rfl, hto, hb⟩
  have Sl9 := Lib.hid (Sl8.out.keep hb)
  have Sm9 := Lib.hid (Sm8.out.keep hb)
  have So9 := Lib.hid hto.1
  have B9 := Lib.hid (B8.out.trans (hb.mono B8.out.size))
  have X9 := Lib.hid (X8.out.below hb X8.out.lt)
  have Y9 := Lib.hid (Y8.out.below hb Y8.out.lt)
  have T9 := Lib.hid (T8.out.below hb T8.out.lt)
  have A9 := Lib.hid (A8.out.below hb A8.out.lt)
  have F9 := Lib.hid (F8.out.below hb F8.out.lt)
  have C9 := Lib.hid (C8.out.below hb C8.out.lt)
  have D9 := Lib.hid (D8.out.below hb D8.out.lt)
  clear hb C2 x0_ x1_ x2_ y0_ y1_ y2_ y3_ y4_ y5_ y6_ y7_ t0_ t1_ X8 Y8 T8 A8 F8 C8 D8 B8 Sl8 Sm8 hto
  have B10 := Lib.hid (B9.out.alloc B9.out.size (.cells #[.int .i64 o1, .int .i64 o2, .int .i64 o3, .int .i64 o4, .int .i64 o5, .int .i64 o6, .int .i64 o7, .slice ox oN oy] 27))
  have X10 := Lib.hid (X9.out.alloc (.cells #[.int .i64 o1, .int .i64 o2, .int .i64 o3, .int .i64 o4, .int .i64 o5, .int .i64 o6, .int .i64 o7, .slice ox oN oy] 27))
  have Y10 := Lib.hid (Y9.out.alloc (.cells #[.int .i64 o1, .int .i64 o2, .int .i64 o3, .int .i64 o4, .int .i64 o5, .int .i64 o6, .int .i64 o7, .slice ox oN oy] 27))
  have T10 := Lib.hid (T9.out.alloc (.cells #[.int .i64 o1, .int .i64 o2, .int .i64 o3, .int .i64 o4, .int .i64 o5, .int .i64 o6, .int .i64 o7, .slice ox oN oy] 27))
  have A10 := Lib.hid (A9.out.alloc (.cells #[.int .i64 o1, .int .i64 o2, .int .i64 o3, .int .i64 o4, .int .i64 o5, .int .i64 o6, .int .i64 o7, .slice ox oN oy] 27))
  have F10 := Lib.hid (F9.out.alloc (.cells #[.int .i64 o1, .int .i64 o2, .int .i64 o3, .int .i64 o4, .int .i64 o5, .int .i64 o6, .int .i64 o7, .slice ox oN oy] 27))
  have C10 := Lib.hid (C9.out.alloc (.cells #[.int .i64 o1, .int .i64 o2, .int .i64 o3, .int .i64 o4, .int .i64 o5, .int .i64 o6, .int .i64 o7, .slice ox oN oy] 27))
  have D10 := Lib.hid (D9.out.alloc (.cells #[.int .i64 o1, .int .i64 o2, .int .i64 o3, .int .i64 o4, .int .i64 o5, .int .i64 o6, .int .i64 o7, .slice ox oN oy] 27))
  have G10 := Lib.hid (Lies.new w9 27 #[.int .i64 o1, .int .i64 o2, .int .i64 o3, .int .i64 o4, .int .i64 o5, .int .i64 o6, .int .i64 o7, .slice ox oN oy])
  have Sl10 := Lib.hid (Sl9.out.keep (alloc_below w9 (.cells #[.int .i64 o1, .int .i64 o2, .int .i64 o3, .int .i64 o4, .int .i64 o5, .int .i64 o6, .int .i64 o7, .slice ox oN oy] 27)))
  have Sm10 := Lib.hid (Sm9.out.keep (alloc_below w9 (.cells #[.int .i64 o1, .int .i64 o2, .int .i64 o3, .int .i64 o4, .int .i64 o5, .int .i64 o6, .int .i64 o7, .slice ox oN oy] 27)))
  have So10 := Lib.hid (So9.out.keep (alloc_below w9 (.cells #[.int .i64 o1, .int .i64 o2, .int .i64 o3, .int .i64 o4, .int .i64 o5, .int .i64 o6, .int .i64 o7, .slice ox oN oy] 27)))
  clear B9 X9 Y9 T9 A9 F9 C9 D9 Sl9 Sm9 So9
  have x0_ : (w9.alloc (.cells #[.int .i64 o1, .int .i64 o2, .int .i64 o3, .int .i64 o4, .int .i64 o5, .int .i64 o6, .int .i64 o7, .slice ox oN oy] 27)).cell? ⟨w.heap.size, 0, none⟩ = some (.int .i64 a) := X10.out.cell 0
  have x1_ : (w9.alloc (.cells #[.int .i64 o1, .int .i64 o2, .int .i64 o3, .int .i64 o4, .int .i64 o5, .int .i64 o6, .int .i64 o7, .slice ox oN oy] 27)).cell? ⟨w.heap.size, 1, none⟩ = some (.int .i64 b) := X10.out.cell 1
  have x2_ : (w9.alloc (.cells #[.int .i64 o1, .int .i64 o2, .int .i64 o3, .int .i64 o4, .int .i64 o5, .int .i64 o6, .int .i64 o7, .slice ox oN oy] 27)).cell? ⟨w.heap.size, 2, none⟩ = some (.int .i64 c) := X10.out.cell 2
  have y0_ : (w9.alloc (.cells #[.int .i64 o1, .int .i64 o2, .int .i64 o3, .int .i64 o4, .int .i64 o5, .int .i64 o6, .int .i64 o7, .slice ox oN oy] 27)).cell? ⟨w.heap.size + 1, 0, none⟩ = some (.int .i64 j1) := Y10.out.cell 0
  have y1_ : (w9.alloc (.cells #[.int .i64 o1, .int .i64 o2, .int .i64 o3, .int .i64 o4, .int .i64 o5, .int .i64 o6, .int .i64 o7, .slice ox oN oy] 27)).cell? ⟨w.heap.size + 1, 1, none⟩ = some (.int .i64 j2) := Y10.out.cell 1
  have y2_ : (w9.alloc (.cells #[.int .i64 o1, .int .i64 o2, .int .i64 o3, .int .i64 o4, .int .i64 o5, .int .i64 o6, .int .i64 o7, .slice ox oN oy] 27)).cell? ⟨w.heap.size + 1, 2, none⟩ = some (.int .i64 j3) := Y10.out.cell 2
  have y3_ : (w9.alloc (.cells #[.int .i64 o1, .int .i64 o2, .int .i64 o3, .int .i64 o4, .int .i64 o5, .int .i64 o6, .int .i64 o7, .slice ox oN oy] 27)).cell? ⟨w.heap.size + 1, 3, none⟩ = some (.int .i64 j4) := Y10.out.cell 3
  have y4_ : (w9.alloc (.cells #[.int .i64 o1, .int .i64 o2, .int .i64 o3, .int .i64 o4, .int .i64 o5, .int .i64 o6, .int .i64 o7, .slice ox oN oy] 27)).cell? ⟨w.heap.size + 1, 4, none⟩ = some (.int .i64 j5) := Y10.out.cell 4
  have y5_ : (w9.alloc (.cells #[.int .i64 o1, .int .i64 o2, .int .i64 o3, .int .i64 o4, .int .i64 o5, .int .i64 o6, .int .i64 o7, .slice ox oN oy] 27)).cell? ⟨w.heap.size + 1, 5, none⟩ = some (.int .i64 j6) := Y10.out.cell 5
  have y6_ : (w9.alloc (.cells #[.int .i64 o1, .int .i64 o2, .int .i64 o3, .int .i64 o4, .int .i64 o5, .int .i64 o6, .int .i64 o7, .slice ox oN oy] 27)).cell? ⟨w.heap.size + 1, 6, none⟩ = some (.int .i64 j7) := Y10.out.cell 6
  have y7_ : (w9.alloc (.cells #[.int .i64 o1, .int .i64 o2, .int .i64 o3, .int .i64 o4, .int .i64 o5, .int .i64 o6, .int .i64 o7, .slice ox oN oy] 27)).cell? ⟨w.heap.size + 1, 7, none⟩ = some (.slice jq jN jd) := Y10.out.cell 7
  have t0_ : (w9.alloc (.cells #[.int .i64 o1, .int .i64 o2, .int .i64 o3, .int .i64 o4, .int .i64 o5, .int .i64 o6, .int .i64 o7, .slice ox oN oy] 27)).cell? ⟨w.heap.size + 2, 0, none⟩ = some (.int .i64 t0) := T10.out.cell 0
  have t1_ : (w9.alloc (.cells #[.int .i64 o1, .int .i64 o2, .int .i64 o3, .int .i64 o4, .int .i64 o5, .int .i64 o6, .int .i64 o7, .slice ox oN oy] 27)).cell? ⟨w.heap.size + 2, 1, none⟩ = some (.int .i64 t1) := T10.out.cell 1
  go_wp2_with fail
  refine (R2.out _).mono ?_
  rintro e w11 ⟨rfl, hb⟩
  have Sl11 := Lib.hid (Sl10.out.keep hb)
  have Sm11 := Lib.hid (Sm10.out.keep hb)
  have So11 := Lib.hid (So10.out.keep hb)
  have B11 := Lib.hid (B10.out.trans (hb.mono B10.out.size))
  have X11 := Lib.hid (X10.out.below hb X10.out.lt)
  have Y11 := Lib.hid (Y10.out.below hb Y10.out.lt)
  have T11 := Lib.hid (T10.out.below hb T10.out.lt)
  have A11 := Lib.hid (A10.out.below hb A10.out.lt)
  have F11 := Lib.hid (F10.out.below hb F10.out.lt)
  have C11 := Lib.hid (C10.out.below hb C10.out.lt)
  have D11 := Lib.hid (D10.out.below hb D10.out.lt)
  have G11 := Lib.hid (G10.out.below hb G10.out.lt)
  clear hb R2 x0_ x1_ x2_ y0_ y1_ y2_ y3_ y4_ y5_ y6_ y7_ t0_ t1_ X10 Y10 T10 A10 F10 C10 D10 G10 B10 Sl10 Sm10 So10
  have B12 := Lib.hid (B11.out.alloc B11.out.size (.cells #[.int .i64 o1, .int .i64 o2, .int .i64 o3, .int .i64 o4, .int .i64 o5, .int .i64 o6, .int .i64 o7, .slice oq oN od] 27))
  have X12 := Lib.hid (X11.out.alloc (.cells #[.int .i64 o1, .int .i64 o2, .int .i64 o3, .int .i64 o4, .int .i64 o5, .int .i64 o6, .int .i64 o7, .slice oq oN od] 27))
  have Y12 := Lib.hid (Y11.out.alloc (.cells #[.int .i64 o1, .int .i64 o2, .int .i64 o3, .int .i64 o4, .int .i64 o5, .int .i64 o6, .int .i64 o7, .slice oq oN od] 27))
  have T12 := Lib.hid (T11.out.alloc (.cells #[.int .i64 o1, .int .i64 o2, .int .i64 o3, .int .i64 o4, .int .i64 o5, .int .i64 o6, .int .i64 o7, .slice oq oN od] 27))
  have A12 := Lib.hid (A11.out.alloc (.cells #[.int .i64 o1, .int .i64 o2, .int .i64 o3, .int .i64 o4, .int .i64 o5, .int .i64 o6, .int .i64 o7, .slice oq oN od] 27))
  have F12 := Lib.hid (F11.out.alloc (.cells #[.int .i64 o1, .int .i64 o2, .int .i64 o3, .int .i64 o4, .int .i64 o5, .int .i64 o6, .int .i64 o7, .slice oq oN od] 27))
  have C12 := Lib.hid (C11.out.alloc (.cells #[.int .i64 o1, .int .i64 o2, .int .i64 o3, .int .i64 o4, .int .i64 o5, .int .i64 o6, .int .i64 o7, .slice oq oN od] 27))
  have D12 := Lib.hid (D11.out.alloc (.cells #[.int .i64 o1, .int .i64 o2, .int .i64 o3, .int .i64 o4, .int .i64 o5, .int .i64 o6, .int .i64 o7, .slice oq oN od] 27))
  have G12 := Lib.hid (G11.out.alloc (.cells #[.int .i64 o1, .int .i64 o2, .int .i64 o3, .int .i64 o4, .int .i64 o5, .int .i64 o6, .int .i64 o7, .slice oq oN od] 27))
  have H12 := Lib.hid (Lies.new w11 27 #[.int .i64 o1, .int .i64 o2, .int .i64 o3, .int .i64 o4, .int .i64 o5, .int .i64 o6, .int .i64 o7, .slice oq oN od])
  have Sl12 := Lib.hid (Sl11.out.keep (alloc_below w11 (.cells #[.int .i64 o1, .int .i64 o2, .int .i64 o3, .int .i64 o4, .int .i64 o5, .int .i64 o6, .int .i64 o7, .slice oq oN od] 27)))
  have Sm12 := Lib.hid (Sm11.out.keep (alloc_below w11 (.cells #[.int .i64 o1, .int .i64 o2, .int .i64 o3, .int .i64 o4, .int .i64 o5, .int .i64 o6, .int .i64 o7, .slice oq oN od] 27)))
  have So12 := Lib.hid (So11.out.keep (alloc_below w11 (.cells #[.int .i64 o1, .int .i64 o2, .int .i64 o3, .int .i64 o4, .int .i64 o5, .int .i64 o6, .int .i64 o7, .slice oq oN od] 27)))
  clear B11 X11 Y11 T11 A11 F11 C11 D11 G11 Sl11 Sm11 So11
  have y0_ : (w11.alloc (.cells #[.int .i64 o1, .int .i64 o2, .int .i64 o3, .int .i64 o4, .int .i64 o5, .int .i64 o6, .int .i64 o7, .slice oq oN od] 27)).cell? ⟨w.heap.size + 1, 0, none⟩ = some (.int .i64 j1) := Y12.out.cell 0
  have y1_ : (w11.alloc (.cells #[.int .i64 o1, .int .i64 o2, .int .i64 o3, .int .i64 o4, .int .i64 o5, .int .i64 o6, .int .i64 o7, .slice oq oN od] 27)).cell? ⟨w.heap.size + 1, 1, none⟩ = some (.int .i64 j2) := Y12.out.cell 1
  have y2_ : (w11.alloc (.cells #[.int .i64 o1, .int .i64 o2, .int .i64 o3, .int .i64 o4, .int .i64 o5, .int .i64 o6, .int .i64 o7, .slice oq oN od] 27)).cell? ⟨w.heap.size + 1, 2, none⟩ = some (.int .i64 j3) := Y12.out.cell 2
  have y3_ : (w11.alloc (.cells #[.int .i64 o1, .int .i64 o2, .int .i64 o3, .int .i64 o4, .int .i64 o5, .int .i64 o6, .int .i64 o7, .slice oq oN od] 27)).cell? ⟨w.heap.size + 1, 3, none⟩ = some (.int .i64 j4) := Y12.out.cell 3
  have y4_ : (w11.alloc (.cells #[.int .i64 o1, .int .i64 o2, .int .i64 o3, .int .i64 o4, .int .i64 o5, .int .i64 o6, .int .i64 o7, .slice oq oN od] 27)).cell? ⟨w.heap.size + 1, 4, none⟩ = some (.int .i64 j5) := Y12.out.cell 4
  have y5_ : (w11.alloc (.cells #[.int .i64 o1, .int .i64 o2, .int .i64 o3, .int .i64 o4, .int .i64 o5, .int .i64 o6, .int .i64 o7, .slice oq oN od] 27)).cell? ⟨w.heap.size + 1, 5, none⟩ = some (.int .i64 j6) := Y12.out.cell 5
  have y6_ : (w11.alloc (.cells #[.int .i64 o1, .int .i64 o2, .int .i64 o3, .int .i64 o4, .int .i64 o5, .int .i64 o6, .int .i64 o7, .slice oq oN od] 27)).cell? ⟨w.heap.size + 1, 6, none⟩ = some (.int .i64 j7) := Y12.out.cell 6
  have y7_ : (w11.alloc (.cells #[.int .i64 o1, .int .i64 o2, .int .i64 o3, .int .i64 o4, .int .i64 o5, .int .i64 o6, .int .i64 o7, .slice oq oN od] 27)).cell? ⟨w.heap.size + 1, 7, none⟩ = some (.slice jq jN jd) := Y12.out.cell 7
  go_wp2_with fail
  refine (C3.out _ B12.out).mono ?_
  rintro e w13 ⟨rx, ry, rfl, htr, hb⟩
  have Sl13 := Lib.hid (Sl12.out.keep hb)
  have Sm13 := Lib.hid (Sm12.out.keep hb)
  have So13 := Lib.hid (So12.out.keep hb)
  have Sr13 := Lib.hid htr.1
  have B13 := Lib.hid (B12.out.trans (hb.mono B12.out.size))
  have X13 := Lib.hid (X12.out.below hb X12.out.lt)
  have Y13 := Lib.hid (Y12.out.below hb Y12.out.lt)
  have T13 := Lib.hid (T12.out.below hb T12.out.lt)
  have A13 := Lib.hid (A12.out.below hb A12.out.lt)
  have F13 := Lib.hid (F12.out.below hb F12.out.lt)
  have C13 := Lib.hid (C12.out.below hb C12.out.lt)
  have D13 := Lib.hid (D12.out.below hb D12.out.lt)
  have G13 := Lib.hid (G12.out.below hb G12.out.lt)
  have H13 := Lib.hid (H12.out.below hb H12.out.lt)
  clear hb C3 y0_ y1_ y2_ y3_ y4_ y5_ y6_ y7_ X12 Y12 T12 A12 F12 C12 D12 G12 H12 B12 Sl12 Sm12 So12 htr
  have B14 := Lib.hid (B13.out.alloc B13.out.size (.cells #[.int .i64 r1, .int .i64 r2, .int .i64 r3, .int .i64 r4, .int .i64 r5, .int .i64 r6, .int .i64 r7, .slice rx rN ry] 27))
  have X14 := Lib.hid (X13.out.alloc (.cells #[.int .i64 r1, .int .i64 r2, .int .i64 r3, .int .i64 r4, .int .i64 r5, .int .i64 r6, .int .i64 r7, .slice rx rN ry] 27))
  have Y14 := Lib.hid (Y13.out.alloc (.cells #[.int .i64 r1, .int .i64 r2, .int .i64 r3, .int .i64 r4, .int .i64 r5, .int .i64 r6, .int .i64 r7, .slice rx rN ry] 27))
  have T14 := Lib.hid (T13.out.alloc (.cells #[.int .i64 r1, .int .i64 r2, .int .i64 r3, .int .i64 r4, .int .i64 r5, .int .i64 r6, .int .i64 r7, .slice rx rN ry] 27))
  have A14 := Lib.hid (A13.out.alloc (.cells #[.int .i64 r1, .int .i64 r2, .int .i64 r3, .int .i64 r4, .int .i64 r5, .int .i64 r6, .int .i64 r7, .slice rx rN ry] 27))
  have F14 := Lib.hid (F13.out.alloc (.cells #[.int .i64 r1, .int .i64 r2, .int .i64 r3, .int .i64 r4, .int .i64 r5, .int .i64 r6, .int .i64 r7, .slice rx rN ry] 27))
  have C14 := Lib.hid (C13.out.alloc (.cells #[.int .i64 r1, .int .i64 r2, .int .i64 r3, .int .i64 r4, .int .i64 r5, .int .i64 r6, .int .i64 r7, .slice rx rN ry] 27))
  have D14 := Lib.hid (D13.out.alloc (.cells #[.int .i64 r1, .int .i64 r2, .int .i64 r3, .int .i64 r4, .int .i64 r5, .int .i64 r6, .int .i64 r7, .slice rx rN ry] 27))
  have G14 := Lib.hid (G13.out.alloc (.cells #[.int .i64 r1, .int .i64 r2, .int .i64 r3, .int .i64 r4, .int .i64 r5, .int .i64 r6, .int .i64 r7, .slice rx rN ry] 27))
  have H14 := Lib.hid (H13.out.alloc (.cells #[.int .i64 r1, .int .i64 r2, .int .i64 r3, .int .i64 r4, .int .i64 r5, .int .i64 r6, .int .i64 r7, .slice rx rN ry] 27))
  have K14 := Lib.hid (Lies.new w13 27 #[.int .i64 r1, .int .i64 r2, .int .i64 r3, .int .i64 r4, .int .i64 r5, .int .i64 r6, .int .i64 r7, .slice rx rN ry])
  have Sl14 := Lib.hid (Sl13.out.keep (alloc_below w13 (.cells #[.int .i64 r1, .int .i64 r2, .int .i64 r3, .int .i64 r4, .int .i64 r5, .int .i64 r6, .int .i64 r7, .slice rx rN ry] 27)))
  have Sm14 := Lib.hid (Sm13.out.keep (alloc_below w13 (.cells #[.int .i64 r1, .int .i64 r2, .int .i64 r3, .int .i64 r4, .int .i64 r5, .int .i64 r6, .int .i64 r7, .slice rx rN ry] 27)))
  have So14 := Lib.hid (So13.out.keep (alloc_below w13 (.cells #[.int .i64 r1, .int .i64 r2, .int .i64 r3, .int .i64 r4, .int .i64 r5, .int .i64 r6, .int .i64 r7, .slice rx rN ry] 27)))
  have Sr14 := Lib.hid (Sr13.out.keep (alloc_below w13 (.cells #[.int .i64 r1, .int .i64 r2, .int .i64 r3, .int .i64 r4, .int .i64 r5, .int .i64 r6, .int .i64 r7, .slice rx rN ry] 27)))
  clear B13 X13 Y13 T13 A13 F13 C13 D13 G13 H13 Sl13 Sm13 So13 Sr13
  have y0_ : (w13.alloc (.cells #[.int .i64 r1, .int .i64 r2, .int .i64 r3, .int .i64 r4, .int .i64 r5, .int .i64 r6, .int .i64 r7, .slice rx rN ry] 27)).cell? ⟨w.heap.size + 1, 0, none⟩ = some (.int .i64 j1) := Y14.out.cell 0
  have y1_ : (w13.alloc (.cells #[.int .i64 r1, .int .i64 r2, .int .i64 r3, .int .i64 r4, .int .i64 r5, .int .i64 r6, .int .i64 r7, .slice rx rN ry] 27)).cell? ⟨w.heap.size + 1, 1, none⟩ = some (.int .i64 j2) := Y14.out.cell 1
  have y2_ : (w13.alloc (.cells #[.int .i64 r1, .int .i64 r2, .int .i64 r3, .int .i64 r4, .int .i64 r5, .int .i64 r6, .int .i64 r7, .slice rx rN ry] 27)).cell? ⟨w.heap.size + 1, 2, none⟩ = some (.int .i64 j3) := Y14.out.cell 2
  have y3_ : (w13.alloc (.cells #[.int .i64 r1, .int .i64 r2, .int .i64 r3, .int .i64 r4, .int .i64 r5, .int .i64 r6, .int .i64 r7, .slice rx rN ry] 27)).cell? ⟨w.heap.size + 1, 3, none⟩ = some (.int .i64 j4) := Y14.out.cell 3
  have y4_ : (w13.alloc (.cells #[.int .i64 r1, .int .i64 r2, .int .i64 r3, .int .i64 r4, .int .i64 r5, .int .i64 r6, .int .i64 r7, .slice rx rN ry] 27)).cell? ⟨w.heap.size + 1, 4, none⟩ = some (.int .i64 j5) := Y14.out.cell 4
  have y5_ : (w13.alloc (.cells #[.int .i64 r1, .int .i64 r2, .int .i64 r3, .int .i64 r4, .int .i64 r5, .int .i64 r6, .int .i64 r7, .slice rx rN ry] 27)).cell? ⟨w.heap.size + 1, 5, none⟩ = some (.int .i64 j6) := Y14.out.cell 5
  have y6_ : (w13.alloc (.cells #[.int .i64 r1, .int .i64 r2, .int .i64 r3, .int .i64 r4, .int .i64 r5, .int .i64 r6, .int .i64 r7, .slice rx rN ry] 27)).cell? ⟨w.heap.size + 1, 6, none⟩ = some (.int .i64 j7) := Y14.out.cell 6
  have y7_ : (w13.alloc (.cells #[.int .i64 r1, .int .i64 r2, .int .i64 r3, .int .i64 r4, .int .i64 r5, .int .i64 r6, .int .i64 r7, .slice rx rN ry] 27)).cell? ⟨w.heap.size + 1, 7, none⟩ = some (.slice jq jN jd) := Y14.out.cell 7
  go_wp2_with fail
  refine (R3.out _).mono ?_
  rintro e w15 ⟨rfl, hb⟩
  have Sl15 := Lib.hid (Sl14.out.keep hb)
  have Sm15 := Lib.hid (Sm14.out.keep hb)
  have So15 := Lib.hid (So14.out.keep hb)
  have Sr15 := Lib.hid (Sr14.out.keep hb)
  have B15 := Lib.hid (B14.out.trans (hb.mono B14.out.size))
  have X15 := Lib.hid (X14.out.below hb X14.out.lt)
  have Y15 := Lib.hid (Y14.out.below hb Y14.out.lt)
  have T15 := Lib.hid (T14.out.below hb T14.out.lt)
  have A15 := Lib.hid (A14.out.below hb A14.out.lt)
  have F15 := Lib.hid (F14.out.below hb F14.out.lt)
  have C15 := Lib.hid (C14.out.below hb C14.out.lt)
  have D15 := Lib.hid (D14.out.below hb D14.out.lt)
  have G15 := Lib.hid (G14.out.below hb G14.out.lt)
  have H15 := Lib.hid (H14.out.below hb H14.out.lt)
  have K15 := Lib.hid (K14.out.below hb K14.out.lt)
  clear hb R3 y0_ y1_ y2_ y3_ y4_ y5_ y6_ y7_ X14 Y14 T14 A14 F14 C14 D14 G14 H14 K14 B14 Sl14 Sm14 So14 Sr14
  have B16 := Lib.hid (B15.out.alloc B15.out.size (.cells #[.int .i64 r1, .int .i64 r2, .int .i64 r3, .int .i64 r4, .int .i64 r5, .int .i64 r6, .int .i64 r7, .slice rq rN rd] 27))
  have X16 := Lib.hid (X15.out.alloc (.cells #[.int .i64 r1, .int .i64 r2, .int .i64 r3, .int .i64 r4, .int .i64 r5, .int .i64 r6, .int .i64 r7, .slice rq rN rd] 27))
  have Y16 := Lib.hid (Y15.out.alloc (.cells #[.int .i64 r1, .int .i64 r2, .int .i64 r3, .int .i64 r4, .int .i64 r5, .int .i64 r6, .int .i64 r7, .slice rq rN rd] 27))
  have T16 := Lib.hid (T15.out.alloc (.cells #[.int .i64 r1, .int .i64 r2, .int .i64 r3, .int .i64 r4, .int .i64 r5, .int .i64 r6, .int .i64 r7, .slice rq rN rd] 27))
  have A16 := Lib.hid (A15.out.alloc (.cells #[.int .i64 r1, .int .i64 r2, .int .i64 r3, .int .i64 r4, .int .i64 r5, .int .i64 r6, .int .i64 r7, .slice rq rN rd] 27))
  have F16 := Lib.hid (F15.out.alloc (.cells #[.int .i64 r1, .int .i64 r2, .int .i64 r3, .int .i64 r4, .int .i64 r5, .int .i64 r6, .int .i64 r7, .slice rq rN rd] 27))
  have C16 := Lib.hid (C15.out.alloc (.cells #[.int .i64 r1, .int .i64 r2, .int .i64 r3, .int .i64 r4, .int .i64 r5, .int .i64 r6, .int .i64 r7, .slice rq rN rd] 27))
  have D16 := Lib.hid (D15.out.alloc (.cells #[.int .i64 r1, .int .i64 r2, .int .i64 r3, .int .i64 r4, .int .i64 r5, .int .i64 r6, .int .i64 r7, .slice rq rN rd] 27))
  have G16 := Lib.hid (G15.out.alloc (.cells #[.int .i64 r1, .int .i64 r2, .int .i64 r3, .int .i64 r4, .int .i64 r5, .int .i64 r6, .int .i64 r7, .slice rq rN rd] 27))
  have H16 := Lib.hid (H15.out.alloc (.cells #[.int .i64 r1, .int .i64 r2, .int .i64 r3, .int .i64 r4, .int .i64 r5, .int .i64 r6, .int .i64 r7, .slice rq rN rd] 27))
  have K16 := Lib.hid (K15.out.alloc (.cells #[.int .i64 r1, .int .i64 r2, .int .i64 r3, .int .i64 r4, .int .i64 r5, .int .i64 r6, .int .i64 r7, .slice rq rN rd] 27))
  have N16 := Lib.hid (Lies.new w15 27 #[.int .i64 r1, .int .i64 r2, .int .i64 r3, .int .i64 r4, .int .i64 r5, .int .i64 r6, .int .i64 r7, .slice rq rN rd])
  have Sl16 := Lib.hid (Sl15.out.keep (alloc_below w15 (.cells #[.int .i64 r1, .int .i64 r2, .int .i64 r3, .int .i64 r4, .int .i64 r5, .int .i64 r6, .int .i64 r7, .slice rq rN rd] 27)))
  have Sm16 := Lib.hid (Sm15.out.keep (alloc_below w15 (.cells #[.int .i64 r1, .int .i64 r2, .int .i64 r3, .int .i64 r4, .int .i64 r5, .int .i64 r6, .int .i64 r7, .slice rq rN rd] 27)))
  have So16 := Lib.hid (So15.out.keep (alloc_below w15 (.cells #[.int .i64 r1, .int .i64 r2, .int .i64 r3, .int .i64 r4, .int .i64 r5, .int .i64 r6, .int .i64 r7, .slice rq rN rd] 27)))
  have Sr16 := Lib.hid (Sr15.out.keep (alloc_below w15 (.cells #[.int .i64 r1, .int .i64 r2, .int .i64 r3, .int .i64 r4, .int .i64 r5, .int .i64 r6, .int .i64 r7, .slice rq rN rd] 27)))
  clear B15 X15 Y15 T15 A15 F15 C15 D15 G15 H15 K15 Sl15 Sm15 So15 Sr15
  have y0_ : (w15.alloc (.cells #[.int .i64 r1, .int .i64 r2, .int .i64 r3, .int .i64 r4, .int .i64 r5, .int .i64 r6, .int .i64 r7, .slice rq rN rd] 27)).cell? ⟨w.heap.size + 1, 0, none⟩ = some (.int .i64 j1) := Y16.out.cell 0
  have y1_ : (w15.alloc (.cells #[.int .i64 r1, .int .i64 r2, .int .i64 r3, .int .i64 r4, .int .i64 r5, .int .i64 r6, .int .i64 r7, .slice rq rN rd] 27)).cell? ⟨w.heap.size + 1, 1, none⟩ = some (.int .i64 j2) := Y16.out.cell 1
  have y2_ : (w15.alloc (.cells #[.int .i64 r1, .int .i64 r2, .int .i64 r3, .int .i64 r4, .int .i64 r5, .int .i64 r6, .int .i64 r7, .slice rq rN rd] 27)).cell? ⟨w.heap.size + 1, 2, none⟩ = some (.int .i64 j3) := Y16.out.cell 2
  have y3_ : (w15.alloc (.cells #[.int .i64 r1, .int .i64 r2, .int .i64 r3, .int .i64 r4, .int .i64 r5, .int .i64 r6, .int .i64 r7, .slice rq rN rd] 27)).cell? ⟨w.heap.size + 1, 3, none⟩ = some (.int .i64 j4) := Y16.out.cell 3
  have y4_ : (w15.alloc (.cells #[.int .i64 r1, .int .i64 r2, .int .i64 r3, .int .i64 r4, .int .i64 r5, .int .i64 r6, .int .i64 r7, .slice rq rN rd] 27)).cell? ⟨w.heap.size + 1, 4, none⟩ = some (.int .i64 j5) := Y16.out.cell 4
  have y5_ : (w15.alloc (.cells #[.int .i64 r1, .int .i64 r2, .int .i64 r3, .int .i64 r4, .int .i64 r5, .int .i64 r6, .int .i64 r7, .slice rq rN rd] 27)).cell? ⟨w.heap.size + 1, 5, none⟩ = some (.int .i64 j6) := Y16.out.cell 5
  have y6_ : (w15.alloc (.cells #[.int .i64 r1, .int .i64 r2, .int .i64 r3, .int .i64 r4, .int .i64 r5, .int .i64 r6, .int .i64 r7, .slice rq rN rd] 27)).cell? ⟨w.heap.size + 1, 6, none⟩ = some (.int .i64 j7) := Y16.out.cell 6
  have y7_ : (w15.alloc (.cells #[.int .i64 r1, .int .i64 r2, .int .i64 r3, .int .i64 r4, .int .i64 r5, .int .i64 r6, .int .i64 r7, .slice rq rN rd] 27)).cell? ⟨w.heap.size + 1, 7, none⟩ = some (.slice jq jN jd) := Y16.out.cell 7
  go_wp2_with fail
  refine (C4.out _ B16.out).mono ?_
  rintro e w17 ⟨ux, uy, rfl, htu, hb⟩
  have Sl17 := Lib.hid (Sl16.out.keep hb)
  have Sm17 := Lib.hid (Sm16.out.keep hb)
  have So17 := Lib.hid (So16.out.keep hb)
  have Sr17 := Lib.hid (Sr16.out.keep hb)
  have Su17 := Lib.hid htu.1
  have B17 := Lib.hid (B16.out.trans (hb.mono B16.out.size))
  have X17 := Lib.hid (X16.out.below hb X16.out.lt)
  have Y17 := Lib.hid (Y16.out.below hb Y16.out.lt)
  have T17 := Lib.hid (T16.out.below hb T16.out.lt)
  have A17 := Lib.hid (A16.out.below hb A16.out.lt)
  have F17 := Lib.hid (F16.out.below hb F16.out.lt)
  have C17 := Lib.hid (C16.out.below hb C16.out.lt)
  have D17 := Lib.hid (D16.out.below hb D16.out.lt)
  have G17 := Lib.hid (G16.out.below hb G16.out.lt)
  have H17 := Lib.hid (H16.out.below hb H16.out.lt)
  have K17 := Lib.hid (K16.out.below hb K16.out.lt)
  have N17 := Lib.hid (N16.out.below hb N16.out.lt)
  clear hb C4 y0_ y1_ y2_ y3_ y4_ y5_ y6_ y7_ X16 Y16 T16 A16 F16 C16 D16 G16 H16 K16 N16 B16 Sl16 Sm16 So16 Sr16 htu
  have B18 := Lib.hid (B17.out.alloc B17.out.size (.cells #[.int .i64 u1, .int .i64 u2, .int .i64 u3, .int .i64 u4, .int .i64 u5, .int .i64 u6, .int .i64 u7, .slice ux uN uy] 27))
  have X18 := Lib.hid (X17.out.alloc (.cells #[.int .i64 u1, .int .i64 u2, .int .i64 u3, .int .i64 u4, .int .i64 u5, .int .i64 u6, .int .i64 u7, .slice ux uN uy] 27))
  have Y18 := Lib.hid (Y17.out.alloc (.cells #[.int .i64 u1, .int .i64 u2, .int .i64 u3, .int .i64 u4, .int .i64 u5, .int .i64 u6, .int .i64 u7, .slice ux uN uy] 27))
  have T18 := Lib.hid (T17.out.alloc (.cells #[.int .i64 u1, .int .i64 u2, .int .i64 u3, .int .i64 u4, .int .i64 u5, .int .i64 u6, .int .i64 u7, .slice ux uN uy] 27))
  have A18 := Lib.hid (A17.out.alloc (.cells #[.int .i64 u1, .int .i64 u2, .int .i64 u3, .int .i64 u4, .int .i64 u5, .int .i64 u6, .int .i64 u7, .slice ux uN uy] 27))
  have F18 := Lib.hid (F17.out.alloc (.cells #[.int .i64 u1, .int .i64 u2, .int .i64 u3, .int .i64 u4, .int .i64 u5, .int .i64 u6, .int .i64 u7, .slice ux uN uy] 27))
  have C18 := Lib.hid (C17.out.alloc (.cells #[.int .i64 u1, .int .i64 u2, .int .i64 u3, .int .i64 u4, .int .i64 u5, .int .i64 u6, .int .i64 u7, .slice ux uN uy] 27))
  have D18 := Lib.hid (D17.out.alloc (.cells #[.int .i64 u1, .int .i64 u2, .int .i64 u3, .int .i64 u4, .int .i64 u5, .int .i64 u6, .int .i64 u7, .slice ux uN uy] 27))
  have G18 := Lib.hid (G17.out.alloc (.cells #[.int .i64 u1, .int .i64 u2, .int .i64 u3, .int .i64 u4, .int .i64 u5, .int .i64 u6, .int .i64 u7, .slice ux uN uy] 27))
  have H18 := Lib.hid (H17.out.alloc (.cells #[.int .i64 u1, .int .i64 u2, .int .i64 u3, .int .i64 u4, .int .i64 u5, .int .i64 u6, .int .i64 u7, .slice ux uN uy] 27))
  have K18 := Lib.hid (K17.out.alloc (.cells #[.int .i64 u1, .int .i64 u2, .int .i64 u3, .int .i64 u4, .int .i64 u5, .int .i64 u6, .int .i64 u7, .slice ux uN uy] 27))
  have N18 := Lib.hid (N17.out.alloc (.cells #[.int .i64 u1, .int .i64 u2, .int .i64 u3, .int .i64 u4, .int .i64 u5, .int .i64 u6, .int .i64 u7, .slice ux uN uy] 27))
  have Q18 := Lib.hid (Lies.new w17 27 #[.int .i64 u1, .int .i64 u2, .int .i64 u3, .int .i64 u4, .int .i64 u5, .int .i64 u6, .int .i64 u7, .slice ux uN uy])
  have Sl18 := Lib.hid (Sl17.out.keep (alloc_below w17 (.cells #[.int .i64 u1, .int .i64 u2, .int .i64 u3, .int .i64 u4, .int .i64 u5, .int .i64 u6, .int .i64 u7, .slice ux uN uy] 27)))
  have Sm18 := Lib.hid (Sm17.out.keep (alloc_below w17 (.cells #[.int .i64 u1, .int .i64 u2, .int .i64 u3, .int .i64 u4, .int .i64 u5, .int .i64 u6, .int .i64 u7, .slice ux uN uy] 27)))
  have So18 := Lib.hid (So17.out.keep (alloc_below w17 (.cells #[.int .i64 u1, .int .i64 u2, .int .i64 u3, .int .i64 u4, .int .i64 u5, .int .i64 u6, .int .i64 u7, .slice ux uN uy] 27)))
  have Sr18 := Lib.hid (Sr17.out.keep (alloc_below w17 (.cells #[.int .i64 u1, .int .i64 u2, .int .i64 u3, .int .i64 u4, .int .i64 u5, .int .i64 u6, .int .i64 u7, .slice ux uN uy] 27)))
  have Su18 := Lib.hid (Su17.out.keep (alloc_below w17 (.cells #[.int .i64 u1, .int .i64 u2, .int .i64 u3, .int .i64 u4, .int .i64 u5, .int .i64 u6, .int .i64 u7, .slice ux uN uy] 27)))
  clear B17 X17 Y17 T17 A17 F17 C17 D17 G17 H17 K17 N17 Sl17 Sm17 So17 Sr17 Su17
  have y0_ : (w17.alloc (.cells #[.int .i64 u1, .int .i64 u2, .int .i64 u3, .int .i64 u4, .int .i64 u5, .int .i64 u6, .int .i64 u7, .slice ux uN uy] 27)).cell? ⟨w.heap.size + 1, 0, none⟩ = some (.int .i64 j1) := Y18.out.cell 0
  have y1_ : (w17.alloc (.cells #[.int .i64 u1, .int .i64 u2, .int .i64 u3, .int .i64 u4, .int .i64 u5, .int .i64 u6, .int .i64 u7, .slice ux uN uy] 27)).cell? ⟨w.heap.size + 1, 1, none⟩ = some (.int .i64 j2) := Y18.out.cell 1
  have y2_ : (w17.alloc (.cells #[.int .i64 u1, .int .i64 u2, .int .i64 u3, .int .i64 u4, .int .i64 u5, .int .i64 u6, .int .i64 u7, .slice ux uN uy] 27)).cell? ⟨w.heap.size + 1, 2, none⟩ = some (.int .i64 j3) := Y18.out.cell 2
  have y3_ : (w17.alloc (.cells #[.int .i64 u1, .int .i64 u2, .int .i64 u3, .int .i64 u4, .int .i64 u5, .int .i64 u6, .int .i64 u7, .slice ux uN uy] 27)).cell? ⟨w.heap.size + 1, 3, none⟩ = some (.int .i64 j4) := Y18.out.cell 3
  have y4_ : (w17.alloc (.cells #[.int .i64 u1, .int .i64 u2, .int .i64 u3, .int .i64 u4, .int .i64 u5, .int .i64 u6, .int .i64 u7, .slice ux uN uy] 27)).cell? ⟨w.heap.size + 1, 4, none⟩ = some (.int .i64 j5) := Y18.out.cell 4
  have y5_ : (w17.alloc (.cells #[.int .i64 u1, .int .i64 u2, .int .i64 u3, .int .i64 u4, .int .i64 u5, .int .i64 u6, .int .i64 u7, .slice ux uN uy] 27)).cell? ⟨w.heap.size + 1, 5, none⟩ = some (.int .i64 j6) := Y18.out.cell 5
  have y6_ : (w17.alloc (.cells #[.int .i64 u1, .int .i64 u2, .int .i64 u3, .int .i64 u4, .int .i64 u5, .int .i64 u6, .int .i64 u7, .slice ux uN uy] 27)).cell? ⟨w.heap.size + 1, 6, none⟩ = some (.int .i64 j7) := Y18.out.cell 6
  have y7_ : (w17.alloc (.cells #[.int .i64 u1, .int .i64 u2, .int .i64 u3, .int .i64 u4, .int .i64 u5, .int .i64 u6, .int .i64 u7, .slice ux uN uy] 27)).cell? ⟨w.heap.size + 1, 7, none⟩ = some (.slice jq jN jd) := Y18.out.cell 7
  go_wp2_with fail
  refine (R4.out _).mono ?_
  rintro e w19 ⟨rfl, hb⟩
  have Sl19 := Lib.hid (Sl18.out.keep hb)
  have Sm19 := Lib.hid (Sm18.out.keep hb)
  have So19 := Lib.hid (So18.out.keep hb)
  have Sr19 := Lib.hid (Sr18.out.keep hb)
  have Su19 := Lib.hid (Su18.out.keep hb)
  have B19 := Lib.hid (B18.out.trans (hb.mono B18.out.size))
  have X19 := Lib.hid (X18.out.below hb X18.out.lt)
  have Y19 := Lib.hid (Y18.out.below hb Y18.out.lt)
  have T19 := Lib.hid (T18.out.below hb T18.out.lt)
  have A19 := Lib.hid (A18.out.below hb A18.out.lt)
  have F19 := Lib.hid (F18.out.below hb F18.out.lt)
  have C19 := Lib.hid (C18.out.below hb C18.out.lt)
  have D19 := Lib.hid (D18.out.below hb D18.out.lt)
  have G19 := Lib.hid (G18.out.below hb G18.out.lt)
  have H19 := Lib.hid (H18.out.below hb H18.out.lt)
  have K19 := Lib.hid (K18.out.below hb K18.out.lt)
  have N19 := Lib.hid (N18.out.below hb N18.out.lt)
  have Q19 := Lib.hid (Q18.out.below hb Q18.out.lt)
  clear hb R4 y0_ y1_ y2_ y3_ y4_ y5_ y6_ y7_ X18 Y18 T18 A18 F18 C18 D18 G18 H18 K18 N18 Q18 B18 Sl18 Sm18 So18 Sr18 Su18
  have B20 := Lib.hid (B19.out.alloc B19.out.size (.cells #[.int .i64 u1, .int .i64 u2, .int .i64 u3, .int .i64 u4, .int .i64 u5, .int .i64 u6, .int .i64 u7, .slice uq uN ud] 27))
  have X20 := Lib.hid (X19.out.alloc (.cells #[.int .i64 u1, .int .i64 u2, .int .i64 u3, .int .i64 u4, .int .i64 u5, .int .i64 u6, .int .i64 u7, .slice uq uN ud] 27))
  have Y20 := Lib.hid (Y19.out.alloc (.cells #[.int .i64 u1, .int .i64 u2, .int .i64 u3, .int .i64 u4, .int .i64 u5, .int .i64 u6, .int .i64 u7, .slice uq uN ud] 27))
  have T20 := Lib.hid (T19.out.alloc (.cells #[.int .i64 u1, .int .i64 u2, .int .i64 u3, .int .i64 u4, .int .i64 u5, .int .i64 u6, .int .i64 u7, .slice uq uN ud] 27))
  have A20 := Lib.hid (A19.out.alloc (.cells #[.int .i64 u1, .int .i64 u2, .int .i64 u3, .int .i64 u4, .int .i64 u5, .int .i64 u6, .int .i64 u7, .slice uq uN ud] 27))
  have F20 := Lib.hid (F19.out.alloc (.cells #[.int .i64 u1, .int .i64 u2, .int .i64 u3, .int .i64 u4, .int .i64 u5, .int .i64 u6, .int .i64 u7, .slice uq uN ud] 27))
  have C20 := Lib.hid (C19.out.alloc (.cells #[.int .i64 u1, .int .i64 u2, .int .i64 u3, .int .i64 u4, .int .i64 u5, .int .i64 u6, .int .i64 u7, .slice uq uN ud] 27))
  have D20 := Lib.hid (D19.out.alloc (.cells #[.int .i64 u1, .int .i64 u2, .int .i64 u3, .int .i64 u4, .int .i64 u5, .int .i64 u6, .int .i64 u7, .slice uq uN ud] 27))
  have G20 := Lib.hid (G19.out.alloc (.cells #[.int .i64 u1, .int .i64 u2, .int .i64 u3, .int .i64 u4, .int .i64 u5, .int .i64 u6, .int .i64 u7, .slice uq uN ud] 27))
  have H20 := Lib.hid (H19.out.alloc (.cells #[.int .i64 u1, .int .i64 u2, .int .i64 u3, .int .i64 u4, .int .i64 u5, .int .i64 u6, .int .i64 u7, .slice uq uN ud] 27))
  have K20 := Lib.hid (K19.out.alloc (.cells #[.int .i64 u1, .int .i64 u2, .int .i64 u3, .int .i64 u4, .int .i64 u5, .int .i64 u6, .int .i64 u7, .slice uq uN ud] 27))
  have N20 := Lib.hid (N19.out.alloc (.cells #[.int .i64 u1, .int .i64 u2, .int .i64 u3, .int .i64 u4, .int .i64 u5, .int .i64 u6, .int .i64 u7, .slice uq uN ud] 27))
  have Q20 := Lib.hid (Q19.out.alloc (.cells #[.int .i64 u1, .int .i64 u2, .int .i64 u3, .int .i64 u4, .int .i64 u5, .int .i64 u6, .int .i64 u7, .slice uq uN ud] 27))
  have S20 := Lib.hid (Lies.new w19 27 #[.int .i64 u1, .int .i64 u2, .int .i64 u3, .int .i64 u4, .int .i64 u5, .int .i64 u6, .int .i64 u7, .slice uq uN ud])
  have Sl20 := Lib.hid (Sl19.out.keep (alloc_below w19 (.cells #[.int .i64 u1, .int .i64 u2, .int .i64 u3, .int .i64 u4, .int .i64 u5, .int .i64 u6, .int .i64 u7, .slice uq uN ud] 27)))
  have Sm20 := Lib.hid (Sm19.out.keep (alloc_below w19 (.cells #[.int .i64 u1, .int .i64 u2, .int .i64 u3, .int .i64 u4, .int .i64 u5, .int .i64 u6, .int .i64 u7, .slice uq uN ud] 27)))
  have So20 := Lib.hid (So19.out.keep (alloc_below w19 (.cells #[.int .i64 u1, .int .i64 u2, .int .i64 u3, .int .i64 u4, .int .i64 u5, .int .i64 u6, .int .i64 u7, .slice uq uN ud] 27)))
  have Sr20 := Lib.hid (Sr19.out.keep (alloc_below w19 (.cells #[.int .i64 u1, .int .i64 u2, .int .i64 u3, .int .i64 u4, .int .i64 u5, .int .i64 u6, .int .i64 u7, .slice uq uN ud] 27)))
  have Su20 := Lib.hid (Su19.out.keep (alloc_below w19 (.cells #[.int .i64 u1, .int .i64 u2, .int .i64 u3, .int .i64 u4, .int .i64 u5, .int .i64 u6, .int .i64 u7, .slice uq uN ud] 27)))
  clear B19 X19 Y19 T19 A19 F19 C19 D19 G19 H19 K19 N19 Q19 Sl19 Sm19 So19 Sr19 Su19
  have a0_ : (w19.alloc (.cells #[.int .i64 u1, .int .i64 u2, .int .i64 u3, .int .i64 u4, .int .i64 u5, .int .i64 u6, .int .i64 u7, .slice uq uN ud] 27)).cell? ⟨w1.heap.size, 0, none⟩ = some (.int .i64 l1) := A20.out.cell 0
  have a1_ : (w19.alloc (.cells #[.int .i64 u1, .int .i64 u2, .int .i64 u3, .int .i64 u4, .int .i64 u5, .int .i64 u6, .int .i64 u7, .slice uq uN ud] 27)).cell? ⟨w1.heap.size, 1, none⟩ = some (.int .i64 l2) := A20.out.cell 1
  have a2_ : (w19.alloc (.cells #[.int .i64 u1, .int .i64 u2, .int .i64 u3, .int .i64 u4, .int .i64 u5, .int .i64 u6, .int .i64 u7, .slice uq uN ud] 27)).cell? ⟨w1.heap.size, 2, none⟩ = some (.int .i64 l3) := A20.out.cell 2
  have a3_ : (w19.alloc (.cells #[.int .i64 u1, .int .i64 u2, .int .i64 u3, .int .i64 u4, .int .i64 u5, .int .i64 u6, .int .i64 u7, .slice uq uN ud] 27)).cell? ⟨w1.heap.size, 3, none⟩ = some (.int .i64 l4) := A20.out.cell 3
  have a4_ : (w19.alloc (.cells #[.int .i64 u1, .int .i64 u2, .int .i64 u3, .int .i64 u4, .int .i64 u5, .int .i64 u6, .int .i64 u7, .slice uq uN ud] 27)).cell? ⟨w1.heap.size, 4, none⟩ = some (.int .i64 l5) := A20.out.cell 4
  have a5_ : (w19.alloc (.cells #[.int .i64 u1, .int .i64 u2, .int .i64 u3, .int .i64 u4, .int .i64 u5, .int .i64 u6, .int .i64 u7, .slice uq uN ud] 27)).cell? ⟨w1.heap.size, 5, none⟩ = some (.int .i64 l6) := A20.out.cell 5
  have a6_ : (w19.alloc (.cells #[.int .i64 u1, .int .i64 u2, .int .i64 u3, .int .i64 u4, .int .i64 u5, .int .i64 u6, .int .i64 u7, .slice uq uN ud] 27)).cell? ⟨w1.heap.size, 6, none⟩ = some (.int .i64 l7) := A20.out.cell 6
  have a7_ : (w19.alloc (.cells #[.int .i64 u1, .int .i64 u2, .int .i64 u3, .int .i64 u4, .int .i64 u5, .int .i64 u6, .int .i64 u7, .slice uq uN ud] 27)).cell? ⟨w1.heap.size, 7, none⟩ = some (.slice lx lN ly) := A20.out.cell 7
  have f0_ : (w19.alloc (.cells #[.int .i64 u1, .int .i64 u2, .int .i64 u3, .int .i64 u4, .int .i64 u5, .int .i64 u6, .int .i64 u7, .slice uq uN ud] 27)).cell? ⟨w3.heap.size, 0, none⟩ = some (.int .i64 l1) := F20.out.cell 0
  have f1_ : (w19.alloc (.cells #[.int .i64 u1, .int .i64 u2, .int .i64 u3, .int .i64 u4, .int .i64 u5, .int .i64 u6, .int .i64 u7, .slice uq uN ud] 27)).cell? ⟨w3.heap.size, 1, none⟩ = some (.int .i64 l2) := F20.out.cell 1
  have f2_ : (w19.alloc (.cells #[.int .i64 u1, .int .i64 u2, .int .i64 u3, .int .i64 u4, .int .i64 u5, .int .i64 u6, .int .i64 u7, .slice uq uN ud] 27)).cell? ⟨w3.heap.size, 2, none⟩ = some (.int .i64 l3) := F20.out.cell 2
  have f3_ : (w19.alloc (.cells #[.int .i64 u1, .int .i64 u2, .int .i64 u3, .int .i64 u4, .int .i64 u5, .int .i64 u6, .int .i64 u7, .slice uq uN ud] 27)).cell? ⟨w3.heap.size, 3, none⟩ = some (.int .i64 l4) := F20.out.cell 3
  have f4_ : (w19.alloc (.cells #[.int .i64 u1, .int .i64 u2, .int .i64 u3, .int .i64 u4, .int .i64 u5, .int .i64 u6, .int .i64 u7, .slice uq uN ud] 27)).cell? ⟨w3.heap.size, 4, none⟩ = some (.int .i64 l5) := F20.out.cell 4
  have f5_ : (w19.alloc (.cells #[.int .i64 u1, .int .i64 u2, .int .i64 u3, .int .i64 u4, .int .i64 u5, .int .i64 u6, .int .i64 u7, .slice uq uN ud] 27)).cell? ⟨w3.heap.size, 5, none⟩ = some (.int .i64 l6) := F20.out.cell 5
  have f6_ : (w19.alloc (.cells #[.int .i64 u1, .int .i64 u2, .int .i64 u3, .int .i64 u4, .int .i64 u5, .int .i64 u6, .int .i64 u7, .slice uq uN ud] 27)).cell? ⟨w3.heap.size, 6, none⟩ = some (.int .i64 l7) := F20.out.cell 6
  have f7_ : (w19.alloc (.cells #[.int .i64 u1, .int .i64 u2, .int .i64 u3, .int .i64 u4, .int .i64 u5, .int .i64 u6, .int .i64 u7, .slice uq uN ud] 27)).cell? ⟨w3.heap.size, 7, none⟩ = some (.slice lq lN ld) := F20.out.cell 7
  go_wp2_with fail
  refine (O0.out lx ly _ B20.out (Sl20.out)).mono ?_
  rintro e w21 ⟨rfl, hb⟩
  have Sl21 := Lib.hid (Sl20.out.keep hb)
  have Sm21 := Lib.hid (Sm20.out.keep hb)
  have So21 := Lib.hid (So20.out.keep hb)
  have Sr21 := Lib.hid (Sr20.out.keep hb)
  have Su21 := Lib.hid (Su20.out.keep hb)
  have B21 := Lib.hid (B20.out.trans (hb.mono B20.out.size))
  have X21 := Lib.hid (X20.out.below hb X20.out.lt)
  have Y21 := Lib.hid (Y20.out.below hb Y20.out.lt)
  have T21 := Lib.hid (T20.out.below hb T20.out.lt)
  have A21 := Lib.hid (A20.out.below hb A20.out.lt)
  have F21 := Lib.hid (F20.out.below hb F20.out.lt)
  have C21 := Lib.hid (C20.out.below hb C20.out.lt)
  have D21 := Lib.hid (D20.out.below hb D20.out.lt)
  have G21 := Lib.hid (G20.out.below hb G20.out.lt)
  have H21 := Lib.hid (H20.out.below hb H20.out.lt)
  have K21 := Lib.hid (K20.out.below hb K20.out.lt)
  have N21 := Lib.hid (N20.out.below hb N20.out.lt)
  have Q21 := Lib.hid (Q20.out.below hb Q20.out.lt)
  have S21 := Lib.hid (S20.out.below hb S20.out.lt)
  clear hb O0 a0_ a1_ a2_ a3_ a4_ a5_ a6_ a7_ f0_ f1_ f2_ f3_ f4_ f5_ f6_ f7_ X20 Y20 T20 A20 F20 C20 D20 G20 H20 K20 N20 Q20 S20 B20 Sl20 Sm20 So20 Sr20 Su20
  have c0_ : w21.cell? ⟨w5.heap.size, 0, none⟩ = some (.int .i64 m1) := C21.out.cell 0
  have c1_ : w21.cell? ⟨w5.heap.size, 1, none⟩ = some (.int .i64 m2) := C21.out.cell 1
  have c2_ : w21.cell? ⟨w5.heap.size, 2, none⟩ = some (.int .i64 m3) := C21.out.cell 2
  have c3_ : w21.cell? ⟨w5.heap.size, 3, none⟩ = some (.int .i64 m4) := C21.out.cell 3
  have c4_ : w21.cell? ⟨w5.heap.size, 4, none⟩ = some (.int .i64 m5) := C21.out.cell 4
  have c5_ : w21.cell? ⟨w5.heap.size, 5, none⟩ = some (.int .i64 m6) := C21.out.cell 5
  have c6_ : w21.cell? ⟨w5.heap.size, 6, none⟩ = some (.int .i64 m7) := C21.out.cell 6
  have c7_ : w21.cell? ⟨w5.heap.size, 7, none⟩ = some (.slice mx mN my) := C21.out.cell 7
  have d0_ : w21.cell? ⟨w7.heap.size, 0, none⟩ = some (.int .i64 m1) := D21.out.cell 0
  have d1_ : w21.cell? ⟨w7.heap.size, 1, none⟩ = some (.int .i64 m2) := D21.out.cell 1
  have d2_ : w21.cell? ⟨w7.heap.size, 2, none⟩ = some (.int .i64 m3) := D21.out.cell 2
  have d3_ : w21.cell? ⟨w7.heap.size, 3, none⟩ = some (.int .i64 m4) := D21.out.cell 3
  have d4_ : w21.cell? ⟨w7.heap.size, 4, none⟩ = some (.int .i64 m5) := D21.out.cell 4
  have d5_ : w21.cell? ⟨w7.heap.size, 5, none⟩ = some (.int .i64 m6) := D21.out.cell 5
  have d6_ : w21.cell? ⟨w7.heap.size, 6, none⟩ = some (.int .i64 m7) := D21.out.cell 6
  have d7_ : w21.cell? ⟨w7.heap.size, 7, none⟩ = some (.slice mq mN md) := D21.out.cell 7
  go_wp2_with fail
  refine (O1.out mx my _ B21.out (Sm21.out)).mono ?_
  rintro e w22 ⟨rfl, hb⟩
  have Sl22 := Lib.hid (Sl21.out.keep hb)
  have Sm22 := Lib.hid (Sm21.out.keep hb)
  have So22 := Lib.hid (So21.out.keep hb)
  have Sr22 := Lib.hid (Sr21.out.keep hb)
  have Su22 := Lib.hid (Su21.out.keep hb)
  have B22 := Lib.hid (B21.out.trans (hb.mono B21.out.size))
  have X22 := Lib.hid (X21.out.below hb X21.out.lt)
  have Y22 := Lib.hid (Y21.out.below hb Y21.out.lt)
  have T22 := Lib.hid (T21.out.below hb T21.out.lt)
  have A22 := Lib.hid (A21.out.below hb A21.out.lt)
  have F22 := Lib.hid (F21.out.below hb F21.out.lt)
  have C22 := Lib.hid (C21.out.below hb C21.out.lt)
  have D22 := Lib.hid (D21.out.below hb D21.out.lt)
  have G22 := Lib.hid (G21.out.below hb G21.out.lt)
  have H22 := Lib.hid (H21.out.below hb H21.out.lt)
  have K22 := Lib.hid (K21.out.below hb K21.out.lt)
  have N22 := Lib.hid (N21.out.below hb N21.out.lt)
  have Q22 := Lib.hid (Q21.out.below hb Q21.out.lt)
  have S22 := Lib.hid (S21.out.below hb S21.out.lt)
  clear hb O1 c0_ c1_ c2_ c3_ c4_ c5_ c6_ c7_ d0_ d1_ d2_ d3_ d4_ d5_ d6_ d7_ X21 Y21 T21 A21 F21 C21 D21 G21 H21 K21 N21 Q21 S21 B21 Sl21 Sm21 So21 Sr21 Su21
  have g0_ : w22.cell? ⟨w9.heap.size, 0, none⟩ = some (.int .i64 o1) := G22.out.cell 0
  have g1_ : w22.cell? ⟨w9.heap.size, 1, none⟩ = some (.int .i64 o2) := G22.out.cell 1
  have g2_ : w22.cell? ⟨w9.heap.size, 2, none⟩ = some (.int .i64 o3) := G22.out.cell 2
  have g3_ : w22.cell? ⟨w9.heap.size, 3, none⟩ = some (.int .i64 o4) := G22.out.cell 3
  have g4_ : w22.cell? ⟨w9.heap.size, 4, none⟩ = some (.int .i64 o5) := G22.out.cell 4
  have g5_ : w22.cell? ⟨w9.heap.size, 5, none⟩ = some (.int .i64 o6) := G22.out.cell 5
  have g6_ : w22.cell? ⟨w9.heap.size, 6, none⟩ = some (.int .i64 o7) := G22.out.cell 6
  have g7_ : w22.cell? ⟨w9.heap.size, 7, none⟩ = some (.slice ox oN oy) := G22.out.cell 7
  have h0_ : w22.cell? ⟨w11.heap.size, 0, none⟩ = some (.int .i64 o1) := H22.out.cell 0
  have h1_ : w22.cell? ⟨w11.heap.size, 1, none⟩ = some (.int .i64 o2) := H22.out.cell 1
  have h2_ : w22.cell? ⟨w11.heap.size, 2, none⟩ = some (.int .i64 o3) := H22.out.cell 2
  have h3_ : w22.cell? ⟨w11.heap.size, 3, none⟩ = some (.int .i64 o4) := H22.out.cell 3
  have h4_ : w22.cell? ⟨w11.heap.size, 4, none⟩ = some (.int .i64 o5) := H22.out.cell 4
  have h5_ : w22.cell? ⟨w11.heap.size, 5, none⟩ = some (.int .i64 o6) := H22.out.cell 5
  have h6_ : w22.cell? ⟨w11.heap.size, 6, none⟩ = some (.int .i64 o7) := H22.out.cell 6
  have h7_ : w22.cell? ⟨w11.heap.size, 7, none⟩ = some (.slice oq oN od) := H22.out.cell 7
  go_wp2_with fail
  refine (O2.out ox oy _ B22.out (So22.out)).mono ?_
  rintro e w23 ⟨rfl, hb⟩
  have Sl23 := Lib.hid (Sl22.out.keep hb)
  have Sm23 := Lib.hid (Sm22.out.keep hb)
  have So23 := Lib.hid (So22.out.keep hb)
  have Sr23 := Lib.hid (Sr22.out.keep hb)
  have Su23 := Lib.hid (Su22.out.keep hb)
  have B23 := Lib.hid (B22.out.trans (hb.mono B22.out.size))
  have X23 := Lib.hid (X22.out.below hb X22.out.lt)
  have Y23 := Lib.hid (Y22.out.below hb Y22.out.lt)
  have T23 := Lib.hid (T22.out.below hb T22.out.lt)
  have A23 := Lib.hid (A22.out.below hb A22.out.lt)
  have F23 := Lib.hid (F22.out.below hb F22.out.lt)
  have C23 := Lib.hid (C22.out.below hb C22.out.lt)
  have D23 := Lib.hid (D22.out.below hb D22.out.lt)
  have G23 := Lib.hid (G22.out.below hb G22.out.lt)
  have H23 := Lib.hid (H22.out.below hb H22.out.lt)
  have K23 := Lib.hid (K22.out.below hb K22.out.lt)
  have N23 := Lib.hid (N22.out.below hb N22.out.lt)
  have Q23 := Lib.hid (Q22.out.below hb Q22.out.lt)
  have S23 := Lib.hid (S22.out.below hb S22.out.lt)
  clear hb O2 g0_ g1_ g2_ g3_ g4_ g5_ g6_ g7_ h0_ h1_ h2_ h3_ h4_ h5_ h6_ h7_ X22 Y22 T22 A22 F22 C22 D22 G22 H22 K22 N22 Q22 S22 B22 Sl22 Sm22 So22 Sr22 Su22
  have k0_ : w23.cell? ⟨w13.heap.size, 0, none⟩ = some (.int .i64 r1) := K23.out.cell 0
  have k1_ : w23.cell? ⟨w13.heap.size, 1, none⟩ = some (.int .i64 r2) := K23.out.cell 1
  have k2_ : w23.cell? ⟨w13.heap.size, 2, none⟩ = some (.int .i64 r3) := K23.out.cell 2
  have k3_ : w23.cell? ⟨w13.heap.size, 3, none⟩ = some (.int .i64 r4) := K23.out.cell 3
  have k4_ : w23.cell? ⟨w13.heap.size, 4, none⟩ = some (.int .i64 r5) := K23.out.cell 4
  have k5_ : w23.cell? ⟨w13.heap.size, 5, none⟩ = some (.int .i64 r6) := K23.out.cell 5
  have k6_ : w23.cell? ⟨w13.heap.size, 6, none⟩ = some (.int .i64 r7) := K23.out.cell 6
  have k7_ : w23.cell? ⟨w13.heap.size, 7, none⟩ = some (.slice rx rN ry) := K23.out.cell 7
  have n0_ : w23.cell? ⟨w15.heap.size, 0, none⟩ = some (.int .i64 r1) := N23.out.cell 0
  have n1_ : w23.cell? ⟨w15.heap.size, 1, none⟩ = some (.int .i64 r2) := N23.out.cell 1
  have n2_ : w23.cell? ⟨w15.heap.size, 2, none⟩ = some (.int .i64 r3) := N23.out.cell 2
  have n3_ : w23.cell? ⟨w15.heap.size, 3, none⟩ = some (.int .i64 r4) := N23.out.cell 3
  have n4_ : w23.cell? ⟨w15.heap.size, 4, none⟩ = some (.int .i64 r5) := N23.out.cell 4
  have n5_ : w23.cell? ⟨w15.heap.size, 5, none⟩ = some (.int .i64 r6) := N23.out.cell 5
  have n6_ : w23.cell? ⟨w15.heap.size, 6, none⟩ = some (.int .i64 r7) := N23.out.cell 6
  have n7_ : w23.cell? ⟨w15.heap.size, 7, none⟩ = some (.slice rq rN rd) := N23.out.cell 7
  go_wp2_with fail
  refine (O3.out rx ry _ B23.out (Sr23.out)).mono ?_
  rintro e w24 ⟨rfl, hb⟩
  have Sl24 := Lib.hid (Sl23.out.keep hb)
  have Sm24 := Lib.hid (Sm23.out.keep hb)
  have So24 := Lib.hid (So23.out.keep hb)
  have Sr24 := Lib.hid (Sr23.out.keep hb)
  have Su24 := Lib.hid (Su23.out.keep hb)
  have B24 := Lib.hid (B23.out.trans (hb.mono B23.out.size))
  have X24 := Lib.hid (X23.out.below hb X23.out.lt)
  have Y24 := Lib.hid (Y23.out.below hb Y23.out.lt)
  have T24 := Lib.hid (T23.out.below hb T23.out.lt)
  have A24 := Lib.hid (A23.out.below hb A23.out.lt)
  have F24 := Lib.hid (F23.out.below hb F23.out.lt)
  have C24 := Lib.hid (C23.out.below hb C23.out.lt)
  have D24 := Lib.hid (D23.out.below hb D23.out.lt)
  have G24 := Lib.hid (G23.out.below hb G23.out.lt)
  have H24 := Lib.hid (H23.out.below hb H23.out.lt)
  have K24 := Lib.hid (K23.out.below hb K23.out.lt)
  have N24 := Lib.hid (N23.out.below hb N23.out.lt)
  have Q24 := Lib.hid (Q23.out.below hb Q23.out.lt)
  have S24 := Lib.hid (S23.out.below hb S23.out.lt)
  clear hb O3 k0_ k1_ k2_ k3_ k4_ k5_ k6_ k7_ n0_ n1_ n2_ n3_ n4_ n5_ n6_ n7_ X23 Y23 T23 A23 F23 C23 D23 G23 H23 K23 N23 Q23 S23 B23 Sl23 Sm23 So23 Sr23 Su23
  have q0_ : w24.cell? ⟨w17.heap.size, 0, none⟩ = some (.int .i64 u1) := Q24.out.cell 0
  have q1_ : w24.cell? ⟨w17.heap.size, 1, none⟩ = some (.int .i64 u2) := Q24.out.cell 1
  have q2_ : w24.cell? ⟨w17.heap.size, 2, none⟩ = some (.int .i64 u3) := Q24.out.cell 2
  have q3_ : w24.cell? ⟨w17.heap.size, 3, none⟩ = some (.int .i64 u4) := Q24.out.cell 3
  have q4_ : w24.cell? ⟨w17.heap.size, 4, none⟩ = some (.int .i64 u5) := Q24.out.cell 4
  have q5_ : w24.cell? ⟨w17.heap.size, 5, none⟩ = some (.int .i64 u6) := Q24.out.cell 5
  have q6_ : w24.cell? ⟨w17.heap.size, 6, none⟩ = some (.int .i64 u7) := Q24.out.cell 6
  have q7_ : w24.cell? ⟨w17.heap.size, 7, none⟩ = some (.slice ux uN uy) := Q24.out.cell 7
  have s0_ : w24.cell? ⟨w19.heap.size, 0, none⟩ = some (.int .i64 u1) := S24.out.cell 0
  have s1_ : w24.cell? ⟨w19.heap.size, 1, none⟩ = some (.int .i64 u2) := S24.out.cell 1
  have s2_ : w24.cell? ⟨w19.heap.size, 2, none⟩ = some (.int .i64 u3) := S24.out.cell 2
  have s3_ : w24.cell? ⟨w19.heap.size, 3, none⟩ = some (.int .i64 u4) := S24.out.cell 3
  have s4_ : w24.cell? ⟨w19.heap.size, 4, none⟩ = some (.int .i64 u5) := S24.out.cell 4
  have s5_ : w24.cell? ⟨w19.heap.size, 5, none⟩ = some (.int .i64 u6) := S24.out.cell 5
  have s6_ : w24.cell? ⟨w19.heap.size, 6, none⟩ = some (.int .i64 u7) := S24.out.cell 6
  have s7_ : w24.cell? ⟨w19.heap.size, 7, none⟩ = some (.slice uq uN ud) := S24.out.cell 7
  go_wp2_with fail
  refine (O4.out ux uy _ B24.out (Su24.out)).mono ?_
  rintro e w25 ⟨rfl, hb⟩
  have Sl25 := Lib.hid (Sl24.out.keep hb)
  have Sm25 := Lib.hid (Sm24.out.keep hb)
  have So25 := Lib.hid (So24.out.keep hb)
  have Sr25 := Lib.hid (Sr24.out.keep hb)
  have Su25 := Lib.hid (Su24.out.keep hb)
  have B25 := Lib.hid (B24.out.trans (hb.mono B24.out.size))
  have X25 := Lib.hid (X24.out.below hb X24.out.lt)
  have Y25 := Lib.hid (Y24.out.below hb Y24.out.lt)
  have T25 := Lib.hid (T24.out.below hb T24.out.lt)
  have A25 := Lib.hid (A24.out.below hb A24.out.lt)
  have F25 := Lib.hid (F24.out.below hb F24.out.lt)
  have C25 := Lib.hid (C24.out.below hb C24.out.lt)
  have D25 := Lib.hid (D24.out.below hb D24.out.lt)
  have G25 := Lib.hid (G24.out.below hb G24.out.lt)
  have H25 := Lib.hid (H24.out.below hb H24.out.lt)
  have K25 := Lib.hid (K24.out.below hb K24.out.lt)
  have N25 := Lib.hid (N24.out.below hb N24.out.lt)
  have Q25 := Lib.hid (Q24.out.below hb Q24.out.lt)
  have S25 := Lib.hid (S24.out.below hb S24.out.lt)
  clear hb O4 q0_ q1_ q2_ q3_ q4_ q5_ q6_ q7_ s0_ s1_ s2_ s3_ s4_ s5_ s6_ s7_ X24 Y24 T24 A24 F24 C24 D24 G24 H24 K24 N24 Q24 S24 B24 Sl24 Sm24 So24 Sr24 Su24
  clear Sl25 Sm25 So25 Sr25 Su25
  clear A25 F25 C25 D25 G25 H25 K25 N25 Q25 S25
  go_wp2_with fail
  clear q0 q1 q2 q3 q4
  have zx0 : w25.drew.cell? ⟨w.heap.size, 0, none⟩ = some (.int .i64 a) := X25.out.cell 0
  have zx1 : w25.drew.cell? ⟨w.heap.size, 1, none⟩ = some (.int .i64 b) := X25.out.cell 1
  have zx2 : w25.drew.cell? ⟨w.heap.size, 2, none⟩ = some (.int .i64 c) := X25.out.cell 2
  have zy0 : w25.drew.cell? ⟨w.heap.size + 1, 0, none⟩ = some (.int .i64 j1) := Y25.out.cell 0
  have zy1 : w25.drew.cell? ⟨w.heap.size + 1, 1, none⟩ = some (.int .i64 j2) := Y25.out.cell 1
  have zy2 : w25.drew.cell? ⟨w.heap.size + 1, 2, none⟩ = some (.int .i64 j3) := Y25.out.cell 2
  have zy3 : w25.drew.cell? ⟨w.heap.size + 1, 3, none⟩ = some (.int .i64 j4) := Y25.out.cell 3
  have zy4 : w25.drew.cell? ⟨w.heap.size + 1, 4, none⟩ = some (.int .i64 j5) := Y25.out.cell 4
  have zy5 : w25.drew.cell? ⟨w.heap.size + 1, 5, none⟩ = some (.int .i64 j6) := Y25.out.cell 5
  have zy6 : w25.drew.cell? ⟨w.heap.size + 1, 6, none⟩ = some (.int .i64 j7) := Y25.out.cell 6
  have zy7 : w25.drew.cell? ⟨w.heap.size + 1, 7, none⟩ = some (.slice jq jN jd) := Y25.out.cell 7
  have zt0 : w25.drew.cell? ⟨w.heap.size + 2, 0, none⟩ = some (.int .i64 t0) := T25.out.cell 0
  have zt2 : w25.drew.cell? ⟨w.heap.size + 2, 2, none⟩ = some (.int .i64 t2) := T25.out.cell 2
  refine region_T 28 (fun w' => w'.cell? ⟨w.heap.size, 0, none⟩ = some (.int .i64 a) ∧ w'.cell? ⟨w.heap.size, 1, none⟩ = some (.int .i64 b) ∧ w'.cell? ⟨w.heap.size, 2, none⟩ = some (.int .i64 c) ∧ w'.cell? ⟨w.heap.size + 1, 0, none⟩ = some (.int .i64 j1) ∧ w'.cell? ⟨w.heap.size + 1, 1, none⟩ = some (.int .i64 j2) ∧ w'.cell? ⟨w.heap.size + 1, 2, none⟩ = some (.int .i64 j3) ∧ w'.cell? ⟨w.heap.size + 1, 3, none⟩ = some (.int .i64 j4) ∧ w'.cell? ⟨w.heap.size + 1, 4, none⟩ = some (.int .i64 j5) ∧ w'.cell? ⟨w.heap.size + 1, 5, none⟩ = some (.int .i64 j6) ∧ w'.cell? ⟨w.heap.size + 1, 6, none⟩ = some (.int .i64 j7) ∧ w'.cell? ⟨w.heap.size + 1, 7, none⟩ = some (.slice jq jN jd) ∧ w'.cell? ⟨w.heap.size + 2, 0, none⟩ = some (.int .i64 t0) ∧ w'.cell? ⟨w.heap.size + 2, 2, none⟩ = some (.int .i64 t2)) (by kernel_rfl) ⟨zx0, zx1, zx2, zy0, zy1, zy2, zy3, zy4, zy5, zy6, zy7, zt0, zt2⟩ (fun hS => ?_)
  clear zx0 zx1 zx2 zy0 zy1 zy2 zy3 zy4 zy5 zy6 zy7 zt0 zt2
  have B26 := Lib.hid (show Below w.heap.size w w25.drew from ⟨B25.out.os, B25.out.tape, B25.out.output, B25.out.size, B25.out.block⟩)
  have X26 := Lib.hid (X25.out.turn (S := fun _ => False) ((Turn.refl _ w25).drew) (fun hf => hf))
  have Y26 := Lib.hid (Y25.out.turn (S := fun _ => False) ((Turn.refl _ w25).drew) (fun hf => hf))
  have T26 := Lib.hid (T25.out.turn (S := fun _ => False) ((Turn.refl _ w25).drew) (fun hf => hf))
  refine oneL (i := 0) (by kernel_rfl) rfl (fun K hK => ?_)
  go_simp
  refine (AL.out _ B26.out).mono ?_
  rintro e v27 ⟨rfl, hb⟩
  have B27 := Lib.hid (B26.out.trans (hb.mono B26.out.size))
  have X27 := Lib.hid (X26.out.below hb X26.out.lt)
  have Y27 := Lib.hid (Y26.out.below hb Y26.out.lt)
  have T27 := Lib.hid (T26.out.below hb T26.out.lt)
  clear hb hS AL B26 X26 Y26 T26
  have zx0 : v27.cell? ⟨w.heap.size, 0, none⟩ = some (.int .i64 a) := X27.out.cell 0
  have zx1 : v27.cell? ⟨w.heap.size, 1, none⟩ = some (.int .i64 b) := X27.out.cell 1
  have zx2 : v27.cell? ⟨w.heap.size, 2, none⟩ = some (.int .i64 c) := X27.out.cell 2
  have zy0 : v27.cell? ⟨w.heap.size + 1, 0, none⟩ = some (.int .i64 j1) := Y27.out.cell 0
  have zy1 : v27.cell? ⟨w.heap.size + 1, 1, none⟩ = some (.int .i64 j2) := Y27.out.cell 1
  have zy2 : v27.cell? ⟨w.heap.size + 1, 2, none⟩ = some (.int .i64 j3) := Y27.out.cell 2
  have zy3 : v27.cell? ⟨w.heap.size + 1, 3, none⟩ = some (.int .i64 j4) := Y27.out.cell 3
  have zy4 : v27.cell? ⟨w.heap.size + 1, 4, none⟩ = some (.int .i64 j5) := Y27.out.cell 4
  have zy5 : v27.cell? ⟨w.heap.size + 1, 5, none⟩ = some (.int .i64 j6) := Y27.out.cell 5
  have zy6 : v27.cell? ⟨w.heap.size + 1, 6, none⟩ = some (.int .i64 j7) := Y27.out.cell 6
  have zy7 : v27.cell? ⟨w.heap.size + 1, 7, none⟩ = some (.slice jq jN jd) := Y27.out.cell 7
  have zt0 : v27.cell? ⟨w.heap.size + 2, 0, none⟩ = some (.int .i64 t0) := T27.out.cell 0
  have zt2 : v27.cell? ⟨w.heap.size + 2, 2, none⟩ = some (.int .i64 t2) := T27.out.cell 2
  refine hK.out _ _ (fun _ => ⟨zx0, zx1, zx2, zy0, zy1, zy2, zy3, zy4, zy5, zy6, zy7, zt0, zt2⟩) ?_
  clear hK K
  try simp only [Act.put, List.setIfInBounds_toArray, List.set_cons_zero, List.set_cons_succ]
  have hS := And.intro zx0 (And.intro zx1 (And.intro zx2 (And.intro zy0 (And.intro zy1 (And.intro zy2 (And.intro zy3 (And.intro zy4 (And.intro zy5 (And.intro zy6 (And.intro zy7 (And.intro zt0 (zt2))))))))))))
  clear zx0 zx1 zx2 zy0 zy1 zy2 zy3 zy4 zy5 zy6 zy7 zt0 zt2
  refine takeL (i := 1) (v := ?_) rfl (by kernel_rfl) (by kernel_rfl) (by kernel_rfl) (by kernel_rfl) (by kernel_rfl) (fun _ _ _ h => h) (Or.inl ⟨by rfl, ?_⟩) (by assumption) ?_
  rotate_left
  · (intro w' hSw; (try dsimp only at hSw); go_simp; with_reducible rfl)
  try simp only [Act.put, List.setIfInBounds_toArray, List.set_cons_zero, List.set_cons_succ]
  refine takeL (i := 2) (v := ?_) rfl (by kernel_rfl) (by kernel_rfl) (by kernel_rfl) (by kernel_rfl) (by kernel_rfl) (fun _ _ _ h => h) (Or.inl ⟨by rfl, ?_⟩) (by assumption) ?_
  rotate_left
  · (intro w' hSw; (try dsimp only at hSw); go_simp; with_reducible rfl)
  try simp only [Act.put, List.setIfInBounds_toArray, List.set_cons_zero, List.set_cons_succ]
  refine takeL (i := 3) (v := ?_) rfl (by kernel_rfl) (by kernel_rfl) (by kernel_rfl) (by kernel_rfl) (by kernel_rfl) (fun _ _ _ h => h) (Or.inl ⟨by rfl, ?_⟩) (by assumption) ?_
  rotate_left
  · (intro w' hSw; (try dsimp only at hSw); go_simp; with_reducible rfl)
  try simp only [Act.put, List.setIfInBounds_toArray, List.set_cons_zero, List.set_cons_succ]
  refine takeL (i := 5) (v := ?_) rfl (by kernel_rfl) (by kernel_rfl) (by kernel_rfl) (by kernel_rfl) (by kernel_rfl) (fun _ _ _ h => h) (Or.inl ⟨by rfl, ?_⟩) (by assumption) ?_
  rotate_left
  · (intro w' hSw; (try dsimp only at hSw); go_simp; with_reducible rfl)
  try simp only [Act.put, List.setIfInBounds_toArray, List.set_cons_zero, List.set_cons_succ]
  refine takeL (i := 6) (v := ?_) rfl (by kernel_rfl) (by kernel_rfl) (by kernel_rfl) (by kernel_rfl) (by kernel_rfl) (fun _ _ _ h => h) (Or.inl ⟨by rfl, ?_⟩) (by assumption) ?_
  rotate_left
  · (intro w' hSw; (try dsimp only at hSw); go_simp; with_reducible rfl)
  try simp only [Act.put, List.setIfInBounds_toArray, List.set_cons_zero, List.set_cons_succ]
  refine oneL (i := 4) (by kernel_rfl) rfl (fun K hK => ?_)
  go_simp
  refine (CA.out _ B27.out).mono ?_
  rintro e v28 ⟨rfl, hb⟩
  have B28 := Lib.hid (B27.out.trans (hb.mono B27.out.size))
  have X28 := Lib.hid (X27.out.below hb X27.out.lt)
  have Y28 := Lib.hid (Y27.out.below hb Y27.out.lt)
  have T28 := Lib.hid (T27.out.below hb T27.out.lt)
  clear hb hS CA B27 X27 Y27 T27
  have zx0 : v28.cell? ⟨w.heap.size, 0, none⟩ = some (.int .i64 a) := X28.out.cell 0
  have zx1 : v28.cell? ⟨w.heap.size, 1, none⟩ = some (.int .i64 b) := X28.out.cell 1
  have zx2 : v28.cell? ⟨w.heap.size, 2, none⟩ = some (.int .i64 c) := X28.out.cell 2
  have zy0 : v28.cell? ⟨w.heap.size + 1, 0, none⟩ = some (.int .i64 j1) := Y28.out.cell 0
  have zy1 : v28.cell? ⟨w.heap.size + 1, 1, none⟩ = some (.int .i64 j2) := Y28.out.cell 1
  have zy2 : v28.cell? ⟨w.heap.size + 1, 2, none⟩ = some (.int .i64 j3) := Y28.out.cell 2
  have zy3 : v28.cell? ⟨w.heap.size + 1, 3, none⟩ = some (.int .i64 j4) := Y28.out.cell 3
  have zy4 : v28.cell? ⟨w.heap.size + 1, 4, none⟩ = some (.int .i64 j5) := Y28.out.cell 4
  have zy5 : v28.cell? ⟨w.heap.size + 1, 5, none⟩ = some (.int .i64 j6) := Y28.out.cell 5
  have zy6 : v28.cell? ⟨w.heap.size + 1, 6, none⟩ = some (.int .i64 j7) := Y28.out.cell 6
  have zy7 : v28.cell? ⟨w.heap.size + 1, 7, none⟩ = some (.slice jq jN jd) := Y28.out.cell 7
  have zt0 : v28.cell? ⟨w.heap.size + 2, 0, none⟩ = some (.int .i64 t0) := T28.out.cell 0
  have zt2 : v28.cell? ⟨w.heap.size + 2, 2, none⟩ = some (.int .i64 t2) := T28.out.cell 2
  refine hK.out _ _ (fun _ => ⟨zx0, zx1, zx2, zy0, zy1, zy2, zy3, zy4, zy5, zy6, zy7, zt0, zt2⟩) ?_
  clear hK K
  try simp only [Act.put, List.setIfInBounds_toArray, List.set_cons_zero, List.set_cons_succ]
  have hS := And.intro zx0 (And.intro zx1 (And.intro zx2 (And.intro zy0 (And.intro zy1 (And.intro zy2 (And.intro zy3 (And.intro zy4 (And.intro zy5 (And.intro zy6 (And.intro zy7 (And.intro zt0 (zt2))))))))))))
  clear zx0 zx1 zx2 zy0 zy1 zy2 zy3 zy4 zy5 zy6 zy7 zt0 zt2
  refine oneL (i := 7) (by kernel_rfl) rfl (fun K hK => ?_)
  go_simp
  refine (RA.out _).mono ?_
  rintro e v29 ⟨rfl, hb⟩
  have B29 := Lib.hid (B28.out.trans (hb.mono B28.out.size))
  have X29 := Lib.hid (X28.out.below hb X28.out.lt)
  have Y29 := Lib.hid (Y28.out.below hb Y28.out.lt)
  have T29 := Lib.hid (T28.out.below hb T28.out.lt)
  clear hb hS RA B28 X28 Y28 T28
  have zx0 : v29.cell? ⟨w.heap.size, 0, none⟩ = some (.int .i64 a) := X29.out.cell 0
  have zx1 : v29.cell? ⟨w.heap.size, 1, none⟩ = some (.int .i64 b) := X29.out.cell 1
  have zx2 : v29.cell? ⟨w.heap.size, 2, none⟩ = some (.int .i64 c) := X29.out.cell 2
  have zy0 : v29.cell? ⟨w.heap.size + 1, 0, none⟩ = some (.int .i64 j1) := Y29.out.cell 0
  have zy1 : v29.cell? ⟨w.heap.size + 1, 1, none⟩ = some (.int .i64 j2) := Y29.out.cell 1
  have zy2 : v29.cell? ⟨w.heap.size + 1, 2, none⟩ = some (.int .i64 j3) := Y29.out.cell 2
  have zy3 : v29.cell? ⟨w.heap.size + 1, 3, none⟩ = some (.int .i64 j4) := Y29.out.cell 3
  have zy4 : v29.cell? ⟨w.heap.size + 1, 4, none⟩ = some (.int .i64 j5) := Y29.out.cell 4
  have zy5 : v29.cell? ⟨w.heap.size + 1, 5, none⟩ = some (.int .i64 j6) := Y29.out.cell 5
  have zy6 : v29.cell? ⟨w.heap.size + 1, 6, none⟩ = some (.int .i64 j7) := Y29.out.cell 6
  have zy7 : v29.cell? ⟨w.heap.size + 1, 7, none⟩ = some (.slice jq jN jd) := Y29.out.cell 7
  have zt0 : v29.cell? ⟨w.heap.size + 2, 0, none⟩ = some (.int .i64 t0) := T29.out.cell 0
  have zt2 : v29.cell? ⟨w.heap.size + 2, 2, none⟩ = some (.int .i64 t2) := T29.out.cell 2
  refine hK.out _ _ (fun _ => ⟨zx0, zx1, zx2, zy0, zy1, zy2, zy3, zy4, zy5, zy6, zy7, zt0, zt2⟩) ?_
  clear hK K
  try simp only [Act.put, List.setIfInBounds_toArray, List.set_cons_zero, List.set_cons_succ]
  have hS := And.intro zx0 (And.intro zx1 (And.intro zx2 (And.intro zy0 (And.intro zy1 (And.intro zy2 (And.intro zy3 (And.intro zy4 (And.intro zy5 (And.intro zy6 (And.intro zy7 (And.intro zt0 (zt2))))))))))))
  clear zx0 zx1 zx2 zy0 zy1 zy2 zy3 zy4 zy5 zy6 zy7 zt0 zt2
  have ta : (al == al) = true := by simp
  have tm : (ml == ml) = true := by simp
  refine takeL (i := 8) (v := ?_) rfl (by kernel_rfl) (by kernel_rfl) (by kernel_rfl) (by kernel_rfl) (by kernel_rfl) (fun _ _ _ h => h) (Or.inl ⟨by rfl, ?_⟩) (by assumption) ?_
  rotate_left
  · (intro w' hSw; (try dsimp only at hSw); go_simp; with_reducible rfl)
  try simp only [Act.put, List.setIfInBounds_toArray, List.set_cons_zero, List.set_cons_succ]
  refine takeL (i := 9) (v := ?_) rfl (by kernel_rfl) (by kernel_rfl) (by kernel_rfl) (by kernel_rfl) (by kernel_rfl) (fun _ _ _ h => h) (Or.inl ⟨by rfl, ?_⟩) (by assumption) ?_
  rotate_left
  · (intro w' hSw; (try dsimp only at hSw); go_simp; with_reducible rfl)
  try simp only [Act.put, List.setIfInBounds_toArray, List.set_cons_zero, List.set_cons_succ]
  refine takeL (i := 10) (v := ?_) rfl (by kernel_rfl) (by kernel_rfl) (by kernel_rfl) (by kernel_rfl) (by kernel_rfl) (fun _ _ _ h => h) (Or.inl ⟨by rfl, ?_⟩) (by assumption) ?_
  rotate_left
  · (intro w' hSw; (try dsimp only at hSw); go_simp; with_reducible rfl)
  try simp only [Act.put, List.setIfInBounds_toArray, List.set_cons_zero, List.set_cons_succ]
  refine takeL (i := 11) (v := ?_) rfl (by kernel_rfl) (by kernel_rfl) (by kernel_rfl) (by kernel_rfl) (by kernel_rfl) (fun _ _ _ h => h) (Or.inl ⟨by rfl, ?_⟩) (by assumption) ?_
  rotate_left
  · (intro w' hSw; (try dsimp only at hSw); go_simp; with_reducible rfl)
  try simp only [Act.put, List.setIfInBounds_toArray, List.set_cons_zero, List.set_cons_succ]
  refine takeL (i := 12) (v := ?_) rfl (by kernel_rfl) (by kernel_rfl) (by kernel_rfl) (by kernel_rfl) (by kernel_rfl) (fun _ _ _ h => h) (Or.inl ⟨by rfl, ?_⟩) (by assumption) ?_
  rotate_left
  · (intro w' hSw; (try dsimp only at hSw); go_simp; with_reducible rfl)
  try simp only [Act.put, List.setIfInBounds_toArray, List.set_cons_zero, List.set_cons_succ]
  refine takeL (i := 13) (v := ?_) rfl (by kernel_rfl) (by kernel_rfl) (by kernel_rfl) (by kernel_rfl) (by kernel_rfl) (fun _ _ _ h => h) (Or.inl ⟨by rfl, ?_⟩) (by assumption) ?_
  rotate_left
  · (intro w' hSw; (try dsimp only at hSw); go_simp; with_reducible rfl)
  try simp only [Act.put, List.setIfInBounds_toArray, List.set_cons_zero, List.set_cons_succ]
  refine takeL (i := 14) (v := ?_) rfl (by kernel_rfl) (by kernel_rfl) (by kernel_rfl) (by kernel_rfl) (by kernel_rfl) (fun _ _ _ h => h) (Or.inl ⟨by rfl, ?_⟩) (by assumption) ?_
  rotate_left
  · (intro w' hSw; (try dsimp only at hSw); go_simp; with_reducible rfl)
  try simp only [Act.put, List.setIfInBounds_toArray, List.set_cons_zero, List.set_cons_succ]
  refine takeL (i := 15) (v := ?_) rfl (by kernel_rfl) (by kernel_rfl) (by kernel_rfl) (by kernel_rfl) (by kernel_rfl) (fun _ _ _ h => h) (Or.inl ⟨by rfl, ?_⟩) (by assumption) ?_
  rotate_left
  · (intro w' hSw; (try dsimp only at hSw); go_simp; with_reducible rfl)
  try simp only [Act.put, List.setIfInBounds_toArray, List.set_cons_zero, List.set_cons_succ]
  refine takeL (i := 16) (v := ?_) rfl (by kernel_rfl) (by kernel_rfl) (by kernel_rfl) (by kernel_rfl) (by kernel_rfl) (fun _ _ _ h => h) (Or.inl ⟨by rfl, ?_⟩) (by assumption) ?_
  rotate_left
  · (intro w' hSw; (try dsimp only at hSw); go_simp; with_reducible rfl)
  try simp only [Act.put, List.setIfInBounds_toArray, List.set_cons_zero, List.set_cons_succ]
  refine takeL (i := 18) (v := ?_) rfl (by kernel_rfl) (by kernel_rfl) (by kernel_rfl) (by kernel_rfl) (by kernel_rfl) (fun _ _ _ h => h) (Or.inl ⟨by rfl, ?_⟩) (by assumption) ?_
  rotate_left
  · (intro w' hSw; (try dsimp only at hSw); go_simp; with_reducible rfl)
  try simp only [Act.put, List.setIfInBounds_toArray, List.set_cons_zero, List.set_cons_succ]
  refine takeL (i := 19) (v := ?_) rfl (by kernel_rfl) (by kernel_rfl) (by kernel_rfl) (by kernel_rfl) (by kernel_rfl) (fun _ _ _ h => h) (Or.inl ⟨by rfl, ?_⟩) (by assumption) ?_
  rotate_left
  · (intro w' hSw; (try dsimp only at hSw); go_simp; with_reducible rfl)
  try simp only [Act.put, List.setIfInBounds_toArray, List.set_cons_zero, List.set_cons_succ]
  refine takeL (i := 20) (v := ?_) rfl (by kernel_rfl) (by kernel_rfl) (by kernel_rfl) (by kernel_rfl) (by kernel_rfl) (fun _ _ _ h => h) (Or.inl ⟨by rfl, ?_⟩) (by assumption) ?_
  rotate_left
  · (intro w' hSw; (try dsimp only at hSw); go_simp; with_reducible rfl)
  try simp only [Act.put, List.setIfInBounds_toArray, List.set_cons_zero, List.set_cons_succ]
  refine takeL (i := 21) (v := ?_) rfl (by kernel_rfl) (by kernel_rfl) (by kernel_rfl) (by kernel_rfl) (by kernel_rfl) (fun _ _ _ h => h) (Or.inl ⟨by rfl, ?_⟩) (by assumption) ?_
  rotate_left
  · (intro w' hSw; (try dsimp only at hSw); go_simp; with_reducible rfl)
  try simp only [Act.put, List.setIfInBounds_toArray, List.set_cons_zero, List.set_cons_succ]
  refine takeL (i := 22) (v := ?_) rfl (by kernel_rfl) (by kernel_rfl) (by kernel_rfl) (by kernel_rfl) (by kernel_rfl) (fun _ _ _ h => h) (Or.inl ⟨by rfl, ?_⟩) (by assumption) ?_
  rotate_left
  · (intro w' hSw; (try dsimp only at hSw); go_simp; with_reducible rfl)
  try simp only [Act.put, List.setIfInBounds_toArray, List.set_cons_zero, List.set_cons_succ]
  refine takeL (i := 23) (v := ?_) rfl (by kernel_rfl) (by kernel_rfl) (by kernel_rfl) (by kernel_rfl) (by kernel_rfl) (fun _ _ _ h => h) (Or.inl ⟨by rfl, ?_⟩) (by assumption) ?_
  rotate_left
  · (intro w' hSw; (try dsimp only at hSw); go_simp; with_reducible rfl)
  try simp only [Act.put, List.setIfInBounds_toArray, List.set_cons_zero, List.set_cons_succ]
  refine oneL (i := 17) (by kernel_rfl) rfl (fun K hK => ?_)
  go_simp
  refine (CM.out _ B29.out).mono ?_
  rintro e v30 ⟨rfl, hb⟩
  have B30 := Lib.hid (B29.out.trans (hb.mono B29.out.size))
  have X30 := Lib.hid (X29.out.below hb X29.out.lt)
  have Y30 := Lib.hid (Y29.out.below hb Y29.out.lt)
  have T30 := Lib.hid (T29.out.below hb T29.out.lt)
  clear hb hS CM B29 X29 Y29 T29
  have zx0 : v30.cell? ⟨w.heap.size, 0, none⟩ = some (.int .i64 a) := X30.out.cell 0
  have zx1 : v30.cell? ⟨w.heap.size, 1, none⟩ = some (.int .i64 b) := X30.out.cell 1
  have zx2 : v30.cell? ⟨w.heap.size, 2, none⟩ = some (.int .i64 c) := X30.out.cell 2
  have zy0 : v30.cell? ⟨w.heap.size + 1, 0, none⟩ = some (.int .i64 j1) := Y30.out.cell 0
  have zy1 : v30.cell? ⟨w.heap.size + 1, 1, none⟩ = some (.int .i64 j2) := Y30.out.cell 1
  have zy2 : v30.cell? ⟨w.heap.size + 1, 2, none⟩ = some (.int .i64 j3) := Y30.out.cell 2
  have zy3 : v30.cell? ⟨w.heap.size + 1, 3, none⟩ = some (.int .i64 j4) := Y30.out.cell 3
  have zy4 : v30.cell? ⟨w.heap.size + 1, 4, none⟩ = some (.int .i64 j5) := Y30.out.cell 4
  have zy5 : v30.cell? ⟨w.heap.size + 1, 5, none⟩ = some (.int .i64 j6) := Y30.out.cell 5
  have zy6 : v30.cell? ⟨w.heap.size + 1, 6, none⟩ = some (.int .i64 j7) := Y30.out.cell 6
  have zy7 : v30.cell? ⟨w.heap.size + 1, 7, none⟩ = some (.slice jq jN jd) := Y30.out.cell 7
  have zt0 : v30.cell? ⟨w.heap.size + 2, 0, none⟩ = some (.int .i64 t0) := T30.out.cell 0
  have zt2 : v30.cell? ⟨w.heap.size + 2, 2, none⟩ = some (.int .i64 t2) := T30.out.cell 2
  refine hK.out _ _ (fun _ => ⟨zx0, zx1, zx2, zy0, zy1, zy2, zy3, zy4, zy5, zy6, zy7, zt0, zt2⟩) ?_
  clear hK K
  try simp only [Act.put, List.setIfInBounds_toArray, List.set_cons_zero, List.set_cons_succ]
  have hS := And.intro zx0 (And.intro zx1 (And.intro zx2 (And.intro zy0 (And.intro zy1 (And.intro zy2 (And.intro zy3 (And.intro zy4 (And.intro zy5 (And.intro zy6 (And.intro zy7 (And.intro zt0 (zt2))))))))))))
  clear zx0 zx1 zx2 zy0 zy1 zy2 zy3 zy4 zy5 zy6 zy7 zt0 zt2
  refine oneL (i := 24) (by kernel_rfl) rfl (fun K hK => ?_)
  go_simp
  refine (RM.out _).mono ?_
  rintro e v31 ⟨rfl, hb⟩
  have B31 := Lib.hid (B30.out.trans (hb.mono B30.out.size))
  have X31 := Lib.hid (X30.out.below hb X30.out.lt)
  have Y31 := Lib.hid (Y30.out.below hb Y30.out.lt)
  have T31 := Lib.hid (T30.out.below hb T30.out.lt)
  clear hb hS RM B30 X30 Y30 T30
  have zx0 : v31.cell? ⟨w.heap.size, 0, none⟩ = some (.int .i64 a) := X31.out.cell 0
  have zx1 : v31.cell? ⟨w.heap.size, 1, none⟩ = some (.int .i64 b) := X31.out.cell 1
  have zx2 : v31.cell? ⟨w.heap.size, 2, none⟩ = some (.int .i64 c) := X31.out.cell 2
  have zy0 : v31.cell? ⟨w.heap.size + 1, 0, none⟩ = some (.int .i64 j1) := Y31.out.cell 0
  have zy1 : v31.cell? ⟨w.heap.size + 1, 1, none⟩ = some (.int .i64 j2) := Y31.out.cell 1
  have zy2 : v31.cell? ⟨w.heap.size + 1, 2, none⟩ = some (.int .i64 j3) := Y31.out.cell 2
  have zy3 : v31.cell? ⟨w.heap.size + 1, 3, none⟩ = some (.int .i64 j4) := Y31.out.cell 3
  have zy4 : v31.cell? ⟨w.heap.size + 1, 4, none⟩ = some (.int .i64 j5) := Y31.out.cell 4
  have zy5 : v31.cell? ⟨w.heap.size + 1, 5, none⟩ = some (.int .i64 j6) := Y31.out.cell 5
  have zy6 : v31.cell? ⟨w.heap.size + 1, 6, none⟩ = some (.int .i64 j7) := Y31.out.cell 6
  have zy7 : v31.cell? ⟨w.heap.size + 1, 7, none⟩ = some (.slice jq jN jd) := Y31.out.cell 7
  have zt0 : v31.cell? ⟨w.heap.size + 2, 0, none⟩ = some (.int .i64 t0) := T31.out.cell 0
  have zt2 : v31.cell? ⟨w.heap.size + 2, 2, none⟩ = some (.int .i64 t2) := T31.out.cell 2
  refine hK.out _ _ (fun _ => ⟨zx0, zx1, zx2, zy0, zy1, zy2, zy3, zy4, zy5, zy6, zy7, zt0, zt2⟩) ?_
  clear hK K
  try simp only [Act.put, List.setIfInBounds_toArray, List.set_cons_zero, List.set_cons_succ]
  have hS := And.intro zx0 (And.intro zx1 (And.intro zx2 (And.intro zy0 (And.intro zy1 (And.intro zy2 (And.intro zy3 (And.intro zy4 (And.intro zy5 (And.intro zy6 (And.intro zy7 (And.intro zt0 (zt2))))))))))))
  clear zx0 zx1 zx2 zy0 zy1 zy2 zy3 zy4 zy5 zy6 zy7 zt0 zt2
  refine takeL (i := 25) (v := ?_) rfl (by kernel_rfl) (by kernel_rfl) (by kernel_rfl) (by kernel_rfl) (by kernel_rfl) (fun _ _ _ h => h) (Or.inl ⟨by rfl, ?_⟩) (by assumption) ?_
  rotate_left
  · (intro w' hSw; (try dsimp only at hSw); go_simp; with_reducible rfl)
  try simp only [Act.put, List.setIfInBounds_toArray, List.set_cons_zero, List.set_cons_succ]
  refine takeL (i := 26) (v := ?_) rfl (by kernel_rfl) (by kernel_rfl) (by kernel_rfl) (by kernel_rfl) (by kernel_rfl) (fun _ _ _ h => h) (Or.inl ⟨by rfl, ?_⟩) (by assumption) ?_
  rotate_left
  · (intro w' hSw; (try dsimp only at hSw); go_simp; with_reducible rfl)
  try simp only [Act.put, List.setIfInBounds_toArray, List.set_cons_zero, List.set_cons_succ]
  refine takeL (i := 27) (v := ?_) rfl (by kernel_rfl) (by kernel_rfl) (by kernel_rfl) (by kernel_rfl) (by kernel_rfl) (fun _ _ _ h => h) (Or.inl ⟨by rfl, ?_⟩) (by assumption) ?_
  rotate_left
  · (intro w' hSw; (try dsimp only at hSw); go_simp; with_reducible rfl)
  try simp only [Act.put, List.setIfInBounds_toArray, List.set_cons_zero, List.set_cons_succ]
  refine doneO (by kernel_rfl) ?_ _
  clear hS
  go_wp2
  go_ret
  exact ⟨rfl, B31.out⟩
end Kp
end Go.Proofs.YtgmjmkkhoibbcaaDoor
