/- The walk over package keep's Judge; the bundle of package keep. Condition: the table is as the program lays it. -/
import Derived.Test.YtgmjmkkhoibbcaaDoorKpD
import Derived.Test.YtgmjmkkhoibbcaaDoorKpP
namespace Go.Proofs.YtgmjmkkhoibbcaaDoor
open Go.RowKit Lo

namespace Kp
def JudEnd (w : World) (Z : Lv) (b : Bool) (e : Ending) (w' : World) : Prop := ∃ q d, e = .returned (.tuple #[lval (re Z q d), .bool b]) ∧ Told w w' (re Z q d) ∧ Below w.heap.size w w'
set_option maxRecDepth 100000 in
set_option maxHeartbeats 8000000 in
theorem pjudge_yes (p : Ms.Pd) (y : Lv) (x : Int) (w : World) (hr : Su.Tabl w) (hs : St w y) (hn : y.n ≤ 1000000) (h1 : y.x.status = 1) (ho : overB p y.x x = true) : Calls Tryd.prog 6 #[Ms.pval p, lval y, .int .i64 x] w (JudEnd w { y with x := { y.x with status := 2, order := 0 } } true) := by
  have CO := Lib.hid (fun W => pover_any p y x W)
  rw [ho] at CO
  have CH := Lib.hid (fun W (hW : Below w.heap.size w W) => phold_any y W (hr.on hW) (hs.keep hW) hn)
  have hh : holdL y = ({ y with x := { y.x with status := 2, order := 0 } }, 0) := by
    unfold holdL
    rw [h1, if_neg (fun h => h (by decide)), show Su.aft 1 1 = 2 by decide]
  rw [hh] at CH
  unfold JudEnd
  unfold BehEnd at CH
  clear hr hs hn ho hh
  obtain ⟨ka, kb, kc⟩ := p
  obtain ⟨⟨i1, i2, i3, i4, i5, i6, i7, S⟩, q, n, d⟩ := y
  simp only at h1
  subst h1
  simp only [Ms.pval, lval, re] at CO CH ⊢
  obtain ⟨w1, hw1, B1, X1, Y1, Z1⟩ := boxes3 w #[.int .i64 ka, .int .i64 kb, .int .i64 kc] #[.int .i64 i1, .int .i64 i2, .int .i64 i3, .int .i64 i4, .int .i64 i5, .int .i64 i6, .int .i64 1, .slice q n d] #[.int .i64 0, .int .i64 0, .int .i64 0, .int .i64 0, .int .i64 0, .int .i64 0, .int .i64 0, .slice none 0 0] 23 27 27
  have x0 : w1.cell? ⟨w.heap.size, 0, none⟩ = some (.int .i64 ka) := X1.out.cell 0
  have x1 : w1.cell? ⟨w.heap.size, 1, none⟩ = some (.int .i64 kb) := X1.out.cell 1
  have x2 : w1.cell? ⟨w.heap.size, 2, none⟩ = some (.int .i64 kc) := X1.out.cell 2
  have y0 : w1.cell? ⟨w.heap.size + 1, 0, none⟩ = some (.int .i64 i1) := Y1.out.cell 0
  have y1 : w1.cell? ⟨w.heap.size + 1, 1, none⟩ = some (.int .i64 i2) := Y1.out.cell 1
  have y2 : w1.cell? ⟨w.heap.size + 1, 2, none⟩ = some (.int .i64 i3) := Y1.out.cell 2
  have y3 : w1.cell? ⟨w.heap.size + 1, 3, none⟩ = some (.int .i64 i4) := Y1.out.cell 3
  have y4 : w1.cell? ⟨w.heap.size + 1, 4, none⟩ = some (.int .i64 i5) := Y1.out.cell 4
  have y5 : w1.cell? ⟨w.heap.size + 1, 5, none⟩ = some (.int .i64 i6) := Y1.out.cell 5
  have y6 : w1.cell? ⟨w.heap.size + 1, 6, none⟩ = some (.int .i64 1) := Y1.out.cell 6
  have y7 : w1.cell? ⟨w.heap.size + 1, 7, none⟩ = some (.slice q n d) := Y1.out.cell 7
  go_enter Tryd.func6, Tryd.ntmps6
  go_wp2_with fail
  refine (CO.out _).mono ?_
  rintro e w2 ⟨rfl, hb⟩
  have B2 := Lib.hid (B1.out.trans (hb.mono B1.out.size))
  have Y2 := Lib.hid (Y1.out.below hb Y1.out.lt)
  have Z2 := Lib.hid (Z1.out.below hb Z1.out.lt)
  clear hw1 hb x0 x1 x2 y0 y1 y2 y3 y4 y5 y6 y7 CO X1 Y1 Z1 B1
  have y0 : w2.cell? ⟨w.heap.size + 1, 0, none⟩ = some (.int .i64 i1) := Y2.out.cell 0
  have y1 : w2.cell? ⟨w.heap.size + 1, 1, none⟩ = some (.int .i64 i2) := Y2.out.cell 1
  have y2 : w2.cell? ⟨w.heap.size + 1, 2, none⟩ = some (.int .i64 i3) := Y2.out.cell 2
  have y3 : w2.cell? ⟨w.heap.size + 1, 3, none⟩ = some (.int .i64 i4) := Y2.out.cell 3
  have y4 : w2.cell? ⟨w.heap.size + 1, 4, none⟩ = some (.int .i64 i5) := Y2.out.cell 4
  have y5 : w2.cell? ⟨w.heap.size + 1, 5, none⟩ = some (.int .i64 i6) := Y2.out.cell 5
  have y6 : w2.cell? ⟨w.heap.size + 1, 6, none⟩ = some (.int .i64 1) := Y2.out.cell 6
  have y7 : w2.cell? ⟨w.heap.size + 1, 7, none⟩ = some (.slice q n d) := Y2.out.cell 7
  go_wp2_with fail
  refine (CH.out _ B2.out).mono ?_
  rintro e w4 ⟨zq, zd, rfl, ht, hb⟩
  have Z4 := Lib.hid (Z2.out.below hb Z2.out.lt)
  have HO := Lib.hid (beh_out (r := w.heap.size + 2) B2.out (Nat.le_add_right _ _) Z2.out.lt ht hb)
  clear ht hb Z2 Y2 B2 CH y0 y1 y2 y3 y4 y5 y6 y7
  go_upto_region 4 with fail
  have Z5 := Lib.hid (Z4.out.alloc (.cells #[.int .i64 i1, .int .i64 i2, .int .i64 i3, .int .i64 i4, .int .i64 i5, .int .i64 0, .int .i64 2, .slice zq n zd] 27))
  have A5 := Lib.hid (Lies.new w4 27 #[.int .i64 i1, .int .i64 i2, .int .i64 i3, .int .i64 i4, .int .i64 i5, .int .i64 0, .int .i64 2, .slice zq n zd])
  have T5 := Lib.hid ((Turn.refl (fun k => k = w.heap.size + 2) w4).alloc (.cells #[.int .i64 i1, .int .i64 i2, .int .i64 i3, .int .i64 i4, .int .i64 i5, .int .i64 0, .int .i64 2, .slice zq n zd] 27))
  clear Z4
  generalize w4.alloc (.cells #[.int .i64 i1, .int .i64 i2, .int .i64 i3, .int .i64 i4, .int .i64 i5, .int .i64 0, .int .i64 2, .slice zq n zd] 27) = w5 at *
  have y0 : w5.cell? ⟨w4.heap.size, 0, none⟩ = some (.int .i64 i1) := A5.out.cell 0
  have y1 : w5.cell? ⟨w4.heap.size, 1, none⟩ = some (.int .i64 i2) := A5.out.cell 1
  have y2 : w5.cell? ⟨w4.heap.size, 2, none⟩ = some (.int .i64 i3) := A5.out.cell 2
  have y3 : w5.cell? ⟨w4.heap.size, 3, none⟩ = some (.int .i64 i4) := A5.out.cell 3
  have y4 : w5.cell? ⟨w4.heap.size, 4, none⟩ = some (.int .i64 i5) := A5.out.cell 4
  have y5 : w5.cell? ⟨w4.heap.size, 5, none⟩ = some (.int .i64 0) := A5.out.cell 5
  have y6 : w5.cell? ⟨w4.heap.size, 6, none⟩ = some (.int .i64 2) := A5.out.cell 6
  have y7 : w5.cell? ⟨w4.heap.size, 7, none⟩ = some (.slice zq n zd) := A5.out.cell 7
  have r0 : w5.cell? ⟨w.heap.size + 2, 0, none⟩ = some (.int .i64 0) := Z5.out.cell 0
  have r1 : w5.cell? ⟨w.heap.size + 2, 1, none⟩ = some (.int .i64 0) := Z5.out.cell 1
  have r2 : w5.cell? ⟨w.heap.size + 2, 2, none⟩ = some (.int .i64 0) := Z5.out.cell 2
  have r3 : w5.cell? ⟨w.heap.size + 2, 3, none⟩ = some (.int .i64 0) := Z5.out.cell 3
  have r4 : w5.cell? ⟨w.heap.size + 2, 4, none⟩ = some (.int .i64 0) := Z5.out.cell 4
  have r5 : w5.cell? ⟨w.heap.size + 2, 5, none⟩ = some (.int .i64 0) := Z5.out.cell 5
  have r6 : w5.cell? ⟨w.heap.size + 2, 6, none⟩ = some (.int .i64 0) := Z5.out.cell 6
  have r7 : w5.cell? ⟨w.heap.size + 2, 7, none⟩ = some (.slice none 0 0) := Z5.out.cell 7
  have g0 : w5.frozen? ⟨w.heap.size + 2, 0, none⟩ = false := Z5.out.frozen 0
  have g1 : w5.frozen? ⟨w.heap.size + 2, 1, none⟩ = false := Z5.out.frozen 1
  have g2 : w5.frozen? ⟨w.heap.size + 2, 2, none⟩ = false := Z5.out.frozen 2
  have g3 : w5.frozen? ⟨w.heap.size + 2, 3, none⟩ = false := Z5.out.frozen 3
  have g4 : w5.frozen? ⟨w.heap.size + 2, 4, none⟩ = false := Z5.out.frozen 4
  have g5 : w5.frozen? ⟨w.heap.size + 2, 5, none⟩ = false := Z5.out.frozen 5
  have g6 : w5.frozen? ⟨w.heap.size + 2, 6, none⟩ = false := Z5.out.frozen 6
  have g7 : w5.frozen? ⟨w.heap.size + 2, 7, none⟩ = false := Z5.out.frozen 7
  clear Z5 A5
  go_wp2
  refine bodyPost_ret (v := .tuple #[.agg #[.int .i64 i1, .int .i64 i2, .int .i64 i3, .int .i64 i4, .int .i64 i5, .int .i64 0, .int .i64 2, .slice zq n zd], .bool true]) (by simp [results, Tryd.results6, go_sem, r0, r1, r2, r3, r4, r5, r6, r7]) rfl ?_
  refine ⟨zq, zd, rfl, HO.out _ ?_⟩
  iterate 8 refine Turn.setCell ?_ (by exact .inl rfl) _
  exact T5.out
set_option maxRecDepth 100000 in
set_option maxHeartbeats 8000000 in
theorem pjudge_under (p : Ms.Pd) (y : Lv) (x : Int) (w : World) (hs : St w y) (hn : y.n ≤ 1000000) (h1 : y.x.status = 1) (ho : overB p y.x x = false) : Calls Tryd.prog 6 #[Ms.pval p, lval y, .int .i64 x] w (JudEnd w y false) := by
  have CO := Lib.hid (fun W => pover_any p y x W)
  rw [ho] at CO
  have CP := Lib.hid (fun W (hW : Below w.heap.size w W) => papart_any y W (hs.keep hW) hn)
  have hlen := hs.len
  unfold JudEnd
  clear hs hn ho
  obtain ⟨ka, kb, kc⟩ := p
  obtain ⟨⟨i1, i2, i3, i4, i5, i6, i7, S⟩, q, n, d⟩ := y
  simp only at h1
  subst h1
  simp only [Ms.pval, lval, re] at CO CP hlen ⊢
  obtain ⟨w1, hw1, B1, X1, Y1, Z1⟩ := boxes3 w #[.int .i64 ka, .int .i64 kb, .int .i64 kc] #[.int .i64 i1, .int .i64 i2, .int .i64 i3, .int .i64 i4, .int .i64 i5, .int .i64 i6, .int .i64 1, .slice q n d] #[.int .i64 0, .int .i64 0, .int .i64 0, .int .i64 0, .int .i64 0, .int .i64 0, .int .i64 0, .slice none 0 0] 23 27 27
  have x0 : w1.cell? ⟨w.heap.size, 0, none⟩ = some (.int .i64 ka) := X1.out.cell 0
  have x1 : w1.cell? ⟨w.heap.size, 1, none⟩ = some (.int .i64 kb) := X1.out.cell 1
  have x2 : w1.cell? ⟨w.heap.size, 2, none⟩ = some (.int .i64 kc) := X1.out.cell 2
  have y0 : w1.cell? ⟨w.heap.size + 1, 0, none⟩ = some (.int .i64 i1) := Y1.out.cell 0
  have y1 : w1.cell? ⟨w.heap.size + 1, 1, none⟩ = some (.int .i64 i2) := Y1.out.cell 1
  have y2 : w1.cell? ⟨w.heap.size + 1, 2, none⟩ = some (.int .i64 i3) := Y1.out.cell 2
  have y3 : w1.cell? ⟨w.heap.size + 1, 3, none⟩ = some (.int .i64 i4) := Y1.out.cell 3
  have y4 : w1.cell? ⟨w.heap.size + 1, 4, none⟩ = some (.int .i64 i5) := Y1.out.cell 4
  have y5 : w1.cell? ⟨w.heap.size + 1, 5, none⟩ = some (.int .i64 i6) := Y1.out.cell 5
  have y6 : w1.cell? ⟨w.heap.size + 1, 6, none⟩ = some (.int .i64 1) := Y1.out.cell 6
  have y7 : w1.cell? ⟨w.heap.size + 1, 7, none⟩ = some (.slice q n d) := Y1.out.cell 7
  go_enter Tryd.func6, Tryd.ntmps6
  go_wp2_with fail
  refine (CO.out _).mono ?_
  rintro e w2 ⟨rfl, hb⟩
  have B2 := Lib.hid (B1.out.trans (hb.mono B1.out.size))
  have Y2 := Lib.hid (Y1.out.below hb Y1.out.lt)
  have Z2 := Lib.hid (Z1.out.below hb Z1.out.lt)
  clear hw1 hb x0 x1 x2 y0 y1 y2 y3 y4 y5 y6 y7 CO X1 Y1 Z1 B1
  have y0 : w2.cell? ⟨w.heap.size + 1, 0, none⟩ = some (.int .i64 i1) := Y2.out.cell 0
  have y1 : w2.cell? ⟨w.heap.size + 1, 1, none⟩ = some (.int .i64 i2) := Y2.out.cell 1
  have y2 : w2.cell? ⟨w.heap.size + 1, 2, none⟩ = some (.int .i64 i3) := Y2.out.cell 2
  have y3 : w2.cell? ⟨w.heap.size + 1, 3, none⟩ = some (.int .i64 i4) := Y2.out.cell 3
  have y4 : w2.cell? ⟨w.heap.size + 1, 4, none⟩ = some (.int .i64 i5) := Y2.out.cell 4
  have y5 : w2.cell? ⟨w.heap.size + 1, 5, none⟩ = some (.int .i64 i6) := Y2.out.cell 5
  have y6 : w2.cell? ⟨w.heap.size + 1, 6, none⟩ = some (.int .i64 1) := Y2.out.cell 6
  have y7 : w2.cell? ⟨w.heap.size + 1, 7, none⟩ = some (.slice q n d) := Y2.out.cell 7
  go_wp2_with fail
  refine (CP.out _ B2.out).mono ?_
  rintro e w4 ⟨⟨zx, zq, zn, zd⟩, hzx, rfl, hst, hfr, hb⟩
  simp only at hzx
  subst hzx
  obtain rfl : zn = n := hst.len.symm.trans hlen
  simp only [lval]
  have Z4 := Lib.hid (Z2.out.below hb Z2.out.lt)
  have HO := Lib.hid (beh_out (r := w.heap.size + 2) B2.out (Nat.le_add_right _ _) Z2.out.lt ⟨hst, hfr⟩ hb)
  clear hst hfr hb Z2 Y2 B2 CP y0 y1 y2 y3 y4 y5 y6 y7
  have r0 : w4.cell? ⟨w.heap.size + 2, 0, none⟩ = some (.int .i64 0) := Z4.out.cell 0
  have r1 : w4.cell? ⟨w.heap.size + 2, 1, none⟩ = some (.int .i64 0) := Z4.out.cell 1
  have r2 : w4.cell? ⟨w.heap.size + 2, 2, none⟩ = some (.int .i64 0) := Z4.out.cell 2
  have r3 : w4.cell? ⟨w.heap.size + 2, 3, none⟩ = some (.int .i64 0) := Z4.out.cell 3
  have r4 : w4.cell? ⟨w.heap.size + 2, 4, none⟩ = some (.int .i64 0) := Z4.out.cell 4
  have r5 : w4.cell? ⟨w.heap.size + 2, 5, none⟩ = some (.int .i64 0) := Z4.out.cell 5
  have r6 : w4.cell? ⟨w.heap.size + 2, 6, none⟩ = some (.int .i64 0) := Z4.out.cell 6
  have r7 : w4.cell? ⟨w.heap.size + 2, 7, none⟩ = some (.slice none 0 0) := Z4.out.cell 7
  have g0 : w4.frozen? ⟨w.heap.size + 2, 0, none⟩ = false := Z4.out.frozen 0
  have g1 : w4.frozen? ⟨w.heap.size + 2, 1, none⟩ = false := Z4.out.frozen 1
  have g2 : w4.frozen? ⟨w.heap.size + 2, 2, none⟩ = false := Z4.out.frozen 2
  have g3 : w4.frozen? ⟨w.heap.size + 2, 3, none⟩ = false := Z4.out.frozen 3
  have g4 : w4.frozen? ⟨w.heap.size + 2, 4, none⟩ = false := Z4.out.frozen 4
  have g5 : w4.frozen? ⟨w.heap.size + 2, 5, none⟩ = false := Z4.out.frozen 5
  have g6 : w4.frozen? ⟨w.heap.size + 2, 6, none⟩ = false := Z4.out.frozen 6
  have g7 : w4.frozen? ⟨w.heap.size + 2, 7, none⟩ = false := Z4.out.frozen 7
  clear Z4
  go_wp2
  refine bodyPost_ret (v := .tuple #[.agg #[.int .i64 i1, .int .i64 i2, .int .i64 i3, .int .i64 i4, .int .i64 i5, .int .i64 i6, .int .i64 1, .slice zq zn zd], .bool false]) (by simp [results, Tryd.results6, go_sem, r0, r1, r2, r3, r4, r5, r6, r7]) rfl ?_
  refine ⟨zq, zd, rfl, HO.out _ ?_⟩
  iterate 8 refine Turn.setCell ?_ (by exact .inl rfl) _
  exact Turn.refl _ _
set_option maxRecDepth 100000 in
set_option maxHeartbeats 8000000 in
theorem pjudge_other (p : Ms.Pd) (y : Lv) (x : Int) (w : World) (hs : St w y) (hn : y.n ≤ 1000000) (h1 : y.x.status ≠ 1) : Calls Tryd.prog 6 #[Ms.pval p, lval y, .int .i64 x] w (JudEnd w y false) := by
  have h2 : (y.x.status != 1) = true := by simp [h1]
  have CP := Lib.hid (fun W (hW : Below w.heap.size w W) => papart_any y W (hs.keep hW) hn)
  have hlen := hs.len
  unfold JudEnd
  clear hs hn h1
  obtain ⟨ka, kb, kc⟩ := p
  obtain ⟨⟨i1, i2, i3, i4, i5, i6, i7, S⟩, q, n, d⟩ := y
  simp only [Ms.pval, lval, re] at CP hlen h2 ⊢
  obtain ⟨w1, hw1, B1, X1, Y1, Z1⟩ := boxes3 w #[.int .i64 ka, .int .i64 kb, .int .i64 kc] #[.int .i64 i1, .int .i64 i2, .int .i64 i3, .int .i64 i4, .int .i64 i5, .int .i64 i6, .int .i64 i7, .slice q n d] #[.int .i64 0, .int .i64 0, .int .i64 0, .int .i64 0, .int .i64 0, .int .i64 0, .int .i64 0, .slice none 0 0] 23 27 27
  have x0 : w1.cell? ⟨w.heap.size, 0, none⟩ = some (.int .i64 ka) := X1.out.cell 0
  have x1 : w1.cell? ⟨w.heap.size, 1, none⟩ = some (.int .i64 kb) := X1.out.cell 1
  have x2 : w1.cell? ⟨w.heap.size, 2, none⟩ = some (.int .i64 kc) := X1.out.cell 2
  have y0 : w1.cell? ⟨w.heap.size + 1, 0, none⟩ = some (.int .i64 i1) := Y1.out.cell 0
  have y1 : w1.cell? ⟨w.heap.size + 1, 1, none⟩ = some (.int .i64 i2) := Y1.out.cell 1
  have y2 : w1.cell? ⟨w.heap.size + 1, 2, none⟩ = some (.int .i64 i3) := Y1.out.cell 2
  have y3 : w1.cell? ⟨w.heap.size + 1, 3, none⟩ = some (.int .i64 i4) := Y1.out.cell 3
  have y4 : w1.cell? ⟨w.heap.size + 1, 4, none⟩ = some (.int .i64 i5) := Y1.out.cell 4
  have y5 : w1.cell? ⟨w.heap.size + 1, 5, none⟩ = some (.int .i64 i6) := Y1.out.cell 5
  have y6 : w1.cell? ⟨w.heap.size + 1, 6, none⟩ = some (.int .i64 i7) := Y1.out.cell 6
  have y7 : w1.cell? ⟨w.heap.size + 1, 7, none⟩ = some (.slice q n d) := Y1.out.cell 7
  go_enter Tryd.func6, Tryd.ntmps6
  go_wp2_with fail
  refine (CP.out _ B1.out).mono ?_
  rintro e w4 ⟨⟨zx, zq, zn, zd⟩, hzx, rfl, hst, hfr, hb⟩
  simp only at hzx
  subst hzx
  obtain rfl : zn = n := hst.len.symm.trans hlen
  simp only [lval]
  have Z4 := Lib.hid (Z1.out.below hb Z1.out.lt)
  have HO := Lib.hid (beh_out (r := w.heap.size + 2) B1.out (Nat.le_add_right _ _) Z1.out.lt ⟨hst, hfr⟩ hb)
  clear hst hfr hb Z1 Y1 B1 CP y0 y1 y2 y3 y4 y5 y6 y7 hw1 X1 x0 x1 x2
  have r0 : w4.cell? ⟨w.heap.size + 2, 0, none⟩ = some (.int .i64 0) := Z4.out.cell 0
  have r1 : w4.cell? ⟨w.heap.size + 2, 1, none⟩ = some (.int .i64 0) := Z4.out.cell 1
  have r2 : w4.cell? ⟨w.heap.size + 2, 2, none⟩ = some (.int .i64 0) := Z4.out.cell 2
  have r3 : w4.cell? ⟨w.heap.size + 2, 3, none⟩ = some (.int .i64 0) := Z4.out.cell 3
  have r4 : w4.cell? ⟨w.heap.size + 2, 4, none⟩ = some (.int .i64 0) := Z4.out.cell 4
  have r5 : w4.cell? ⟨w.heap.size + 2, 5, none⟩ = some (.int .i64 0) := Z4.out.cell 5
  have r6 : w4.cell? ⟨w.heap.size + 2, 6, none⟩ = some (.int .i64 0) := Z4.out.cell 6
  have r7 : w4.cell? ⟨w.heap.size + 2, 7, none⟩ = some (.slice none 0 0) := Z4.out.cell 7
  have g0 : w4.frozen? ⟨w.heap.size + 2, 0, none⟩ = false := Z4.out.frozen 0
  have g1 : w4.frozen? ⟨w.heap.size + 2, 1, none⟩ = false := Z4.out.frozen 1
  have g2 : w4.frozen? ⟨w.heap.size + 2, 2, none⟩ = false := Z4.out.frozen 2
  have g3 : w4.frozen? ⟨w.heap.size + 2, 3, none⟩ = false := Z4.out.frozen 3
  have g4 : w4.frozen? ⟨w.heap.size + 2, 4, none⟩ = false := Z4.out.frozen 4
  have g5 : w4.frozen? ⟨w.heap.size + 2, 5, none⟩ = false := Z4.out.frozen 5
  have g6 : w4.frozen? ⟨w.heap.size + 2, 6, none⟩ = false := Z4.out.frozen 6
  have g7 : w4.frozen? ⟨w.heap.size + 2, 7, none⟩ = false := Z4.out.frozen 7
  clear Z4
  go_wp2
  refine bodyPost_ret (v := .tuple #[.agg #[.int .i64 i1, .int .i64 i2, .int .i64 i3, .int .i64 i4, .int .i64 i5, .int .i64 i6, .int .i64 i7, .slice zq zn zd], .bool false]) (by simp [results, Tryd.results6, go_sem, r0, r1, r2, r3, r4, r5, r6, r7]) rfl ?_
  refine ⟨zq, zd, rfl, HO.out _ ?_⟩
  iterate 8 refine Turn.setCell ?_ (by exact .inl rfl) _
  exact Turn.refl _ _
theorem pjudge_any (p : Ms.Pd) (y : Lv) (x : Int) (w : World) (hr : Su.Tabl w) (hs : St w y) (hn : y.n ≤ 1000000) : Calls Tryd.prog 6 #[Ms.pval p, lval y, .int .i64 x] w (JudEnd w (judgeL p y x).1 (judgeL p y x).2) := by
  unfold judgeL
  by_cases h1 : y.x.status = 1
  · rw [show decide (y.x.status = 1) = true by simp [h1], Bool.true_and]
    cases ho : overB p y.x x with
    | true =>
      rw [if_pos rfl]
      exact pjudge_yes p y x w hr hs hn h1 ho
    | false =>
      rw [if_neg Bool.false_ne_true]
      exact pjudge_under p y x w hs hn h1 ho
  · rw [show decide (y.x.status = 1) = false by simp [h1], Bool.false_and, if_neg Bool.false_ne_true]
    exact pjudge_other p y x w hs hn h1
/-- The bundle's value. -/
def kface : Face where
  R := Su.Tabl
  on := fun h hb => h.on hb
  allow := fun p y w _ => pallow_any p y w
  judge := fun p y x w hr hs hn => pjudge_any p y x w hr hs hn
  may := fun p y x now w _ => pmay_any p y x now w
  rel := fun p y x w hr hs hn => prel_any p y x w hr hs hn
  hold := fun y w hr hs hn => phold_any y w hr hs hn
  rev := fun p y x g w hr hs hn => prev_any p y x g w hr hs hn
  rej := fun y w hr hs hn => prej_any y w hr hs hn
theorem ktells_in (v0 : Value) (x0 : Ms.Pd) (v1 : Value) (x1 : Lv) (v2 : Value) (x2 : Int × Int × Int) (W : World) (h0 : InP W v0 x0) (h1 : InL W v1 x1) (h2 : In3 W v2 x2) (hR : Su.Tabl W) :
    Calls Tryd.prog 3 #[v0, v1, v2] W fun e w' => e = .returned (.bool true) ∧ Below W.heap.size W w' := ktells_all kface v0 x0 v1 x1 v2 x2 W h0 h1 h2 hR
theorem knever_in (v0 : Value) (x0 : Ms.Pd) (v1 : Value) (x1 : Lv) (v2 : Value) (x2 : Int × Int × Int × Int) (W : World) (h0 : InP W v0 x0) (h1 : InL W v1 x1) (h2 : In4 W v2 x2) (hR : Su.Tabl W) :
    Calls Tryd.prog 4 #[v0, v1, v2] W fun e w' => e = .returned (.bool true) ∧ Below W.heap.size W w' := knever_all kface v0 x0 v1 x1 v2 x2 W h0 h1 h2 hR
end Kp
end Go.Proofs.YtgmjmkkhoibbcaaDoor
