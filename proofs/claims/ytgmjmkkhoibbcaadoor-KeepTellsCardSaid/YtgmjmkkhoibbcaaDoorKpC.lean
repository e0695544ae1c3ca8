/- Walks over package keep: a lot behind an event. Condition: the table is as the program lays it. -/
import Derived.Test.YtgmjmkkhoibbcaaDoorKpB
import Derived.Test.YtgmjmkkhoibbcaaDoorSuT
namespace Go.Proofs.YtgmjmkkhoibbcaaDoor
open Go.RowKit Lo

namespace Kp
/-- What a lot becomes is told with an error; its stays are new memory. -/
def BehEnd (w : World) (Z : Lv) (en : Int) (e : Ending) (w' : World) : Prop := ∃ q d, e = .returned (.tuple #[lval (re Z q d), .int .i64 en]) ∧ Told w w' (re Z q d) ∧ Below w.heap.size w w'
set_option maxRecDepth 100000 in
set_option maxHeartbeats 8000000 in
theorem pbeh_no (y : Lv) (ev : Int) (dv : Value) (w : World) (hr : Su.Tabl w) (he : Su.err y.x.status ev ≠ 0) : Calls Tryd.prog 24 #[lval y, .int .i64 ev, dv] w (BehEnd w lv0 (Su.err y.x.status ev)) := by
  have CA := Lib.hid (fun W (hW : Below w.heap.size w W) => Su.tafter_any y.x.status ev W (hr.on hW))
  generalize Su.err y.x.status ev = en at *
  generalize Su.aft y.x.status ev = st at *
  have h1 : (en != 0) = true := by simp [he]
  unfold BehEnd
  obtain ⟨⟨i1, i2, i3, i4, i5, i6, i7, S⟩, q, n, d⟩ := y
  simp only [lval] at CA ⊢
  clear hr he
  obtain ⟨w1, hw1, B1, Y1, Z1⟩ := boxes2 w #[.int .i64 i1, .int .i64 i2, .int .i64 i3, .int .i64 i4, .int .i64 i5, .int .i64 i6, .int .i64 i7, .slice q n d] #[.int .i64 0, .int .i64 0, .int .i64 0, .int .i64 0, .int .i64 0, .int .i64 0, .int .i64 0, .slice none 0 0] 27 27
  have y6 : w1.cell? ⟨w.heap.size, 6, none⟩ = some (.int .i64 i7) := Y1.out.cell 6
  go_enter Tryd.func24, Tryd.ntmps24
  go_wp2_with fail
  refine (CA.out _ B1.out).mono ?_
  rintro e w' ⟨rfl, rfl⟩
  clear hw1 y6 CA Y1
  have r0 : w1.cell? ⟨w.heap.size + 1, 0, none⟩ = some (.int .i64 0) := Z1.out.cell 0
  have r1 : w1.cell? ⟨w.heap.size + 1, 1, none⟩ = some (.int .i64 0) := Z1.out.cell 1
  have r2 : w1.cell? ⟨w.heap.size + 1, 2, none⟩ = some (.int .i64 0) := Z1.out.cell 2
  have r3 : w1.cell? ⟨w.heap.size + 1, 3, none⟩ = some (.int .i64 0) := Z1.out.cell 3
  have r4 : w1.cell? ⟨w.heap.size + 1, 4, none⟩ = some (.int .i64 0) := Z1.out.cell 4
  have r5 : w1.cell? ⟨w.heap.size + 1, 5, none⟩ = some (.int .i64 0) := Z1.out.cell 5
  have r6 : w1.cell? ⟨w.heap.size + 1, 6, none⟩ = some (.int .i64 0) := Z1.out.cell 6
  have r7 : w1.cell? ⟨w.heap.size + 1, 7, none⟩ = some (.slice none 0 0) := Z1.out.cell 7
  have g0 : w1.frozen? ⟨w.heap.size + 1, 0, none⟩ = false := Z1.out.frozen 0
  have g1 : w1.frozen? ⟨w.heap.size + 1, 1, none⟩ = false := Z1.out.frozen 1
  have g2 : w1.frozen? ⟨w.heap.size + 1, 2, none⟩ = false := Z1.out.frozen 2
  have g3 : w1.frozen? ⟨w.heap.size + 1, 3, none⟩ = false := Z1.out.frozen 3
  have g4 : w1.frozen? ⟨w.heap.size + 1, 4, none⟩ = false := Z1.out.frozen 4
  have g5 : w1.frozen? ⟨w.heap.size + 1, 5, none⟩ = false := Z1.out.frozen 5
  have g6 : w1.frozen? ⟨w.heap.size + 1, 6, none⟩ = false := Z1.out.frozen 6
  have g7 : w1.frozen? ⟨w.heap.size + 1, 7, none⟩ = false := Z1.out.frozen 7
  go_wp2
  refine bodyPost_ret (v := .tuple #[.agg #[.int .i64 0, .int .i64 0, .int .i64 0, .int .i64 0, .int .i64 0, .int .i64 0, .int .i64 0, .slice none 0 0], .int .i64 en]) (by simp [results, Tryd.results24, go_sem, r0, r1, r2, r3, r4, r5, r6, r7]) rfl ⟨none, 0, rfl, told_none _ _ _ _ _ rfl, ?_⟩
  iterate 8 refine Below.setCell ?_ (by simp only; omega) _
  exact B1.out
set_option maxRecDepth 100000 in
set_option maxHeartbeats 8000000 in
theorem pbeho_ok (y : Lv) (ev : Int) (w : World) (hr : Su.Tabl w) (hs : St w y) (hn : y.n ≤ 1000000) (he : Su.err y.x.status ev = 0) : Calls Tryd.prog 24 #[lval y, .int .i64 ev, wio] w (BehEnd w { y with x := { y.x with status := Su.aft y.x.status ev, order := 0 } } 0) := by
  have CA := Lib.hid (fun W (hW : Below w.heap.size w W) => Su.tafter_any y.x.status ev W (hr.on hW))
  have CP := Lib.hid (fun W (hW : Below w.heap.size w W) => papart_any y W (hs.keep hW) hn)
  have hlen := hs.len
  have CD := Lib.hid (fun (bl : Nat) (z : Lv) W (h : At_ W bl z) => dwio_any z bl W h)
  rw [he] at CA
  generalize Su.aft y.x.status ev = st at *
  unfold BehEnd
  obtain ⟨⟨i1, i2, i3, i4, i5, i6, i7, S⟩, q, n, d⟩ := y
  simp only [lval, wio] at CA CP hlen ⊢
  clear hr hs hn he
  obtain ⟨w1, hw1, B1, Y1, Z1⟩ := boxes2 w #[.int .i64 i1, .int .i64 i2, .int .i64 i3, .int .i64 i4, .int .i64 i5, .int .i64 i6, .int .i64 i7, .slice q n d] #[.int .i64 0, .int .i64 0, .int .i64 0, .int .i64 0, .int .i64 0, .int .i64 0, .int .i64 0, .slice none 0 0] 27 27
  have y0 : w1.cell? ⟨w.heap.size, 0, none⟩ = some (.int .i64 i1) := Y1.out.cell 0
  have y1 : w1.cell? ⟨w.heap.size, 1, none⟩ = some (.int .i64 i2) := Y1.out.cell 1
  have y2 : w1.cell? ⟨w.heap.size, 2, none⟩ = some (.int .i64 i3) := Y1.out.cell 2
  have y3 : w1.cell? ⟨w.heap.size, 3, none⟩ = some (.int .i64 i4) := Y1.out.cell 3
  have y4 : w1.cell? ⟨w.heap.size, 4, none⟩ = some (.int .i64 i5) := Y1.out.cell 4
  have y5 : w1.cell? ⟨w.heap.size, 5, none⟩ = some (.int .i64 i6) := Y1.out.cell 5
  have y6 : w1.cell? ⟨w.heap.size, 6, none⟩ = some (.int .i64 i7) := Y1.out.cell 6
  have y7 : w1.cell? ⟨w.heap.size, 7, none⟩ = some (.slice q n d) := Y1.out.cell 7
  go_enter Tryd.func24, Tryd.ntmps24
  go_wp2_with fail
  refine (CA.out _ B1.out).mono ?_
  rintro e w' ⟨rfl, rfl⟩
  clear CA
  go_wp2_with fail
  refine (CP.out _ B1.out).mono ?_
  rintro e w2 ⟨⟨zx, zq, zn, zd⟩, hzx, rfl, hst, hfr, hb2⟩
  simp only at hzx
  subst hzx
  obtain rfl : zn = n := hst.len.symm.trans hlen
  simp only [lval]
  have B2 := Lib.hid (B1.out.trans (hb2.mono B1.out.size))
  have Y2 := Lib.hid (Y1.out.below hb2 Y1.out.lt)
  have Z2 := Lib.hid (Z1.out.below hb2 Z1.out.lt)
  have HF := Lib.hid (show ∀ W, Turn (fun k => k = w.heap.size ∨ k = w.heap.size + 1) w2 W → (∀ x : Lt, x.stays = S → Told w W ⟨x, zq, zn, zd⟩) ∧ Below w.heap.size w W from fun W hW => by
    have h1 := Z1.out.lt
    have h2 := B1.out.size
    refine ⟨fun x hx => ⟨?_, fun k hk => ?_⟩, hW.below B2.out B2.out.size (fun i hi => by omega)⟩
    · have h3 := hst.turn hW (fun k hk hh => by
        have := hfr k hk
        omega)
      refine ⟨?_, h3.2⟩
      rw [show (⟨x, zq, zn, zd⟩ : Lv).x.stays = S from hx]
      exact h3.1
    · have := hfr k hk
      omega)
  clear hw1 y0 y1 y2 y3 y4 y5 y6 y7 Y1 Z1 B1 hst hfr hb2 hlen CP
  have y0 : w2.cell? ⟨w.heap.size, 0, none⟩ = some (.int .i64 i1) := Y2.out.cell 0
  have y1 : w2.cell? ⟨w.heap.size, 1, none⟩ = some (.int .i64 i2) := Y2.out.cell 1
  have y2 : w2.cell? ⟨w.heap.size, 2, none⟩ = some (.int .i64 i3) := Y2.out.cell 2
  have y3 : w2.cell? ⟨w.heap.size, 3, none⟩ = some (.int .i64 i4) := Y2.out.cell 3
  have y4 : w2.cell? ⟨w.heap.size, 4, none⟩ = some (.int .i64 i5) := Y2.out.cell 4
  have y5 : w2.cell? ⟨w.heap.size, 5, none⟩ = some (.int .i64 i6) := Y2.out.cell 5
  have y6 : w2.cell? ⟨w.heap.size, 6, none⟩ = some (.int .i64 i7) := Y2.out.cell 6
  have y7 : w2.cell? ⟨w.heap.size, 7, none⟩ = some (.slice q zn d) := Y2.out.cell 7
  have f0 : w2.frozen? ⟨w.heap.size, 0, none⟩ = false := Y2.out.frozen 0
  have f1 : w2.frozen? ⟨w.heap.size, 1, none⟩ = false := Y2.out.frozen 1
  have f2 : w2.frozen? ⟨w.heap.size, 2, none⟩ = false := Y2.out.frozen 2
  have f3 : w2.frozen? ⟨w.heap.size, 3, none⟩ = false := Y2.out.frozen 3
  have f4 : w2.frozen? ⟨w.heap.size, 4, none⟩ = false := Y2.out.frozen 4
  have f5 : w2.frozen? ⟨w.heap.size, 5, none⟩ = false := Y2.out.frozen 5
  have f6 : w2.frozen? ⟨w.heap.size, 6, none⟩ = false := Y2.out.frozen 6
  have f7 : w2.frozen? ⟨w.heap.size, 7, none⟩ = false := Y2.out.frozen 7
  go_upto_region 5 with fail
  have Y3 : Hid (Lies ((((((((w2.setCell ⟨w.heap.size, 0, none⟩ (.int .i64 i1)).setCell ⟨w.heap.size, 1, none⟩ (.int .i64 i2)).setCell ⟨w.heap.size, 2, none⟩ (.int .i64 i3)).setCell ⟨w.heap.size, 3, none⟩ (.int .i64 i4)).setCell ⟨w.heap.size, 4, none⟩ (.int .i64 i5)).setCell ⟨w.heap.size, 5, none⟩ (.int .i64 i6)).setCell ⟨w.heap.size, 6, none⟩ (.int .i64 i7)).setCell ⟨w.heap.size, 7, none⟩ (.slice zq zn zd)) (w.heap.size) 27 #[.int .i64 i1, .int .i64 i2, .int .i64 i3, .int .i64 i4, .int .i64 i5, .int .i64 i6, .int .i64 i7, .slice zq zn zd]) := Lib.hid (by simpa using ((((((((Y2.out.set_ 0 (.int .i64 i1)).set_ 1 (.int .i64 i2)).set_ 2 (.int .i64 i3)).set_ 3 (.int .i64 i4)).set_ 4 (.int .i64 i5)).set_ 5 (.int .i64 i6)).set_ 6 (.int .i64 i7)).set_ 7 (.slice zq zn zd)))
  have T3 : Hid (Turn (fun k => k = w.heap.size ∨ k = w.heap.size + 1) w2 ((((((((w2.setCell ⟨w.heap.size, 0, none⟩ (.int .i64 i1)).setCell ⟨w.heap.size, 1, none⟩ (.int .i64 i2)).setCell ⟨w.heap.size, 2, none⟩ (.int .i64 i3)).setCell ⟨w.heap.size, 3, none⟩ (.int .i64 i4)).setCell ⟨w.heap.size, 4, none⟩ (.int .i64 i5)).setCell ⟨w.heap.size, 5, none⟩ (.int .i64 i6)).setCell ⟨w.heap.size, 6, none⟩ (.int .i64 i7)).setCell ⟨w.heap.size, 7, none⟩ (.slice zq zn zd))) := Lib.hid (by
    iterate 8 refine Turn.setCell ?_ (by exact .inl (.inl rfl)) _
    exact Turn.refl _ _)
  have Z3 : Hid (Lies ((((((((w2.setCell ⟨w.heap.size, 0, none⟩ (.int .i64 i1)).setCell ⟨w.heap.size, 1, none⟩ (.int .i64 i2)).setCell ⟨w.heap.size, 2, none⟩ (.int .i64 i3)).setCell ⟨w.heap.size, 3, none⟩ (.int .i64 i4)).setCell ⟨w.heap.size, 4, none⟩ (.int .i64 i5)).setCell ⟨w.heap.size, 5, none⟩ (.int .i64 i6)).setCell ⟨w.heap.size, 6, none⟩ (.int .i64 i7)).setCell ⟨w.heap.size, 7, none⟩ (.slice zq zn zd)) (w.heap.size + 1) 27 #[.int .i64 0, .int .i64 0, .int .i64 0, .int .i64 0, .int .i64 0, .int .i64 0, .int .i64 0, .slice none 0 0]) := Lib.hid (by
    refine Lies.turn (S := fun k => k = w.heap.size) Z2.out ?_ (by omega)
    iterate 8 refine Turn.setCell ?_ (by exact .inl rfl) _
    exact Turn.refl _ _)
  clear f0 f1 f2 f3 f4 f5 f6 f7 y0 y1 y2 y3 y4 y5 y6 y7 Y2 Z2
  generalize ((((((((w2.setCell ⟨w.heap.size, 0, none⟩ (.int .i64 i1)).setCell ⟨w.heap.size, 1, none⟩ (.int .i64 i2)).setCell ⟨w.heap.size, 2, none⟩ (.int .i64 i3)).setCell ⟨w.heap.size, 3, none⟩ (.int .i64 i4)).setCell ⟨w.heap.size, 4, none⟩ (.int .i64 i5)).setCell ⟨w.heap.size, 5, none⟩ (.int .i64 i6)).setCell ⟨w.heap.size, 6, none⟩ (.int .i64 i7)).setCell ⟨w.heap.size, 7, none⟩ (.slice zq zn zd)) = w3 at *
  have y6 : w3.cell? ⟨w.heap.size, 6, none⟩ = some (.int .i64 i7) := Y3.out.cell 6
  have f6 : w3.frozen? ⟨w.heap.size, 6, none⟩ = false := Y3.out.frozen 6
  go_upto_region 6 with fail
  have Y4 : Hid (Lies (w3.setCell ⟨w.heap.size, 6, none⟩ (.int .i64 st)) (w.heap.size) 27 #[.int .i64 i1, .int .i64 i2, .int .i64 i3, .int .i64 i4, .int .i64 i5, .int .i64 i6, .int .i64 st, .slice zq zn zd]) := Lib.hid (by simpa using Y3.out.set_ 6 (.int .i64 st))
  have T4 := Lib.hid (T3.out.setCell (p := ⟨w.heap.size, 6, none⟩) (.inl (.inl rfl)) (.int .i64 st))
  have Z4 : Hid (Lies (w3.setCell ⟨w.heap.size, 6, none⟩ (.int .i64 st)) (w.heap.size + 1) 27 #[.int .i64 0, .int .i64 0, .int .i64 0, .int .i64 0, .int .i64 0, .int .i64 0, .int .i64 0, .slice none 0 0]) := Lib.hid (Z3.out.like (Below.heap_setCell w3 ⟨w.heap.size, 6, none⟩ (.int .i64 st) _ (by simp only; omega)))
  clear y6 f6 Y3 T3 Z3
  generalize (w3.setCell ⟨w.heap.size, 6, none⟩ (.int .i64 st)) = w4 at *
  have CF := Lib.hid (CD.out (w.heap.size) ⟨⟨i1, i2, i3, i4, i5, i6, st, S⟩, zq, zn, zd⟩ w4 Y4.out)
  clear CD
  go_wp2_with fail
  refine CF.out.mono ?_
  rintro e w5 ⟨rfl, hy5, ht5⟩
  have Y5 : Hid (Lies w5 w.heap.size 27 #[.int .i64 i1, .int .i64 i2, .int .i64 i3, .int .i64 i4, .int .i64 i5, .int .i64 0, .int .i64 st, .slice zq zn zd]) := Lib.hid hy5
  have Z5 := Lib.hid (Z4.out.turn ht5 (by omega))
  have T5 := Lib.hid (T4.out.trans ht5 (fun _ hi => .inl (.inl hi)))
  clear hy5 ht5 CF Y4 Z4 T4
  have y0 : w5.cell? ⟨w.heap.size, 0, none⟩ = some (.int .i64 i1) := Y5.out.cell 0
  have y1 : w5.cell? ⟨w.heap.size, 1, none⟩ = some (.int .i64 i2) := Y5.out.cell 1
  have y2 : w5.cell? ⟨w.heap.size, 2, none⟩ = some (.int .i64 i3) := Y5.out.cell 2
  have y3 : w5.cell? ⟨w.heap.size, 3, none⟩ = some (.int .i64 i4) := Y5.out.cell 3
  have y4 : w5.cell? ⟨w.heap.size, 4, none⟩ = some (.int .i64 i5) := Y5.out.cell 4
  have y5 : w5.cell? ⟨w.heap.size, 5, none⟩ = some (.int .i64 0) := Y5.out.cell 5
  have y6 : w5.cell? ⟨w.heap.size, 6, none⟩ = some (.int .i64 st) := Y5.out.cell 6
  have y7 : w5.cell? ⟨w.heap.size, 7, none⟩ = some (.slice zq zn zd) := Y5.out.cell 7
  have r0 : w5.cell? ⟨w.heap.size + 1, 0, none⟩ = some (.int .i64 0) := Z5.out.cell 0
  have r1 : w5.cell? ⟨w.heap.size + 1, 1, none⟩ = some (.int .i64 0) := Z5.out.cell 1
  have r2 : w5.cell? ⟨w.heap.size + 1, 2, none⟩ = some (.int .i64 0) := Z5.out.cell 2
  have r3 : w5.cell? ⟨w.heap.size + 1, 3, none⟩ = some (.int .i64 0) := Z5.out.cell 3
  have r4 : w5.cell? ⟨w.heap.size + 1, 4, none⟩ = some (.int .i64 0) := Z5.out.cell 4
  have r5 : w5.cell? ⟨w.heap.size + 1, 5, none⟩ = some (.int .i64 0) := Z5.out.cell 5
  have r6 : w5.cell? ⟨w.heap.size + 1, 6, none⟩ = some (.int .i64 0) := Z5.out.cell 6
  have r7 : w5.cell? ⟨w.heap.size + 1, 7, none⟩ = some (.slice none 0 0) := Z5.out.cell 7
  have g0 : w5.frozen? ⟨w.heap.size + 1, 0, none⟩ = false := Z5.out.frozen 0
  have g1 : w5.frozen? ⟨w.heap.size + 1, 1, none⟩ = false := Z5.out.frozen 1
  have g2 : w5.frozen? ⟨w.heap.size + 1, 2, none⟩ = false := Z5.out.frozen 2
  have g3 : w5.frozen? ⟨w.heap.size + 1, 3, none⟩ = false := Z5.out.frozen 3
  have g4 : w5.frozen? ⟨w.heap.size + 1, 4, none⟩ = false := Z5.out.frozen 4
  have g5 : w5.frozen? ⟨w.heap.size + 1, 5, none⟩ = false := Z5.out.frozen 5
  have g6 : w5.frozen? ⟨w.heap.size + 1, 6, none⟩ = false := Z5.out.frozen 6
  have g7 : w5.frozen? ⟨w.heap.size + 1, 7, none⟩ = false := Z5.out.frozen 7
  clear Y5 Z5
  go_wp2
  refine bodyPost_ret (v := .tuple #[.agg #[.int .i64 i1, .int .i64 i2, .int .i64 i3, .int .i64 i4, .int .i64 i5, .int .i64 0, .int .i64 st, .slice zq zn zd], .int .i64 0]) (by simp [results, Tryd.results24, go_sem, r0, r1, r2, r3, r4, r5, r6, r7]) rfl ?_
  refine ⟨zq, zd, rfl, ?_⟩
  have key : ∀ W, Turn (fun k => k = w.heap.size ∨ k = w.heap.size + 1) w2 W → Told w W ⟨⟨i1, i2, i3, i4, i5, 0, st, S⟩, zq, zn, zd⟩ ∧ Below w.heap.size w W := fun W H => ⟨(HF.out W H).1 _ rfl, (HF.out W H).2⟩
  refine key _ ?_
  iterate 8 refine Turn.setCell ?_ (by exact .inl (.inr rfl)) _
  exact T5.out
set_option maxRecDepth 100000 in
set_option maxHeartbeats 8000000 in
theorem pbehu_ok (y : Lv) (ev : Int) (p : Ms.Pd) (x : Int) (a b : Nat) (w : World) (hr : Su.Tabl w) (hs : St w y) (hn : y.n ≤ 1000000) (ha : Pt w a p) (hb : Nt w b x) (he : Su.err y.x.status ev = 0) (hov : overB p y.x x = false) : Calls Tryd.prog 24 #[lval y, .int .i64 ev, unl a b] w (BehEnd w { y with x := { y.x with status := Su.aft y.x.status ev } } 0) := by
  have CA := Lib.hid (fun W (hW : Below w.heap.size w W) => Su.tafter_any y.x.status ev W (hr.on hW))
  have CP := Lib.hid (fun W (hW : Below w.heap.size w W) => papart_any y W (hs.keep hW) hn)
  have hlen := hs.len
  have CD := Lib.hid (fun (bl : Nat) (z : Lv) (st : Int) W (h : At_ W bl z) (hz : z.x = { y.x with status := st }) (hW : Below w.heap.size w W) => by
    have h1 := dunl_any p z x bl a b W h (ha.below hW ha.lt) (hb.below hW hb.lt)
    rw [hz, show overB p { y.x with status := st } x = overB p y.x x from rfl, hov] at h1
    exact h1)
  rw [he] at CA
  generalize Su.aft y.x.status ev = st at *
  unfold BehEnd
  obtain ⟨⟨i1, i2, i3, i4, i5, i6, i7, S⟩, q, n, d⟩ := y
  simp only [lval, unl] at CA CP hlen ⊢
  clear hr hs hn he ha hb hov
  obtain ⟨w1, hw1, B1, Y1, Z1⟩ := boxes2 w #[.int .i64 i1, .int .i64 i2, .int .i64 i3, .int .i64 i4, .int .i64 i5, .int .i64 i6, .int .i64 i7, .slice q n d] #[.int .i64 0, .int .i64 0, .int .i64 0, .int .i64 0, .int .i64 0, .int .i64 0, .int .i64 0, .slice none 0 0] 27 27
  have y0 : w1.cell? ⟨w.heap.size, 0, none⟩ = some (.int .i64 i1) := Y1.out.cell 0
  have y1 : w1.cell? ⟨w.heap.size, 1, none⟩ = some (.int .i64 i2) := Y1.out.cell 1
  have y2 : w1.cell? ⟨w.heap.size, 2, none⟩ = some (.int .i64 i3) := Y1.out.cell 2
  have y3 : w1.cell? ⟨w.heap.size, 3, none⟩ = some (.int .i64 i4) := Y1.out.cell 3
  have y4 : w1.cell? ⟨w.heap.size, 4, none⟩ = some (.int .i64 i5) := Y1.out.cell 4
  have y5 : w1.cell? ⟨w.heap.size, 5, none⟩ = some (.int .i64 i6) := Y1.out.cell 5
  have y6 : w1.cell? ⟨w.heap.size, 6, none⟩ = some (.int .i64 i7) := Y1.out.cell 6
  have y7 : w1.cell? ⟨w.heap.size, 7, none⟩ = some (.slice q n d) := Y1.out.cell 7
  go_enter Tryd.func24, Tryd.ntmps24
  go_wp2_with fail
  refine (CA.out _ B1.out).mono ?_
  rintro e w' ⟨rfl, rfl⟩
  clear CA
  go_wp2_with fail
  refine (CP.out _ B1.out).mono ?_
  rintro e w2 ⟨⟨zx, zq, zn, zd⟩, hzx, rfl, hst, hfr, hb2⟩
  simp only at hzx
  subst hzx
  obtain rfl : zn = n := hst.len.symm.trans hlen
  simp only [lval]
  have B2 := Lib.hid (B1.out.trans (hb2.mono B1.out.size))
  have Y2 := Lib.hid (Y1.out.below hb2 Y1.out.lt)
  have Z2 := Lib.hid (Z1.out.below hb2 Z1.out.lt)
  have HF := Lib.hid (show ∀ W, Turn (fun k => k = w.heap.size ∨ k = w.heap.size + 1) w2 W → (∀ x : Lt, x.stays = S → Told w W ⟨x, zq, zn, zd⟩) ∧ Below w.heap.size w W from fun W hW => by
    have h1 := Z1.out.lt
    have h2 := B1.out.size
    refine ⟨fun x hx => ⟨?_, fun k hk => ?_⟩, hW.below B2.out B2.out.size (fun i hi => by omega)⟩
    · have h3 := hst.turn hW (fun k hk hh => by
        have := hfr k hk
        omega)
      refine ⟨?_, h3.2⟩
      rw [show (⟨x, zq, zn, zd⟩ : Lv).x.stays = S from hx]
      exact h3.1
    · have := hfr k hk
      omega)
  clear hw1 y0 y1 y2 y3 y4 y5 y6 y7 Y1 Z1 B1 hst hfr hb2 hlen CP
  have y0 : w2.cell? ⟨w.heap.size, 0, none⟩ = some (.int .i64 i1) := Y2.out.cell 0
  have y1 : w2.cell? ⟨w.heap.size, 1, none⟩ = some (.int .i64 i2) := Y2.out.cell 1
  have y2 : w2.cell? ⟨w.heap.size, 2, none⟩ = some (.int .i64 i3) := Y2.out.cell 2
  have y3 : w2.cell? ⟨w.heap.size, 3, none⟩ = some (.int .i64 i4) := Y2.out.cell 3
  have y4 : w2.cell? ⟨w.heap.size, 4, none⟩ = some (.int .i64 i5) := Y2.out.cell 4
  have y5 : w2.cell? ⟨w.heap.size, 5, none⟩ = some (.int .i64 i6) := Y2.out.cell 5
  have y6 : w2.cell? ⟨w.heap.size, 6, none⟩ = some (.int .i64 i7) := Y2.out.cell 6
  have y7 : w2.cell? ⟨w.heap.size, 7, none⟩ = some (.slice q zn d) := Y2.out.cell 7
  have f0 : w2.frozen? ⟨w.heap.size, 0, none⟩ = false := Y2.out.frozen 0
  have f1 : w2.frozen? ⟨w.heap.size, 1, none⟩ = false := Y2.out.frozen 1
  have f2 : w2.frozen? ⟨w.heap.size, 2, none⟩ = false := Y2.out.frozen 2
  have f3 : w2.frozen? ⟨w.heap.size, 3, none⟩ = false := Y2.out.frozen 3
  have f4 : w2.frozen? ⟨w.heap.size, 4, none⟩ = false := Y2.out.frozen 4
  have f5 : w2.frozen? ⟨w.heap.size, 5, none⟩ = false := Y2.out.frozen 5
  have f6 : w2.frozen? ⟨w.heap.size, 6, none⟩ = false := Y2.out.frozen 6
  have f7 : w2.frozen? ⟨w.heap.size, 7, none⟩ = false := Y2.out.frozen 7
  go_upto_region 5 with fail
  have Y3 : Hid (Lies ((((((((w2.setCell ⟨w.heap.size, 0, none⟩ (.int .i64 i1)).setCell ⟨w.heap.size, 1, none⟩ (.int .i64 i2)).setCell ⟨w.heap.size, 2, none⟩ (.int .i64 i3)).setCell ⟨w.heap.size, 3, none⟩ (.int .i64 i4)).setCell ⟨w.heap.size, 4, none⟩ (.int .i64 i5)).setCell ⟨w.heap.size, 5, none⟩ (.int .i64 i6)).setCell ⟨w.heap.size, 6, none⟩ (.int .i64 i7)).setCell ⟨w.heap.size, 7, none⟩ (.slice zq zn zd)) (w.heap.size) 27 #[.int .i64 i1, .int .i64 i2, .int .i64 i3, .int .i64 i4, .int .i64 i5, .int .i64 i6, .int .i64 i7, .slice zq zn zd]) := Lib.hid (by simpa using ((((((((Y2.out.set_ 0 (.int .i64 i1)).set_ 1 (.int .i64 i2)).set_ 2 (.int .i64 i3)).set_ 3 (.int .i64 i4)).set_ 4 (.int .i64 i5)).set_ 5 (.int .i64 i6)).set_ 6 (.int .i64 i7)).set_ 7 (.slice zq zn zd)))
  have T3 : Hid (Turn (fun k => k = w.heap.size ∨ k = w.heap.size + 1) w2 ((((((((w2.setCell ⟨w.heap.size, 0, none⟩ (.int .i64 i1)).setCell ⟨w.heap.size, 1, none⟩ (.int .i64 i2)).setCell ⟨w.heap.size, 2, none⟩ (.int .i64 i3)).setCell ⟨w.heap.size, 3, none⟩ (.int .i64 i4)).setCell ⟨w.heap.size, 4, none⟩ (.int .i64 i5)).setCell ⟨w.heap.size, 5, none⟩ (.int .i64 i6)).setCell ⟨w.heap.size, 6, none⟩ (.int .i64 i7)).setCell ⟨w.heap.size, 7, none⟩ (.slice zq zn zd))) := Lib.hid (by
    iterate 8 refine Turn.setCell ?_ (by exact .inl (.inl rfl)) _
    exact Turn.refl _ _)
  have Z3 : Hid (Lies ((((((((w2.setCell ⟨w.heap.size, 0, none⟩ (.int .i64 i1)).setCell ⟨w.heap.size, 1, none⟩ (.int .i64 i2)).setCell ⟨w.heap.size, 2, none⟩ (.int .i64 i3)).setCell ⟨w.heap.size, 3, none⟩ (.int .i64 i4)).setCell ⟨w.heap.size, 4, none⟩ (.int .i64 i5)).setCell ⟨w.heap.size, 5, none⟩ (.int .i64 i6)).setCell ⟨w.heap.size, 6, none⟩ (.int .i64 i7)).setCell ⟨w.heap.size, 7, none⟩ (.slice zq zn zd)) (w.heap.size + 1) 27 #[.int .i64 0, .int .i64 0, .int .i64 0, .int .i64 0, .int .i64 0, .int .i64 0, .int .i64 0, .slice none 0 0]) := Lib.hid (by
    refine Lies.turn (S := fun k => k = w.heap.size) Z2.out ?_ (by omega)
    iterate 8 refine Turn.setCell ?_ (by exact .inl rfl) _
    exact Turn.refl _ _)
  clear f0 f1 f2 f3 f4 f5 f6 f7 y0 y1 y2 y3 y4 y5 y6 y7 Y2 Z2
  generalize ((((((((w2.setCell ⟨w.heap.size, 0, none⟩ (.int .i64 i1)).setCell ⟨w.heap.size, 1, none⟩ (.int .i64 i2)).setCell ⟨w.heap.size, 2, none⟩ (.int .i64 i3)).setCell ⟨w.heap.size, 3, none⟩ (.int .i64 i4)).setCell ⟨w.heap.size, 4, none⟩ (.int .i64 i5)).setCell ⟨w.heap.size, 5, none⟩ (.int .i64 i6)).setCell ⟨w.heap.size, 6, none⟩ (.int .i64 i7)).setCell ⟨w.heap.size, 7, none⟩ (.slice zq zn zd)) = w3 at *
  have y6 : w3.cell? ⟨w.heap.size, 6, none⟩ = some (.int .i64 i7) := Y3.out.cell 6
  have f6 : w3.frozen? ⟨w.heap.size, 6, none⟩ = false := Y3.out.frozen 6
  go_upto_region 6 with fail
  have Y4 : Hid (Lies (w3.setCell ⟨w.heap.size, 6, none⟩ (.int .i64 st)) (w.heap.size) 27 #[.int .i64 i1, .int .i64 i2, .int .i64 i3, .int .i64 i4, .int .i64 i5, .int .i64 i6, .int .i64 st, .slice zq zn zd]) := Lib.hid (by simpa using Y3.out.set_ 6 (.int .i64 st))
  have T4 := Lib.hid (T3.out.setCell (p := ⟨w.heap.size, 6, none⟩) (.inl (.inl rfl)) (.int .i64 st))
  have Z4 : Hid (Lies (w3.setCell ⟨w.heap.size, 6, none⟩ (.int .i64 st)) (w.heap.size + 1) 27 #[.int .i64 0, .int .i64 0, .int .i64 0, .int .i64 0, .int .i64 0, .int .i64 0, .int .i64 0, .slice none 0 0]) := Lib.hid (Z3.out.like (Below.heap_setCell w3 ⟨w.heap.size, 6, none⟩ (.int .i64 st) _ (by simp only; omega)))
  clear y6 f6 Y3 T3 Z3
  generalize (w3.setCell ⟨w.heap.size, 6, none⟩ (.int .i64 st)) = w4 at *
  have CF := Lib.hid (CD.out (w.heap.size) ⟨⟨i1, i2, i3, i4, i5, i6, st, S⟩, zq, zn, zd⟩ st w4 Y4.out rfl (HF.out _ T4.out).2)
  clear CD
  go_wp2_with fail
  refine CF.out.mono ?_
  rintro e w5 ⟨rfl, hb5⟩
  have Y5 := Lib.hid (Y4.out.below hb5 Y4.out.lt)
  have Z5 := Lib.hid (Z4.out.below hb5 Z4.out.lt)
  have T5 := Lib.hid (T4.out.trans (Turn.of_below (S := (fun k => k = w.heap.size ∨ k = w.heap.size + 1)) hb5) (fun _ hi => .inl hi))
  clear hb5 CF Y4 Z4 T4
  have y0 : w5.cell? ⟨w.heap.size, 0, none⟩ = some (.int .i64 i1) := Y5.out.cell 0
  have y1 : w5.cell? ⟨w.heap.size, 1, none⟩ = some (.int .i64 i2) := Y5.out.cell 1
  have y2 : w5.cell? ⟨w.heap.size, 2, none⟩ = some (.int .i64 i3) := Y5.out.cell 2
  have y3 : w5.cell? ⟨w.heap.size, 3, none⟩ = some (.int .i64 i4) := Y5.out.cell 3
  have y4 : w5.cell? ⟨w.heap.size, 4, none⟩ = some (.int .i64 i5) := Y5.out.cell 4
  have y5 : w5.cell? ⟨w.heap.size, 5, none⟩ = some (.int .i64 i6) := Y5.out.cell 5
  have y6 : w5.cell? ⟨w.heap.size, 6, none⟩ = some (.int .i64 st) := Y5.out.cell 6
  have y7 : w5.cell? ⟨w.heap.size, 7, none⟩ = some (.slice zq zn zd) := Y5.out.cell 7
  have r0 : w5.cell? ⟨w.heap.size + 1, 0, none⟩ = some (.int .i64 0) := Z5.out.cell 0
  have r1 : w5.cell? ⟨w.heap.size + 1, 1, none⟩ = some (.int .i64 0) := Z5.out.cell 1
  have r2 : w5.cell? ⟨w.heap.size + 1, 2, none⟩ = some (.int .i64 0) := Z5.out.cell 2
  have r3 : w5.cell? ⟨w.heap.size + 1, 3, none⟩ = some (.int .i64 0) := Z5.out.cell 3
  have r4 : w5.cell? ⟨w.heap.size + 1, 4, none⟩ = some (.int .i64 0) := Z5.out.cell 4
  have r5 : w5.cell? ⟨w.heap.size + 1, 5, none⟩ = some (.int .i64 0) := Z5.out.cell 5
  have r6 : w5.cell? ⟨w.heap.size + 1, 6, none⟩ = some (.int .i64 0) := Z5.out.cell 6
  have r7 : w5.cell? ⟨w.heap.size + 1, 7, none⟩ = some (.slice none 0 0) := Z5.out.cell 7
  have g0 : w5.frozen? ⟨w.heap.size + 1, 0, none⟩ = false := Z5.out.frozen 0
  have g1 : w5.frozen? ⟨w.heap.size + 1, 1, none⟩ = false := Z5.out.frozen 1
  have g2 : w5.frozen? ⟨w.heap.size + 1, 2, none⟩ = false := Z5.out.frozen 2
  have g3 : w5.frozen? ⟨w.heap.size + 1, 3, none⟩ = false := Z5.out.frozen 3
  have g4 : w5.frozen? ⟨w.heap.size + 1, 4, none⟩ = false := Z5.out.frozen 4
  have g5 : w5.frozen? ⟨w.heap.size + 1, 5, none⟩ = false := Z5.out.frozen 5
  have g6 : w5.frozen? ⟨w.heap.size + 1, 6, none⟩ = false := Z5.out.frozen 6
  have g7 : w5.frozen? ⟨w.heap.size + 1, 7, none⟩ = false := Z5.out.frozen 7
  clear Y5 Z5
  go_wp2
  refine bodyPost_ret (v := .tuple #[.agg #[.int .i64 i1, .int .i64 i2, .int .i64 i3, .int .i64 i4, .int .i64 i5, .int .i64 i6, .int .i64 st, .slice zq zn zd], .int .i64 0]) (by simp [results, Tryd.results24, go_sem, r0, r1, r2, r3, r4, r5, r6, r7]) rfl ?_
  refine ⟨zq, zd, rfl, ?_⟩
  have key : ∀ W, Turn (fun k => k = w.heap.size ∨ k = w.heap.size + 1) w2 W → Told w W ⟨⟨i1, i2, i3, i4, i5, i6, st, S⟩, zq, zn, zd⟩ ∧ Below w.heap.size w W := fun W H => ⟨(HF.out W H).1 _ rfl, (HF.out W H).2⟩
  refine key _ ?_
  iterate 8 refine Turn.setCell ?_ (by exact .inl (.inr rfl)) _
  exact T5.out
set_option maxRecDepth 100000 in
set_option maxHeartbeats 8000000 in
theorem pbehu_err (y : Lv) (ev : Int) (p : Ms.Pd) (x : Int) (a b : Nat) (w : World) (hr : Su.Tabl w) (hs : St w y) (hn : y.n ≤ 1000000) (ha : Pt w a p) (hb : Nt w b x) (he : Su.err y.x.status ev = 0) (hov : overB p y.x x = true) : Calls Tryd.prog 24 #[lval y, .int .i64 ev, unl a b] w (BehEnd w lv0 9) := by
  have CA := Lib.hid (fun W (hW : Below w.heap.size w W) => Su.tafter_any y.x.status ev W (hr.on hW))
  have CP := Lib.hid (fun W (hW : Below w.heap.size w W) => papart_any y W (hs.keep hW) hn)
  have hlen := hs.len
  have CD := Lib.hid (fun (bl : Nat) (z : Lv) (st : Int) W (h : At_ W bl z) (hz : z.x = { y.x with status := st }) (hW : Below w.heap.size w W) => by
    have h1 := dunl_any p z x bl a b W h (ha.below hW ha.lt) (hb.below hW hb.lt)
    rw [hz, show overB p { y.x with status := st } x = overB p y.x x from rfl, hov] at h1
    exact h1)
  rw [he] at CA
  generalize Su.aft y.x.status ev = st at *
  unfold BehEnd
  obtain ⟨⟨i1, i2, i3, i4, i5, i6, i7, S⟩, q, n, d⟩ := y
  simp only [lval, unl] at CA CP hlen ⊢
  clear hr hs hn he ha hb hov
  obtain ⟨w1, hw1, B1, Y1, Z1⟩ := boxes2 w #[.int .i64 i1, .int .i64 i2, .int .i64 i3, .int .i64 i4, .int .i64 i5, .int .i64 i6, .int .i64 i7, .slice q n d] #[.int .i64 0, .int .i64 0, .int .i64 0, .int .i64 0, .int .i64 0, .int .i64 0, .int .i64 0, .slice none 0 0] 27 27
  have y0 : w1.cell? ⟨w.heap.size, 0, none⟩ = some (.int .i64 i1) := Y1.out.cell 0
  have y1 : w1.cell? ⟨w.heap.size, 1, none⟩ = some (.int .i64 i2) := Y1.out.cell 1
  have y2 : w1.cell? ⟨w.heap.size, 2, none⟩ = some (.int .i64 i3) := Y1.out.cell 2
  have y3 : w1.cell? ⟨w.heap.size, 3, none⟩ = some (.int .i64 i4) := Y1.out.cell 3
  have y4 : w1.cell? ⟨w.heap.size, 4, none⟩ = some (.int .i64 i5) := Y1.out.cell 4
  have y5 : w1.cell? ⟨w.heap.size, 5, none⟩ = some (.int .i64 i6) := Y1.out.cell 5
  have y6 : w1.cell? ⟨w.heap.size, 6, none⟩ = some (.int .i64 i7) := Y1.out.cell 6
  have y7 : w1.cell? ⟨w.heap.size, 7, none⟩ = some (.slice q n d) := Y1.out.cell 7
  go_enter Tryd.func24, Tryd.ntmps24
  go_wp2_with fail
  refine (CA.out _ B1.out).mono ?_
  rintro e w' ⟨rfl, rfl⟩
  clear CA
  go_wp2_with fail
  refine (CP.out _ B1.out).mono ?_
  rintro e w2 ⟨⟨zx, zq, zn, zd⟩, hzx, rfl, hst, hfr, hb2⟩
  simp only at hzx
  subst hzx
  obtain rfl : zn = n := hst.len.symm.trans hlen
  simp only [lval]
  have B2 := Lib.hid (B1.out.trans (hb2.mono B1.out.size))
  have Y2 := Lib.hid (Y1.out.below hb2 Y1.out.lt)
  have Z2 := Lib.hid (Z1.out.below hb2 Z1.out.lt)
  have HF := Lib.hid (show ∀ W, Turn (fun k => k = w.heap.size ∨ k = w.heap.size + 1) w2 W → (∀ x : Lt, x.stays = S → Told w W ⟨x, zq, zn, zd⟩) ∧ Below w.heap.size w W from fun W hW => by
    have h1 := Z1.out.lt
    have h2 := B1.out.size
    refine ⟨fun x hx => ⟨?_, fun k hk => ?_⟩, hW.below B2.out B2.out.size (fun i hi => by omega)⟩
    · have h3 := hst.turn hW (fun k hk hh => by
        have := hfr k hk
        omega)
      refine ⟨?_, h3.2⟩
      rw [show (⟨x, zq, zn, zd⟩ : Lv).x.stays = S from hx]
      exact h3.1
    · have := hfr k hk
      omega)
  clear hw1 y0 y1 y2 y3 y4 y5 y6 y7 Y1 Z1 B1 hst hfr hb2 hlen CP
  have y0 : w2.cell? ⟨w.heap.size, 0, none⟩ = some (.int .i64 i1) := Y2.out.cell 0
  have y1 : w2.cell? ⟨w.heap.size, 1, none⟩ = some (.int .i64 i2) := Y2.out.cell 1
  have y2 : w2.cell? ⟨w.heap.size, 2, none⟩ = some (.int .i64 i3) := Y2.out.cell 2
  have y3 : w2.cell? ⟨w.heap.size, 3, none⟩ = some (.int .i64 i4) := Y2.out.cell 3
  have y4 : w2.cell? ⟨w.heap.size, 4, none⟩ = some (.int .i64 i5) := Y2.out.cell 4
  have y5 : w2.cell? ⟨w.heap.size, 5, none⟩ = some (.int .i64 i6) := Y2.out.cell 5
  have y6 : w2.cell? ⟨w.heap.size, 6, none⟩ = some (.int .i64 i7) := Y2.out.cell 6
  have y7 : w2.cell? ⟨w.heap.size, 7, none⟩ = some (.slice q zn d) := Y2.out.cell 7
  have f0 : w2.frozen? ⟨w.heap.size, 0, none⟩ = false := Y2.out.frozen 0
  have f1 : w2.frozen? ⟨w.heap.size, 1, none⟩ = false := Y2.out.frozen 1
  have f2 : w2.frozen? ⟨w.heap.size, 2, none⟩ = false := Y2.out.frozen 2
  have f3 : w2.frozen? ⟨w.heap.size, 3, none⟩ = false := Y2.out.frozen 3
  have f4 : w2.frozen? ⟨w.heap.size, 4, none⟩ = false := Y2.out.frozen 4
  have f5 : w2.frozen? ⟨w.heap.size, 5, none⟩ = false := Y2.out.frozen 5
  have f6 : w2.frozen? ⟨w.heap.size, 6, none⟩ = false := Y2.out.frozen 6
  have f7 : w2.frozen? ⟨w.heap.size, 7, none⟩ = false := Y2.out.frozen 7
  go_upto_region 5 with fail
  have Y3 : Hid (Lies ((((((((w2.setCell ⟨w.heap.size, 0, none⟩ (.int .i64 i1)).setCell ⟨w.heap.size, 1, none⟩ (.int .i64 i2)).setCell ⟨w.heap.size, 2, none⟩ (.int .i64 i3)).setCell ⟨w.heap.size, 3, none⟩ (.int .i64 i4)).setCell ⟨w.heap.size, 4, none⟩ (.int .i64 i5)).setCell ⟨w.heap.size, 5, none⟩ (.int .i64 i6)).setCell ⟨w.heap.size, 6, none⟩ (.int .i64 i7)).setCell ⟨w.heap.size, 7, none⟩ (.slice zq zn zd)) (w.heap.size) 27 #[.int .i64 i1, .int .i64 i2, .int .i64 i3, .int .i64 i4, .int .i64 i5, .int .i64 i6, .int .i64 i7, .slice zq zn zd]) := Lib.hid (by simpa using ((((((((Y2.out.set_ 0 (.int .i64 i1)).set_ 1 (.int .i64 i2)).set_ 2 (.int .i64 i3)).set_ 3 (.int .i64 i4)).set_ 4 (.int .i64 i5)).set_ 5 (.int .i64 i6)).set_ 6 (.int .i64 i7)).set_ 7 (.slice zq zn zd)))
  have T3 : Hid (Turn (fun k => k = w.heap.size ∨ k = w.heap.size + 1) w2 ((((((((w2.setCell ⟨w.heap.size, 0, none⟩ (.int .i64 i1)).setCell ⟨w.heap.size, 1, none⟩ (.int .i64 i2)).setCell ⟨w.heap.size, 2, none⟩ (.int .i64 i3)).setCell ⟨w.heap.size, 3, none⟩ (.int .i64 i4)).setCell ⟨w.heap.size, 4, none⟩ (.int .i64 i5)).setCell ⟨w.heap.size, 5, none⟩ (.int .i64 i6)).setCell ⟨w.heap.size, 6, none⟩ (.int .i64 i7)).setCell ⟨w.heap.size, 7, none⟩ (.slice zq zn zd))) := Lib.hid (by
    iterate 8 refine Turn.setCell ?_ (by exact .inl (.inl rfl)) _
    exact Turn.refl _ _)
  have Z3 : Hid (Lies ((((((((w2.setCell ⟨w.heap.size, 0, none⟩ (.int .i64 i1)).setCell ⟨w.heap.size, 1, none⟩ (.int .i64 i2)).setCell ⟨w.heap.size, 2, none⟩ (.int .i64 i3)).setCell ⟨w.heap.size, 3, none⟩ (.int .i64 i4)).setCell ⟨w.heap.size, 4, none⟩ (.int .i64 i5)).setCell ⟨w.heap.size, 5, none⟩ (.int .i64 i6)).setCell ⟨w.heap.size, 6, none⟩ (.int .i64 i7)).setCell ⟨w.heap.size, 7, none⟩ (.slice zq zn zd)) (w.heap.size + 1) 27 #[.int .i64 0, .int .i64 0, .int .i64 0, .int .i64 0, .int .i64 0, .int .i64 0, .int .i64 0, .slice none 0 0]) := Lib.hid (by
    refine Lies.turn (S := fun k => k = w.heap.size) Z2.out ?_ (by omega)
    iterate 8 refine Turn.setCell ?_ (by exact .inl rfl) _
    exact Turn.refl _ _)
  clear f0 f1 f2 f3 f4 f5 f6 f7 y0 y1 y2 y3 y4 y5 y6 y7 Y2 Z2
  generalize ((((((((w2.setCell ⟨w.heap.size, 0, none⟩ (.int .i64 i1)).setCell ⟨w.heap.size, 1, none⟩ (.int .i64 i2)).setCell ⟨w.heap.size, 2, none⟩ (.int .i64 i3)).setCell ⟨w.heap.size, 3, none⟩ (.int .i64 i4)).setCell ⟨w.heap.size, 4, none⟩ (.int .i64 i5)).setCell ⟨w.heap.size, 5, none⟩ (.int .i64 i6)).setCell ⟨w.heap.size, 6, none⟩ (.int .i64 i7)).setCell ⟨w.heap.size, 7, none⟩ (.slice zq zn zd)) = w3 at *
  have y6 : w3.cell? ⟨w.heap.size, 6, none⟩ = some (.int .i64 i7) := Y3.out.cell 6
  have f6 : w3.frozen? ⟨w.heap.size, 6, none⟩ = false := Y3.out.frozen 6
  go_upto_region 6 with fail
  have Y4 : Hid (Lies (w3.setCell ⟨w.heap.size, 6, none⟩ (.int .i64 st)) (w.heap.size) 27 #[.int .i64 i1, .int .i64 i2, .int .i64 i3, .int .i64 i4, .int .i64 i5, .int .i64 i6, .int .i64 st, .slice zq zn zd]) := Lib.hid (by simpa using Y3.out.set_ 6 (.int .i64 st))
  have T4 := Lib.hid (T3.out.setCell (p := ⟨w.heap.size, 6, none⟩) (.inl (.inl rfl)) (.int .i64 st))
  have Z4 : Hid (Lies (w3.setCell ⟨w.heap.size, 6, none⟩ (.int .i64 st)) (w.heap.size + 1) 27 #[.int .i64 0, .int .i64 0, .int .i64 0, .int .i64 0, .int .i64 0, .int .i64 0, .int .i64 0, .slice none 0 0]) := Lib.hid (Z3.out.like (Below.heap_setCell w3 ⟨w.heap.size, 6, none⟩ (.int .i64 st) _ (by simp only; omega)))
  clear y6 f6 Y3 T3 Z3
  generalize (w3.setCell ⟨w.heap.size, 6, none⟩ (.int .i64 st)) = w4 at *
  have CF := Lib.hid (CD.out (w.heap.size) ⟨⟨i1, i2, i3, i4, i5, i6, st, S⟩, zq, zn, zd⟩ st w4 Y4.out rfl (HF.out _ T4.out).2)
  clear CD
  go_wp2_with fail
  refine CF.out.mono ?_
  rintro e w5 ⟨rfl, hb5⟩
  have Y5 := Lib.hid (Y4.out.below hb5 Y4.out.lt)
  have Z5 := Lib.hid (Z4.out.below hb5 Z4.out.lt)
  have T5 := Lib.hid (T4.out.trans (Turn.of_below (S := (fun k => k = w.heap.size ∨ k = w.heap.size + 1)) hb5) (fun _ hi => .inl hi))
  clear hb5 CF Y4 Z4 T4
  have y0 : w5.cell? ⟨w.heap.size, 0, none⟩ = some (.int .i64 i1) := Y5.out.cell 0
  have y1 : w5.cell? ⟨w.heap.size, 1, none⟩ = some (.int .i64 i2) := Y5.out.cell 1
  have y2 : w5.cell? ⟨w.heap.size, 2, none⟩ = some (.int .i64 i3) := Y5.out.cell 2
  have y3 : w5.cell? ⟨w.heap.size, 3, none⟩ = some (.int .i64 i4) := Y5.out.cell 3
  have y4 : w5.cell? ⟨w.heap.size, 4, none⟩ = some (.int .i64 i5) := Y5.out.cell 4
  have y5 : w5.cell? ⟨w.heap.size, 5, none⟩ = some (.int .i64 i6) := Y5.out.cell 5
  have y6 : w5.cell? ⟨w.heap.size, 6, none⟩ = some (.int .i64 st) := Y5.out.cell 6
  have y7 : w5.cell? ⟨w.heap.size, 7, none⟩ = some (.slice zq zn zd) := Y5.out.cell 7
  have r0 : w5.cell? ⟨w.heap.size + 1, 0, none⟩ = some (.int .i64 0) := Z5.out.cell 0
  have r1 : w5.cell? ⟨w.heap.size + 1, 1, none⟩ = some (.int .i64 0) := Z5.out.cell 1
  have r2 : w5.cell? ⟨w.heap.size + 1, 2, none⟩ = some (.int .i64 0) := Z5.out.cell 2
  have r3 : w5.cell? ⟨w.heap.size + 1, 3, none⟩ = some (.int .i64 0) := Z5.out.cell 3
  have r4 : w5.cell? ⟨w.heap.size + 1, 4, none⟩ = some (.int .i64 0) := Z5.out.cell 4
  have r5 : w5.cell? ⟨w.heap.size + 1, 5, none⟩ = some (.int .i64 0) := Z5.out.cell 5
  have r6 : w5.cell? ⟨w.heap.size + 1, 6, none⟩ = some (.int .i64 0) := Z5.out.cell 6
  have r7 : w5.cell? ⟨w.heap.size + 1, 7, none⟩ = some (.slice none 0 0) := Z5.out.cell 7
  have g0 : w5.frozen? ⟨w.heap.size + 1, 0, none⟩ = false := Z5.out.frozen 0
  have g1 : w5.frozen? ⟨w.heap.size + 1, 1, none⟩ = false := Z5.out.frozen 1
  have g2 : w5.frozen? ⟨w.heap.size + 1, 2, none⟩ = false := Z5.out.frozen 2
  have g3 : w5.frozen? ⟨w.heap.size + 1, 3, none⟩ = false := Z5.out.frozen 3
  have g4 : w5.frozen? ⟨w.heap.size + 1, 4, none⟩ = false := Z5.out.frozen 4
  have g5 : w5.frozen? ⟨w.heap.size + 1, 5, none⟩ = false := Z5.out.frozen 5
  have g6 : w5.frozen? ⟨w.heap.size + 1, 6, none⟩ = false := Z5.out.frozen 6
  have g7 : w5.frozen? ⟨w.heap.size + 1, 7, none⟩ = false := Z5.out.frozen 7
  clear Y5 Z5
  go_wp2
  refine bodyPost_ret (v := .tuple #[.agg #[.int .i64 0, .int .i64 0, .int .i64 0, .int .i64 0, .int .i64 0, .int .i64 0, .int .i64 0, .slice none 0 0], .int .i64 9]) (by simp [results, Tryd.results24, go_sem, r0, r1, r2, r3, r4, r5, r6, r7]) rfl ?_
  refine ⟨none, 0, rfl, told_none _ _ _ _ _ rfl, ?_⟩
  have key : ∀ W, Turn (fun k => k = w.heap.size ∨ k = w.heap.size + 1) w2 W → Below w.heap.size w W := fun W H => (HF.out W H).2
  refine key _ ?_
  iterate 8 refine Turn.setCell ?_ (by exact .inl (.inr rfl)) _
  exact T5.out
set_option maxRecDepth 100000 in
set_option maxHeartbeats 8000000 in
theorem pbehg_ok (y : Lv) (ev : Int) (p : Ms.Pd) (x g : Int) (a b c : Nat) (w : World) (hr : Su.Tabl w) (hs : St w y) (hn : y.n ≤ 1000000) (ha : Pt w a p) (hb : Nt w b x) (hc : Nt w c g) (he : Su.err y.x.status ev = 0) (hov : overB p { y.x with grant := St.St.cap (St.St.fit y.x.grant + St.St.fit g) } x = false) : Calls Tryd.prog 24 #[lval y, .int .i64 ev, wig c a b] w (BehEnd w { y with x := { y.x with status := Su.aft y.x.status ev, grant := St.St.cap (St.St.fit y.x.grant + St.St.fit g) } } 0) := by
  have CA := Lib.hid (fun W (hW : Below w.heap.size w W) => Su.tafter_any y.x.status ev W (hr.on hW))
  have CP := Lib.hid (fun W (hW : Below w.heap.size w W) => papart_any y W (hs.keep hW) hn)
  have hlen := hs.len
  have CD := Lib.hid (fun (bl : Nat) (z : Lv) (st : Int) W (h : At_ W bl z) (hz : z.x = { y.x with status := st }) (hW : Below w.heap.size w W) => by
    have h1 := dwig_any p z x g bl a b c W h (ha.below hW ha.lt) (hb.below hW hb.lt) (hc.below hW hc.lt)
    rw [hz] at h1
    simp only at h1
    rw [show overB p { y.x with status := st, grant := St.St.cap (St.St.fit y.x.grant + St.St.fit g) } x = overB p { y.x with grant := St.St.cap (St.St.fit y.x.grant + St.St.fit g) } x from rfl, hov] at h1
    exact h1)
  generalize St.St.cap (St.St.fit y.x.grant + St.St.fit g) = gr at *
  rw [he] at CA
  generalize Su.aft y.x.status ev = st at *
  unfold BehEnd
  obtain ⟨⟨i1, i2, i3, i4, i5, i6, i7, S⟩, q, n, d⟩ := y
  simp only [lval, wig] at CA CP hlen ⊢
  clear hr hs hn he ha hb hc hov
  obtain ⟨w1, hw1, B1, Y1, Z1⟩ := boxes2 w #[.int .i64 i1, .int .i64 i2, .int .i64 i3, .int .i64 i4, .int .i64 i5, .int .i64 i6, .int .i64 i7, .slice q n d] #[.int .i64 0, .int .i64 0, .int .i64 0, .int .i64 0, .int .i64 0, .int .i64 0, .int .i64 0, .slice none 0 0] 27 27
  have y0 : w1.cell? ⟨w.heap.size, 0, none⟩ = some (.int .i64 i1) := Y1.out.cell 0
  have y1 : w1.cell? ⟨w.heap.size, 1, none⟩ = some (.int .i64 i2) := Y1.out.cell 1
  have y2 : w1.cell? ⟨w.heap.size, 2, none⟩ = some (.int .i64 i3) := Y1.out.cell 2
  have y3 : w1.cell? ⟨w.heap.size, 3, none⟩ = some (.int .i64 i4) := Y1.out.cell 3
  have y4 : w1.cell? ⟨w.heap.size, 4, none⟩ = some (.int .i64 i5) := Y1.out.cell 4
  have y5 : w1.cell? ⟨w.heap.size, 5, none⟩ = some (.int .i64 i6) := Y1.out.cell 5
  have y6 : w1.cell? ⟨w.heap.size, 6, none⟩ = some (.int .i64 i7) := Y1.out.cell 6
  have y7 : w1.cell? ⟨w.heap.size, 7, none⟩ = some (.slice q n d) := Y1.out.cell 7
  go_enter Tryd.func24, Tryd.ntmps24
  go_wp2_with fail
  refine (CA.out _ B1.out).mono ?_
  rintro e w' ⟨rfl, rfl⟩
  clear CA
  go_wp2_with fail
  refine (CP.out _ B1.out).mono ?_
  rintro e w2 ⟨⟨zx, zq, zn, zd⟩, hzx, rfl, hst, hfr, hb2⟩
  simp only at hzx
  subst hzx
  obtain rfl : zn = n := hst.len.symm.trans hlen
  simp only [lval]
  have B2 := Lib.hid (B1.out.trans (hb2.mono B1.out.size))
  have Y2 := Lib.hid (Y1.out.below hb2 Y1.out.lt)
  have Z2 := Lib.hid (Z1.out.below hb2 Z1.out.lt)
  have HF := Lib.hid (show ∀ W, Turn (fun k => k = w.heap.size ∨ k = w.heap.size + 1) w2 W → (∀ x : Lt, x.stays = S → Told w W ⟨x, zq, zn, zd⟩) ∧ Below w.heap.size w W from fun W hW => by
    have h1 := Z1.out.lt
    have h2 := B1.out.size
    refine ⟨fun x hx => ⟨?_, fun k hk => ?_⟩, hW.below B2.out B2.out.size (fun i hi => by omega)⟩
    · have h3 := hst.turn hW (fun k hk hh => by
        have := hfr k hk
        omega)
      refine ⟨?_, h3.2⟩
      rw [show (⟨x, zq, zn, zd⟩ : Lv).x.stays = S from hx]
      exact h3.1
    · have := hfr k hk
      omega)
  clear hw1 y0 y1 y2 y3 y4 y5 y6 y7 Y1 Z1 B1 hst hfr hb2 hlen CP
  have y0 : w2.cell? ⟨w.heap.size, 0, none⟩ = some (.int .i64 i1) := Y2.out.cell 0
  have y1 : w2.cell? ⟨w.heap.size, 1, none⟩ = some (.int .i64 i2) := Y2.out.cell 1
  have y2 : w2.cell? ⟨w.heap.size, 2, none⟩ = some (.int .i64 i3) := Y2.out.cell 2
  have y3 : w2.cell? ⟨w.heap.size, 3, none⟩ = some (.int .i64 i4) := Y2.out.cell 3
  have y4 : w2.cell? ⟨w.heap.size, 4, none⟩ = some (.int .i64 i5) := Y2.out.cell 4
  have y5 : w2.cell? ⟨w.heap.size, 5, none⟩ = some (.int .i64 i6) := Y2.out.cell 5
  have y6 : w2.cell? ⟨w.heap.size, 6, none⟩ = some (.int .i64 i7) := Y2.out.cell 6
  have y7 : w2.cell? ⟨w.heap.size, 7, none⟩ = some (.slice q zn d) := Y2.out.cell 7
  have f0 : w2.frozen? ⟨w.heap.size, 0, none⟩ = false := Y2.out.frozen 0
  have f1 : w2.frozen? ⟨w.heap.size, 1, none⟩ = false := Y2.out.frozen 1
  have f2 : w2.frozen? ⟨w.heap.size, 2, none⟩ = false := Y2.out.frozen 2
  have f3 : w2.frozen? ⟨w.heap.size, 3, none⟩ = false := Y2.out.frozen 3
  have f4 : w2.frozen? ⟨w.heap.size, 4, none⟩ = false := Y2.out.frozen 4
  have f5 : w2.frozen? ⟨w.heap.size, 5, none⟩ = false := Y2.out.frozen 5
  have f6 : w2.frozen? ⟨w.heap.size, 6, none⟩ = false := Y2.out.frozen 6
  have f7 : w2.frozen? ⟨w.heap.size, 7, none⟩ = false := Y2.out.frozen 7
  go_upto_region 5 with fail
  have Y3 : Hid (Lies ((((((((w2.setCell ⟨w.heap.size, 0, none⟩ (.int .i64 i1)).setCell ⟨w.heap.size, 1, none⟩ (.int .i64 i2)).setCell ⟨w.heap.size, 2, none⟩ (.int .i64 i3)).setCell ⟨w.heap.size, 3, none⟩ (.int .i64 i4)).setCell ⟨w.heap.size, 4, none⟩ (.int .i64 i5)).setCell ⟨w.heap.size, 5, none⟩ (.int .i64 i6)).setCell ⟨w.heap.size, 6, none⟩ (.int .i64 i7)).setCell ⟨w.heap.size, 7, none⟩ (.slice zq zn zd)) (w.heap.size) 27 #[.int .i64 i1, .int .i64 i2, .int .i64 i3, .int .i64 i4, .int .i64 i5, .int .i64 i6, .int .i64 i7, .slice zq zn zd]) := Lib.hid (by simpa using ((((((((Y2.out.set_ 0 (.int .i64 i1)).set_ 1 (.int .i64 i2)).set_ 2 (.int .i64 i3)).set_ 3 (.int .i64 i4)).set_ 4 (.int .i64 i5)).set_ 5 (.int .i64 i6)).set_ 6 (.int .i64 i7)).set_ 7 (.slice zq zn zd)))
  have T3 : Hid (Turn (fun k => k = w.heap.size ∨ k = w.heap.size + 1) w2 ((((((((w2.setCell ⟨w.heap.size, 0, none⟩ (.int .i64 i1)).setCell ⟨w.heap.size, 1, none⟩ (.int .i64 i2)).setCell ⟨w.heap.size, 2, none⟩ (.int .i64 i3)).setCell ⟨w.heap.size, 3, none⟩ (.int .i64 i4)).setCell ⟨w.heap.size, 4, none⟩ (.int .i64 i5)).setCell ⟨w.heap.size, 5, none⟩ (.int .i64 i6)).setCell ⟨w.heap.size, 6, none⟩ (.int .i64 i7)).setCell ⟨w.heap.size, 7, none⟩ (.slice zq zn zd))) := Lib.hid (by
    iterate 8 refine Turn.setCell ?_ (by exact .inl (.inl rfl)) _
    exact Turn.refl _ _)
  have Z3 : Hid (Lies ((((((((w2.setCell ⟨w.heap.size, 0, none⟩ (.int .i64 i1)).setCell ⟨w.heap.size, 1, none⟩ (.int .i64 i2)).setCell ⟨w.heap.size, 2, none⟩ (.int .i64 i3)).setCell ⟨w.heap.size, 3, none⟩ (.int .i64 i4)).setCell ⟨w.heap.size, 4, none⟩ (.int .i64 i5)).setCell ⟨w.heap.size, 5, none⟩ (.int .i64 i6)).setCell ⟨w.heap.size, 6, none⟩ (.int .i64 i7)).setCell ⟨w.heap.size, 7, none⟩ (.slice zq zn zd)) (w.heap.size + 1) 27 #[.int .i64 0, .int .i64 0, .int .i64 0, .int .i64 0, .int .i64 0, .int .i64 0, .int .i64 0, .slice none 0 0]) := Lib.hid (by
    refine Lies.turn (S := fun k => k = w.heap.size) Z2.out ?_ (by omega)
    iterate 8 refine Turn.setCell ?_ (by exact .inl rfl) _
    exact Turn.refl _ _)
  clear f0 f1 f2 f3 f4 f5 f6 f7 y0 y1 y2 y3 y4 y5 y6 y7 Y2 Z2
  generalize ((((((((w2.setCell ⟨w.heap.size, 0, none⟩ (.int .i64 i1)).setCell ⟨w.heap.size, 1, none⟩ (.int .i64 i2)).setCell ⟨w.heap.size, 2, none⟩ (.int .i64 i3)).setCell ⟨w.heap.size, 3, none⟩ (.int .i64 i4)).setCell ⟨w.heap.size, 4, none⟩ (.int .i64 i5)).setCell ⟨w.heap.size, 5, none⟩ (.int .i64 i6)).setCell ⟨w.heap.size, 6, none⟩ (.int .i64 i7)).setCell ⟨w.heap.size, 7, none⟩ (.slice zq zn zd)) = w3 at *
  have y6 : w3.cell? ⟨w.heap.size, 6, none⟩ = some (.int .i64 i7) := Y3.out.cell 6
  have f6 : w3.frozen? ⟨w.heap.size, 6, none⟩ = false := Y3.out.frozen 6
  go_upto_region 6 with fail
  have Y4 : Hid (Lies (w3.setCell ⟨w.heap.size, 6, none⟩ (.int .i64 st)) (w.heap.size) 27 #[.int .i64 i1, .int .i64 i2, .int .i64 i3, .int .i64 i4, .int .i64 i5, .int .i64 i6, .int .i64 st, .slice zq zn zd]) := Lib.hid (by simpa using Y3.out.set_ 6 (.int .i64 st))
  have T4 := Lib.hid (T3.out.setCell (p := ⟨w.heap.size, 6, none⟩) (.inl (.inl rfl)) (.int .i64 st))
  have Z4 : Hid (Lies (w3.setCell ⟨w.heap.size, 6, none⟩ (.int .i64 st)) (w.heap.size + 1) 27 #[.int .i64 0, .int .i64 0, .int .i64 0, .int .i64 0, .int .i64 0, .int .i64 0, .int .i64 0, .slice none 0 0]) := Lib.hid (Z3.out.like (Below.heap_setCell w3 ⟨w.heap.size, 6, none⟩ (.int .i64 st) _ (by simp only; omega)))
  clear y6 f6 Y3 T3 Z3
  generalize (w3.setCell ⟨w.heap.size, 6, none⟩ (.int .i64 st)) = w4 at *
  have CF := Lib.hid (CD.out (w.heap.size) ⟨⟨i1, i2, i3, i4, i5, i6, st, S⟩, zq, zn, zd⟩ st w4 Y4.out rfl (HF.out _ T4.out).2)
  clear CD
  go_wp2_with fail
  refine CF.out.mono ?_
  rintro e w5 ⟨rfl, hy5, ht5⟩
  have Y5 : Hid (Lies w5 w.heap.size 27 #[.int .i64 i1, .int .i64 i2, .int .i64 i3, .int .i64 i4, .int .i64 gr, .int .i64 i6, .int .i64 st, .slice zq zn zd]) := Lib.hid hy5
  have Z5 := Lib.hid (Z4.out.turn ht5 (by omega))
  have T5 := Lib.hid (T4.out.trans ht5 (fun _ hi => .inl (.inl hi)))
  clear hy5 ht5 CF Y4 Z4 T4
  have y0 : w5.cell? ⟨w.heap.size, 0, none⟩ = some (.int .i64 i1) := Y5.out.cell 0
  have y1 : w5.cell? ⟨w.heap.size, 1, none⟩ = some (.int .i64 i2) := Y5.out.cell 1
  have y2 : w5.cell? ⟨w.heap.size, 2, none⟩ = some (.int .i64 i3) := Y5.out.cell 2
  have y3 : w5.cell? ⟨w.heap.size, 3, none⟩ = some (.int .i64 i4) := Y5.out.cell 3
  have y4 : w5.cell? ⟨w.heap.size, 4, none⟩ = some (.int .i64 gr) := Y5.out.cell 4
  have y5 : w5.cell? ⟨w.heap.size, 5, none⟩ = some (.int .i64 i6) := Y5.out.cell 5
  have y6 : w5.cell? ⟨w.heap.size, 6, none⟩ = some (.int .i64 st) := Y5.out.cell 6
  have y7 : w5.cell? ⟨w.heap.size, 7, none⟩ = some (.slice zq zn zd) := Y5.out.cell 7
  have r0 : w5.cell? ⟨w.heap.size + 1, 0, none⟩ = some (.int .i64 0) := Z5.out.cell 0
  have r1 : w5.cell? ⟨w.heap.size + 1, 1, none⟩ = some (.int .i64 0) := Z5.out.cell 1
  have r2 : w5.cell? ⟨w.heap.size + 1, 2, none⟩ = some (.int .i64 0) := Z5.out.cell 2
  have r3 : w5.cell? ⟨w.heap.size + 1, 3, none⟩ = some (.int .i64 0) := Z5.out.cell 3
  have r4 : w5.cell? ⟨w.heap.size + 1, 4, none⟩ = some (.int .i64 0) := Z5.out.cell 4
  have r5 : w5.cell? ⟨w.heap.size + 1, 5, none⟩ = some (.int .i64 0) := Z5.out.cell 5
  have r6 : w5.cell? ⟨w.heap.size + 1, 6, none⟩ = some (.int .i64 0) := Z5.out.cell 6
  have r7 : w5.cell? ⟨w.heap.size + 1, 7, none⟩ = some (.slice none 0 0) := Z5.out.cell 7
  have g0 : w5.frozen? ⟨w.heap.size + 1, 0, none⟩ = false := Z5.out.frozen 0
  have g1 : w5.frozen? ⟨w.heap.size + 1, 1, none⟩ = false := Z5.out.frozen 1
  have g2 : w5.frozen? ⟨w.heap.size + 1, 2, none⟩ = false := Z5.out.frozen 2
  have g3 : w5.frozen? ⟨w.heap.size + 1, 3, none⟩ = false := Z5.out.frozen 3
  have g4 : w5.frozen? ⟨w.heap.size + 1, 4, none⟩ = false := Z5.out.frozen 4
  have g5 : w5.frozen? ⟨w.heap.size + 1, 5, none⟩ = false := Z5.out.frozen 5
  have g6 : w5.frozen? ⟨w.heap.size + 1, 6, none⟩ = false := Z5.out.frozen 6
  have g7 : w5.frozen? ⟨w.heap.size + 1, 7, none⟩ = false := Z5.out.frozen 7
  clear Y5 Z5
  go_wp2
  refine bodyPost_ret (v := .tuple #[.agg #[.int .i64 i1, .int .i64 i2, .int .i64 i3, .int .i64 i4, .int .i64 gr, .int .i64 i6, .int .i64 st, .slice zq zn zd], .int .i64 0]) (by simp [results, Tryd.results24, go_sem, r0, r1, r2, r3, r4, r5, r6, r7]) rfl ?_
  refine ⟨zq, zd, rfl, ?_⟩
  have key : ∀ W, Turn (fun k => k = w.heap.size ∨ k = w.heap.size + 1) w2 W → Told w W ⟨⟨i1, i2, i3, i4, gr, i6, st, S⟩, zq, zn, zd⟩ ∧ Below w.heap.size w W := fun W H => ⟨(HF.out W H).1 _ rfl, (HF.out W H).2⟩
  refine key _ ?_
  iterate 8 refine Turn.setCell ?_ (by exact .inl (.inr rfl)) _
  exact T5.out
set_option maxRecDepth 100000 in
set_option maxHeartbeats 8000000 in
theorem pbehg_err (y : Lv) (ev : Int) (p : Ms.Pd) (x g : Int) (a b c : Nat) (w : World) (hr : Su.Tabl w) (hs : St w y) (hn : y.n ≤ 1000000) (ha : Pt w a p) (hb : Nt w b x) (hc : Nt w c g) (he : Su.err y.x.status ev = 0) (hov : overB p { y.x with grant := St.St.cap (St.St.fit y.x.grant + St.St.fit g) } x = true) : Calls Tryd.prog 24 #[lval y, .int .i64 ev, wig c a b] w (BehEnd w lv0 9) := by
  have CA := Lib.hid (fun W (hW : Below w.heap.size w W) => Su.tafter_any y.x.status ev W (hr.on hW))
  have CP := Lib.hid (fun W (hW : Below w.heap.size w W) => papart_any y W (hs.keep hW) hn)
  have hlen := hs.len
  have CD := Lib.hid (fun (bl : Nat) (z : Lv) (st : Int) W (h : At_ W bl z) (hz : z.x = { y.x with status := st }) (hW : Below w.heap.size w W) => by
    have h1 := dwig_any p z x g bl a b c W h (ha.below hW ha.lt) (hb.below hW hb.lt) (hc.below hW hc.lt)
    rw [hz] at h1
    simp only at h1
    rw [show overB p { y.x with status := st, grant := St.St.cap (St.St.fit y.x.grant + St.St.fit g) } x = overB p { y.x with grant := St.St.cap (St.St.fit y.x.grant + St.St.fit g) } x from rfl, hov] at h1
    exact h1)
  generalize St.St.cap (St.St.fit y.x.grant + St.St.fit g) = gr at *
  rw [he] at CA
  generalize Su.aft y.x.status ev = st at *
  unfold BehEnd
  obtain ⟨⟨i1, i2, i3, i4, i5, i6, i7, S⟩, q, n, d⟩ := y
  simp only [lval, wig] at CA CP hlen ⊢
  clear hr hs hn he ha hb hc hov
  obtain ⟨w1, hw1, B1, Y1, Z1⟩ := boxes2 w #[.int .i64 i1, .int .i64 i2, .int .i64 i3, .int .i64 i4, .int .i64 i5, .int .i64 i6, .int .i64 i7, .slice q n d] #[.int .i64 0, .int .i64 0, .int .i64 0, .int .i64 0, .int .i64 0, .int .i64 0, .int .i64 0, .slice none 0 0] 27 27
  have y0 : w1.cell? ⟨w.heap.size, 0, none⟩ = some (.int .i64 i1) := Y1.out.cell 0
  have y1 : w1.cell? ⟨w.heap.size, 1, none⟩ = some (.int .i64 i2) := Y1.out.cell 1
  have y2 : w1.cell? ⟨w.heap.size, 2, none⟩ = some (.int .i64 i3) := Y1.out.cell 2
  have y3 : w1.cell? ⟨w.heap.size, 3, none⟩ = some (.int .i64 i4) := Y1.out.cell 3
  have y4 : w1.cell? ⟨w.heap.size, 4, none⟩ = some (.int .i64 i5) := Y1.out.cell 4
  have y5 : w1.cell? ⟨w.heap.size, 5, none⟩ = some (.int .i64 i6) := Y1.out.cell 5
  have y6 : w1.cell? ⟨w.heap.size, 6, none⟩ = some (.int .i64 i7) := Y1.out.cell 6
  have y7 : w1.cell? ⟨w.heap.size, 7, none⟩ = some (.slice q n d) := Y1.out.cell 7
  go_enter Tryd.func24, Tryd.ntmps24
  go_wp2_with fail
  refine (CA.out _ B1.out).mono ?_
  rintro e w' ⟨rfl, rfl⟩
  clear CA
  go_wp2_with fail
  refine (CP.out _ B1.out).mono ?_
  rintro e w2 ⟨⟨zx, zq, zn, zd⟩, hzx, rfl, hst, hfr, hb2⟩
  simp only at hzx
  subst hzx
  obtain rfl : zn = n := hst.len.symm.trans hlen
  simp only [lval]
  have B2 := Lib.hid (B1.out.trans (hb2.mono B1.out.size))
  have Y2 := Lib.hid (Y1.out.below hb2 Y1.out.lt)
  have Z2 := Lib.hid (Z1.out.below hb2 Z1.out.lt)
  have HF := Lib.hid (show ∀ W, Turn (fun k => k = w.heap.size ∨ k = w.heap.size + 1) w2 W → (∀ x : Lt, x.stays = S → Told w W ⟨x, zq, zn, zd⟩) ∧ Below w.heap.size w W from fun W hW => by
    have h1 := Z1.out.lt
    have h2 := B1.out.size
    refine ⟨fun x hx => ⟨?_, fun k hk => ?_⟩, hW.below B2.out B2.out.size (fun i hi => by omega)⟩
    · have h3 := hst.turn hW (fun k hk hh => by
        have := hfr k hk
        omega)
      refine ⟨?_, h3.2⟩
      rw [show (⟨x, zq, zn, zd⟩ : Lv).x.stays = S from hx]
      exact h3.1
    · have := hfr k hk
      omega)
  clear hw1 y0 y1 y2 y3 y4 y5 y6 y7 Y1 Z1 B1 hst hfr hb2 hlen CP
  have y0 : w2.cell? ⟨w.heap.size, 0, none⟩ = some (.int .i64 i1) := Y2.out.cell 0
  have y1 : w2.cell? ⟨w.heap.size, 1, none⟩ = some (.int .i64 i2) := Y2.out.cell 1
  have y2 : w2.cell? ⟨w.heap.size, 2, none⟩ = some (.int .i64 i3) := Y2.out.cell 2
  have y3 : w2.cell? ⟨w.heap.size, 3, none⟩ = some (.int .i64 i4) := Y2.out.cell 3
  have y4 : w2.cell? ⟨w.heap.size, 4, none⟩ = some (.int .i64 i5) := Y2.out.cell 4
  have y5 : w2.cell? ⟨w.heap.size, 5, none⟩ = some (.int .i64 i6) := Y2.out.cell 5
  have y6 : w2.cell? ⟨w.heap.size, 6, none⟩ = some (.int .i64 i7) := Y2.out.cell 6
  have y7 : w2.cell? ⟨w.heap.size, 7, none⟩ = some (.slice q zn d) := Y2.out.cell 7
  have f0 : w2.frozen? ⟨w.heap.size, 0, none⟩ = false := Y2.out.frozen 0
  have f1 : w2.frozen? ⟨w.heap.size, 1, none⟩ = false := Y2.out.frozen 1
  have f2 : w2.frozen? ⟨w.heap.size, 2, none⟩ = false := Y2.out.frozen 2
  have f3 : w2.frozen? ⟨w.heap.size, 3, none⟩ = false := Y2.out.frozen 3
  have f4 : w2.frozen? ⟨w.heap.size, 4, none⟩ = false := Y2.out.frozen 4
  have f5 : w2.frozen? ⟨w.heap.size, 5, none⟩ = false := Y2.out.frozen 5
  have f6 : w2.frozen? ⟨w.heap.size, 6, none⟩ = false := Y2.out.frozen 6
  have f7 : w2.frozen? ⟨w.heap.size, 7, none⟩ = false := Y2.out.frozen 7
  go_upto_region 5 with fail
  have Y3 : Hid (Lies ((((((((w2.setCell ⟨w.heap.size, 0, none⟩ (.int .i64 i1)).setCell ⟨w.heap.size, 1, none⟩ (.int .i64 i2)).setCell ⟨w.heap.size, 2, none⟩ (.int .i64 i3)).setCell ⟨w.heap.size, 3, none⟩ (.int .i64 i4)).setCell ⟨w.heap.size, 4, none⟩ (.int .i64 i5)).setCell ⟨w.heap.size, 5, none⟩ (.int .i64 i6)).setCell ⟨w.heap.size, 6, none⟩ (.int .i64 i7)).setCell ⟨w.heap.size, 7, none⟩ (.slice zq zn zd)) (w.heap.size) 27 #[.int .i64 i1, .int .i64 i2, .int .i64 i3, .int .i64 i4, .int .i64 i5, .int .i64 i6, .int .i64 i7, .slice zq zn zd]) := Lib.hid (by simpa using ((((((((Y2.out.set_ 0 (.int .i64 i1)).set_ 1 (.int .i64 i2)).set_ 2 (.int .i64 i3)).set_ 3 (.int .i64 i4)).set_ 4 (.int .i64 i5)).set_ 5 (.int .i64 i6)).set_ 6 (.int .i64 i7)).set_ 7 (.slice zq zn zd)))
  have T3 : Hid (Turn (fun k => k = w.heap.size ∨ k = w.heap.size + 1) w2 ((((((((w2.setCell ⟨w.heap.size, 0, none⟩ (.int .i64 i1)).setCell ⟨w.heap.size, 1, none⟩ (.int .i64 i2)).setCell ⟨w.heap.size, 2, none⟩ (.int .i64 i3)).setCell ⟨w.heap.size, 3, none⟩ (.int .i64 i4)).setCell ⟨w.heap.size, 4, none⟩ (.int .i64 i5)).setCell ⟨w.heap.size, 5, none⟩ (.int .i64 i6)).setCell ⟨w.heap.size, 6, none⟩ (.int .i64 i7)).setCell ⟨w.heap.size, 7, none⟩ (.slice zq zn zd))) := Lib.hid (by
    iterate 8 refine Turn.setCell ?_ (by exact .inl (.inl rfl)) _
    exact Turn.refl _ _)
  have Z3 : Hid (Lies ((((((((w2.setCell ⟨w.heap.size, 0, none⟩ (.int .i64 i1)).setCell ⟨w.heap.size, 1, none⟩ (.int .i64 i2)).setCell ⟨w.heap.size, 2, none⟩ (.int .i64 i3)).setCell ⟨w.heap.size, 3, none⟩ (.int .i64 i4)).setCell ⟨w.heap.size, 4, none⟩ (.int .i64 i5)).setCell ⟨w.heap.size, 5, none⟩ (.int .i64 i6)).setCell ⟨w.heap.size, 6, none⟩ (.int .i64 i7)).setCell ⟨w.heap.size, 7, none⟩ (.slice zq zn zd)) (w.heap.size + 1) 27 #[.int .i64 0, .int .i64 0, .int .i64 0, .int .i64 0, .int .i64 0, .int .i64 0, .int .i64 0, .slice none 0 0]) := Lib.hid (by
    refine Lies.turn (S := fun k => k = w.heap.size) Z2.out ?_ (by omega)
    iterate 8 refine Turn.setCell ?_ (by exact .inl rfl) _
    exact Turn.refl _ _)
  clear f0 f1 f2 f3 f4 f5 f6 f7 y0 y1 y2 y3 y4 y5 y6 y7 Y2 Z2
  generalize ((((((((w2.setCell ⟨w.heap.size, 0, none⟩ (.int .i64 i1)).setCell ⟨w.heap.size, 1, none⟩ (.int .i64 i2)).setCell ⟨w.heap.size, 2, none⟩ (.int .i64 i3)).setCell ⟨w.heap.size, 3, none⟩ (.int .i64 i4)).setCell ⟨w.heap.size, 4, none⟩ (.int .i64 i5)).setCell ⟨w.heap.size, 5, none⟩ (.int .i64 i6)).setCell ⟨w.heap.size, 6, none⟩ (.int .i64 i7)).setCell ⟨w.heap.size, 7, none⟩ (.slice zq zn zd)) = w3 at *
  have y6 : w3.cell? ⟨w.heap.size, 6, none⟩ = some (.int .i64 i7) := Y3.out.cell 6
  have f6 : w3.frozen? ⟨w.heap.size, 6, none⟩ = false := Y3.out.frozen 6
  go_upto_region 6 with fail
  have Y4 : Hid (Lies (w3.setCell ⟨w.heap.size, 6, none⟩ (.int .i64 st)) (w.heap.size) 27 #[.int .i64 i1, .int .i64 i2, .int .i64 i3, .int .i64 i4, .int .i64 i5, .int .i64 i6, .int .i64 st, .slice zq zn zd]) := Lib.hid (by simpa using Y3.out.set_ 6 (.int .i64 st))
  have T4 := Lib.hid (T3.out.setCell (p := ⟨w.heap.size, 6, none⟩) (.inl (.inl rfl)) (.int .i64 st))
  have Z4 : Hid (Lies (w3.setCell ⟨w.heap.size, 6, none⟩ (.int .i64 st)) (w.heap.size + 1) 27 #[.int .i64 0, .int .i64 0, .int .i64 0, .int .i64 0, .int .i64 0, .int .i64 0, .int .i64 0, .slice none 0 0]) := Lib.hid (Z3.out.like (Below.heap_setCell w3 ⟨w.heap.size, 6, none⟩ (.int .i64 st) _ (by simp only; omega)))
  clear y6 f6 Y3 T3 Z3
  generalize (w3.setCell ⟨w.heap.size, 6, none⟩ (.int .i64 st)) = w4 at *
  have CF := Lib.hid (CD.out (w.heap.size) ⟨⟨i1, i2, i3, i4, i5, i6, st, S⟩, zq, zn, zd⟩ st w4 Y4.out rfl (HF.out _ T4.out).2)
  clear CD
  go_wp2_with fail
  refine CF.out.mono ?_
  rintro e w5 ⟨rfl, hy5, ht5⟩
  have Y5 : Hid (Lies w5 w.heap.size 27 #[.int .i64 i1, .int .i64 i2, .int .i64 i3, .int .i64 i4, .int .i64 gr, .int .i64 i6, .int .i64 st, .slice zq zn zd]) := Lib.hid hy5
  have Z5 := Lib.hid (Z4.out.turn ht5 (by omega))
  have T5 := Lib.hid (T4.out.trans ht5 (fun _ hi => .inl (.inl hi)))
  clear hy5 ht5 CF Y4 Z4 T4
  have y0 : w5.cell? ⟨w.heap.size, 0, none⟩ = some (.int .i64 i1) := Y5.out.cell 0
  have y1 : w5.cell? ⟨w.heap.size, 1, none⟩ = some (.int .i64 i2) := Y5.out.cell 1
  have y2 : w5.cell? ⟨w.heap.size, 2, none⟩ = some (.int .i64 i3) := Y5.out.cell 2
  have y3 : w5.cell? ⟨w.heap.size, 3, none⟩ = some (.int .i64 i4) := Y5.out.cell 3
  have y4 : w5.cell? ⟨w.heap.size, 4, none⟩ = some (.int .i64 gr) := Y5.out.cell 4
  have y5 : w5.cell? ⟨w.heap.size, 5, none⟩ = some (.int .i64 i6) := Y5.out.cell 5
  have y6 : w5.cell? ⟨w.heap.size, 6, none⟩ = some (.int .i64 st) := Y5.out.cell 6
  have y7 : w5.cell? ⟨w.heap.size, 7, none⟩ = some (.slice zq zn zd) := Y5.out.cell 7
  have r0 : w5.cell? ⟨w.heap.size + 1, 0, none⟩ = some (.int .i64 0) := Z5.out.cell 0
  have r1 : w5.cell? ⟨w.heap.size + 1, 1, none⟩ = some (.int .i64 0) := Z5.out.cell 1
  have r2 : w5.cell? ⟨w.heap.size + 1, 2, none⟩ = some (.int .i64 0) := Z5.out.cell 2
  have r3 : w5.cell? ⟨w.heap.size + 1, 3, none⟩ = some (.int .i64 0) := Z5.out.cell 3
  have r4 : w5.cell? ⟨w.heap.size + 1, 4, none⟩ = some (.int .i64 0) := Z5.out.cell 4
  have r5 : w5.cell? ⟨w.heap.size + 1, 5, none⟩ = some (.int .i64 0) := Z5.out.cell 5
  have r6 : w5.cell? ⟨w.heap.size + 1, 6, none⟩ = some (.int .i64 0) := Z5.out.cell 6
  have r7 : w5.cell? ⟨w.heap.size + 1, 7, none⟩ = some (.slice none 0 0) := Z5.out.cell 7
  have g0 : w5.frozen? ⟨w.heap.size + 1, 0, none⟩ = false := Z5.out.frozen 0
  have g1 : w5.frozen? ⟨w.heap.size + 1, 1, none⟩ = false := Z5.out.frozen 1
  have g2 : w5.frozen? ⟨w.heap.size + 1, 2, none⟩ = false := Z5.out.frozen 2
  have g3 : w5.frozen? ⟨w.heap.size + 1, 3, none⟩ = false := Z5.out.frozen 3
  have g4 : w5.frozen? ⟨w.heap.size + 1, 4, none⟩ = false := Z5.out.frozen 4
  have g5 : w5.frozen? ⟨w.heap.size + 1, 5, none⟩ = false := Z5.out.frozen 5
  have g6 : w5.frozen? ⟨w.heap.size + 1, 6, none⟩ = false := Z5.out.frozen 6
  have g7 : w5.frozen? ⟨w.heap.size + 1, 7, none⟩ = false := Z5.out.frozen 7
  clear Y5 Z5
  go_wp2
  refine bodyPost_ret (v := .tuple #[.agg #[.int .i64 0, .int .i64 0, .int .i64 0, .int .i64 0, .int .i64 0, .int .i64 0, .int .i64 0, .slice none 0 0], .int .i64 9]) (by simp [results, Tryd.results24, go_sem, r0, r1, r2, r3, r4, r5, r6, r7]) rfl ?_
  refine ⟨none, 0, rfl, told_none _ _ _ _ _ rfl, ?_⟩
  have key : ∀ W, Turn (fun k => k = w.heap.size ∨ k = w.heap.size + 1) w2 W → Below w.heap.size w W := fun W H => (HF.out W H).2
  refine key _ ?_
  iterate 8 refine Turn.setCell ?_ (by exact .inl (.inr rfl)) _
  exact T5.out
end Kp
end Go.Proofs.YtgmjmkkhoibbcaaDoor
