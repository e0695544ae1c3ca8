/- Walks over package keep: the allowance; what is over; what may be; a lot with stays of its own. No condition but those written. -/
import Derived.Test.YtgmjmkkhoibbcaaDoorKp1
import Derived.Test.YtgmjmkkhoibbcaaDoorSt2
import Derived.Test.YtgmjmkkhoibbcaaDoorSyP4
namespace Go.Proofs.YtgmjmkkhoibbcaaDoor
open Go.RowKit Lo

namespace Kp
/-- A sum of a list of two that the call has laid itself. -/
theorem addTwo (x y : Int) (w : World) :
    Calls Tryd.prog 31 #[.slice (some ⟨w.heap.size, 0, none⟩) 2 2] (w.alloc (.cells #[.int .i64 x, .int .i64 y] 3)) fun e w' => e = .returned (.int .i64 (St.St.cap (St.St.fit x + St.St.fit y))) ∧ Below w.heap.size w w' :=
  (St.add_any w.heap.size 0 2 2 [x, y] _ (by simp) (by omega) (fun j hj => by
    match j, hj with
    | 0, _ => simp
    | 1, _ => simp)).mono fun e w' ⟨he, hw⟩ => by
      subst he; subst hw
      refine ⟨St.ret_int ?_, (Below.refl _ _).alloc (Nat.le_refl _) _⟩
      simp [St.St.sum]
set_option maxRecDepth 100000 in
set_option maxHeartbeats 8000000 in
theorem pallow_any (p : Ms.Pd) (y : Lv) (w : World) : Calls Tryd.prog 17 #[Ms.pval p, lval y] w fun e w' => e = .returned (.int .i64 (allow p y.x)) ∧ Below w.heap.size w w' := by
  obtain ⟨a, b, c⟩ := p
  obtain ⟨⟨i1, i2, i3, i4, i5, i6, i7, S⟩, q, n, d⟩ := y
  unfold allow
  simp only [Ms.pval, lval]
  have CT := Lib.hid (fun W => addTwo c i5 W)
  generalize St.St.cap (St.St.fit c + St.St.fit i5) = r at *
  obtain ⟨w1, hw1, B1, X1, Y1⟩ := boxes2 w #[.int .i64 a, .int .i64 b, .int .i64 c] #[.int .i64 i1, .int .i64 i2, .int .i64 i3, .int .i64 i4, .int .i64 i5, .int .i64 i6, .int .i64 i7, .slice q n d] 23 27
  have x2 : w1.cell? ⟨w.heap.size, 2, none⟩ = some (.int .i64 c) := X1.out.cell 2
  have y4 : w1.cell? ⟨w.heap.size + 1, 4, none⟩ = some (.int .i64 i5) := Y1.out.cell 4
  clear X1 Y1
  go_enter Tryd.func17, Tryd.ntmps17
  go_wp2_with fail
  refine (CT.out _).mono ?_
  rintro e w2 ⟨rfl, hb⟩
  have B2 := Lib.hid (B1.out.trans (hb.mono B1.out.size))
  clear hw1 hb x2 y4 CT
  go_wp2
  go_ret
  exact ⟨rfl, B2.out⟩
set_option maxRecDepth 100000 in
set_option maxHeartbeats 8000000 in
theorem pover_any (p : Ms.Pd) (y : Lv) (x : Int) (w : World) : Calls Tryd.prog 21 #[Ms.pval p, lval y, .int .i64 x] w fun e w' => e = .returned (.bool (overB p y.x x)) ∧ Below w.heap.size w w' := by
  have CA := Lib.hid (fun W => pallow_any p y W)
  obtain ⟨a, b, c⟩ := p
  obtain ⟨⟨i1, i2, i3, i4, i5, i6, i7, S⟩, q, n, d⟩ := y
  unfold overB
  generalize allow ⟨a, b, c⟩ ⟨i1, i2, i3, i4, i5, i6, i7, S⟩ = r at *
  simp only [Ms.pval, lval] at CA ⊢
  obtain ⟨w1, hw1, B1, X1, Y1⟩ := boxes2 w #[.int .i64 a, .int .i64 b, .int .i64 c] #[.int .i64 i1, .int .i64 i2, .int .i64 i3, .int .i64 i4, .int .i64 i5, .int .i64 i6, .int .i64 i7, .slice q n d] 23 27
  have x0 : w1.cell? ⟨w.heap.size, 0, none⟩ = some (.int .i64 a) := X1.out.cell 0
  have x1 : w1.cell? ⟨w.heap.size, 1, none⟩ = some (.int .i64 b) := X1.out.cell 1
  have x2 : w1.cell? ⟨w.heap.size, 2, none⟩ = some (.int .i64 c) := X1.out.cell 2
  have y0 : w1.cell? ⟨w.heap.size + 1, 0, none⟩ = some (.int .i64 i1) := Y1.out.cell 0
  have y1 : w1.cell? ⟨w.heap.size + 1, 1, none⟩ = some (.int .i64 i2) := Y1.out.cell 1
  have y2 : w1.cell? ⟨w.heap.size + 1, 2, none⟩ = some (.int .i64 i3) := Y1.out.cell 2
  have y3 : w1.cell? ⟨w.heap.size + 1, 3, none⟩ = some (.int .i64 i4) := Y1.out.cell 3
  have y4 : w1.cell? ⟨w.heap.size + 1, 4, none⟩ = some (.int .i64 i5) := Y1.out.cell 4
  have y5 : w1.cell? ⟨w.heap.size + 1, 5, none⟩ = some (.int .i64 i6) := Y1.out.cell 5
  have y6 : w1.cell? ⟨w.heap.size + 1, 6, none⟩ = some (.int .i64 i7) := Y1.out.cell 6
  have y7 : w1.cell? ⟨w.heap.size + 1, 7, none⟩ = some (.slice q n d) := Y1.out.cell 7
  clear X1 Y1
  go_enter Tryd.func21, Tryd.ntmps21
  go_wp2_with fail
  refine (CA.out _).mono ?_
  rintro e w2 ⟨rfl, hb⟩
  have B2 := Lib.hid (B1.out.trans (hb.mono B1.out.size))
  clear hw1 hb x0 x1 x2 y0 y1 y2 y3 y4 y5 y6 y7 CA
  go_wp2
  go_ret
  exact ⟨rfl, B2.out⟩
set_option maxRecDepth 100000 in
set_option maxHeartbeats 8000000 in
theorem pmay_any (p : Ms.Pd) (y : Lv) (x now : Int) (w : World) : Calls Tryd.prog 19 #[Ms.pval p, lval y, .int .i64 x, .int .i64 now] w fun e w' => e = .returned (.int .i64 (mayL p y.x x now)) ∧ Below w.heap.size w w' := by
  have CO := Lib.hid (fun W => pover_any p y x W)
  have HJ : mayL p y.x x now = if y.x.status ≠ 1 then 8 else if y.x.expiry ≤ now then 10 else if overB p y.x x = true then 9 else 0 := rfl
  rw [HJ]
  generalize overB p y.x x = o at *
  clear HJ
  obtain ⟨a, b, c⟩ := p
  obtain ⟨⟨i1, i2, i3, i4, i5, i6, i7, S⟩, q, n, d⟩ := y
  simp only [Ms.pval, lval] at CO ⊢
  obtain ⟨w1, hw1, B1, X1, Y1⟩ := boxes2 w #[.int .i64 a, .int .i64 b, .int .i64 c] #[.int .i64 i1, .int .i64 i2, .int .i64 i3, .int .i64 i4, .int .i64 i5, .int .i64 i6, .int .i64 i7, .slice q n d] 23 27
  have x0 : w1.cell? ⟨w.heap.size, 0, none⟩ = some (.int .i64 a) := X1.out.cell 0
  have x1 : w1.cell? ⟨w.heap.size, 1, none⟩ = some (.int .i64 b) := X1.out.cell 1
  have x2 : w1.cell? ⟨w.heap.size, 2, none⟩ = some (.int .i64 c) := X1.out.cell 2
  have y0 : w1.cell? ⟨w.heap.size + 1, 0, none⟩ = some (.int .i64 i1) := Y1.out.cell 0
  have y1 : w1.cell? ⟨w.heap.size + 1, 1, none⟩ = some (.int .i64 i2) := Y1.out.cell 1
  have y2 : w1.cell? ⟨w.heap.size + 1, 2, none⟩ = some (.int .i64 i3) := Y1.out.cell 2
  have y3 : w1.cell? ⟨w.heap.size + 1, 3, none⟩ = some (.int .i64 i4) := Y1.out.cell 3
  have y4 : w1.cell? ⟨w.heap.size + 1, 4, none⟩ = some (.int .i64 i5) := Y1.out.cell 4
  have y5 : w1.cell? ⟨w.heap.size + 1, 5, none⟩ = some (.int .i64 i6) := Y1.out.cell 5
  have y6 : w1.cell? ⟨w.heap.size + 1, 6, none⟩ = some (.int .i64 i7) := Y1.out.cell 6
  have y7 : w1.cell? ⟨w.heap.size + 1, 7, none⟩ = some (.slice q n d) := Y1.out.cell 7
  clear X1 Y1
  by_cases hs : i7 = 1
  · have hs1 : (i7 != 1) = false := by simp [hs]
    rw [if_neg (by simp [hs])]
    clear hs
    by_cases he : i4 ≤ now
    · rw [if_pos he]
      go_enter Tryd.func19, Tryd.ntmps19
      go_wp2
      go_ret
      exact ⟨rfl, B1.out⟩
    · rw [if_neg he]
      cases o with
      | true =>
        go_enter Tryd.func19, Tryd.ntmps19
        go_wp2_with fail
        refine (CO.out _).mono ?_
        rintro e w2 ⟨rfl, hb⟩
        have B2 := Lib.hid (B1.out.trans (hb.mono B1.out.size))
        clear hw1 hb x0 x1 x2 y0 y1 y2 y3 y4 y5 y6 y7 CO
        go_wp2
        go_ret
        exact ⟨rfl, B2.out⟩
      | false =>
        go_enter Tryd.func19, Tryd.ntmps19
        go_wp2_with fail
        refine (CO.out _).mono ?_
        rintro e w2 ⟨rfl, hb⟩
        have B2 := Lib.hid (B1.out.trans (hb.mono B1.out.size))
        clear hw1 hb x0 x1 x2 y0 y1 y2 y3 y4 y5 y6 y7 CO
        go_wp2
        go_ret
        exact ⟨rfl, B2.out⟩
  · have hs1 : (i7 != 1) = true := by simp [hs]
    rw [if_pos hs]
    clear hs
    go_enter Tryd.func19, Tryd.ntmps19
    go_wp2
    go_ret
    exact ⟨rfl, B1.out⟩
/-- A lot that is handed out: its stays lie in new memory. -/
def OwnEnd (x : Lt) (w : World) (e : Ending) (w' : World) : Prop := ∃ y : Lv, y.x = x ∧ e = .returned (lval y) ∧ St w' y ∧ (∀ k, Bk y k → w.heap.size ≤ k) ∧ Below w.heap.size w w'
set_option maxRecDepth 100000 in
set_option maxHeartbeats 4000000 in
theorem papart_any (y : Lv) (w : World) (h : St w y) (hn : y.n ≤ 1000000) : Calls Tryd.prog 22 #[lval y] w (OwnEnd y.x w) := by
  have hl := h.len
  have CK := Lib.hid (fun W (hW : Below w.heap.size w W) => Sy.clone_any y.p y.n y.c y.x.stays W (h.keep hW).1 (by omega))
  obtain ⟨⟨i1, i2, i3, i4, i5, i6, i7, S⟩, p, n, c⟩ := y
  simp only at hl hn CK
  unfold lval
  have B1 := Lib.hid (alloc_below w (.cells #[.int .i64 i1, .int .i64 i2, .int .i64 i3, .int .i64 i4, .int .i64 i5, .int .i64 i6, .int .i64 i7, .slice p n c] 27))
  have X1 := Lib.hid (Lies.new w 27 #[.int .i64 i1, .int .i64 i2, .int .i64 i3, .int .i64 i4, .int .i64 i5, .int .i64 i6, .int .i64 i7, .slice p n c])
  have s1 : (w.alloc (.cells #[.int .i64 i1, .int .i64 i2, .int .i64 i3, .int .i64 i4, .int .i64 i5, .int .i64 i6, .int .i64 i7, .slice p n c] 27)).heap.size = w.heap.size + 1 := by simp
  obtain ⟨w1, hw1⟩ : ∃ w1, w.alloc (.cells #[.int .i64 i1, .int .i64 i2, .int .i64 i3, .int .i64 i4, .int .i64 i5, .int .i64 i6, .int .i64 i7, .slice p n c] 27) = w1 := ⟨_, rfl⟩
  rw [hw1] at B1 X1 s1
  have B2 := Lib.hid (B1.out.alloc B1.out.size (.cells #[.int .i64 0, .int .i64 0, .int .i64 0, .int .i64 0, .int .i64 0, .int .i64 0, .int .i64 0, .slice none 0 0] 27))
  have X2 := Lib.hid (X1.out.alloc (.cells #[.int .i64 0, .int .i64 0, .int .i64 0, .int .i64 0, .int .i64 0, .int .i64 0, .int .i64 0, .slice none 0 0] 27))
  have Y2 := Lib.hid (Lies.new w1 27 #[.int .i64 0, .int .i64 0, .int .i64 0, .int .i64 0, .int .i64 0, .int .i64 0, .int .i64 0, .slice none 0 0])
  have s2 : (w1.alloc (.cells #[.int .i64 0, .int .i64 0, .int .i64 0, .int .i64 0, .int .i64 0, .int .i64 0, .int .i64 0, .slice none 0 0] 27)).heap.size = w1.heap.size + 1 := by simp
  obtain ⟨w2, hw2⟩ : ∃ w2, w1.alloc (.cells #[.int .i64 0, .int .i64 0, .int .i64 0, .int .i64 0, .int .i64 0, .int .i64 0, .int .i64 0, .slice none 0 0] 27) = w2 := ⟨_, rfl⟩
  rw [hw2] at B2 X2 Y2 s2
  have HS := Lib.hid (And.intro s1 s2)
  clear s1 s2 h
  have x7 : w2.cell? ⟨w.heap.size, 7, none⟩ = some (.slice p n c) := X2.out.cell 7
  go_enter Tryd.func22, Tryd.ntmps22
  go_wp2_with fail
  refine (CK.out _ B2.out).mono ?_
  intro e w3 he
  obtain ⟨v, rfl, ho, hb⟩ := he
  have X3 := Lib.hid (X2.out.below hb X2.out.lt)
  have Y3 := Lib.hid (Y2.out.below hb Y2.out.lt)
  have B3 := Lib.hid (B2.out.trans (hb.mono B2.out.size))
  obtain ⟨q, d, rfl⟩ := own_slice ho
  have O3 := Lib.hid ho
  have HX := Lib.hid X2.out.lt
  generalize hbz : w1.heap.size = bz at *
  clear hw1 hw2 x7 ho hb CK X2 Y2 B2 X1 B1
  have x0 : w3.cell? ⟨w.heap.size, 0, none⟩ = some (.int .i64 i1) := X3.out.cell 0
  have x1 : w3.cell? ⟨w.heap.size, 1, none⟩ = some (.int .i64 i2) := X3.out.cell 1
  have x2 : w3.cell? ⟨w.heap.size, 2, none⟩ = some (.int .i64 i3) := X3.out.cell 2
  have x3 : w3.cell? ⟨w.heap.size, 3, none⟩ = some (.int .i64 i4) := X3.out.cell 3
  have x4 : w3.cell? ⟨w.heap.size, 4, none⟩ = some (.int .i64 i5) := X3.out.cell 4
  have x5 : w3.cell? ⟨w.heap.size, 5, none⟩ = some (.int .i64 i6) := X3.out.cell 5
  have x6 : w3.cell? ⟨w.heap.size, 6, none⟩ = some (.int .i64 i7) := X3.out.cell 6
  have x7 : w3.cell? ⟨w.heap.size, 7, none⟩ = some (.slice p n c) := X3.out.cell 7
  have f7 : w3.frozen? ⟨w.heap.size, 7, none⟩ = false := X3.out.frozen 7
  have y0 : w3.cell? ⟨bz, 0, none⟩ = some (.int .i64 0) := Y3.out.cell 0
  have yf0 : w3.frozen? ⟨bz, 0, none⟩ = false := Y3.out.frozen 0
  have y1 : w3.cell? ⟨bz, 1, none⟩ = some (.int .i64 0) := Y3.out.cell 1
  have yf1 : w3.frozen? ⟨bz, 1, none⟩ = false := Y3.out.frozen 1
  have y2 : w3.cell? ⟨bz, 2, none⟩ = some (.int .i64 0) := Y3.out.cell 2
  have yf2 : w3.frozen? ⟨bz, 2, none⟩ = false := Y3.out.frozen 2
  have y3 : w3.cell? ⟨bz, 3, none⟩ = some (.int .i64 0) := Y3.out.cell 3
  have yf3 : w3.frozen? ⟨bz, 3, none⟩ = false := Y3.out.frozen 3
  have y4 : w3.cell? ⟨bz, 4, none⟩ = some (.int .i64 0) := Y3.out.cell 4
  have yf4 : w3.frozen? ⟨bz, 4, none⟩ = false := Y3.out.frozen 4
  have y5 : w3.cell? ⟨bz, 5, none⟩ = some (.int .i64 0) := Y3.out.cell 5
  have yf5 : w3.frozen? ⟨bz, 5, none⟩ = false := Y3.out.frozen 5
  have y6 : w3.cell? ⟨bz, 6, none⟩ = some (.int .i64 0) := Y3.out.cell 6
  have yf6 : w3.frozen? ⟨bz, 6, none⟩ = false := Y3.out.frozen 6
  have y7 : w3.cell? ⟨bz, 7, none⟩ = some (.slice none 0 0) := Y3.out.cell 7
  have yf7 : w3.frozen? ⟨bz, 7, none⟩ = false := Y3.out.frozen 7
  have hne : bz ≠ w.heap.size := by have := HS.out; omega
  have hne2 : w.heap.size ≠ bz := by omega
  have TT := Lib.hid (show Turn (fun k => k = w.heap.size ∨ k = bz) w3 w3 from Turn.refl _ _)
  have HF := Lib.hid (show ∀ W, Turn (fun k => k = w.heap.size ∨ k = bz) w3 W → St W ⟨⟨i1, i2, i3, i4, i5, i6, i7, S⟩, q, S.length, d⟩ ∧ (∀ k, Bk ⟨⟨i1, i2, i3, i4, i5, i6, i7, S⟩, q, S.length, d⟩ k → w.heap.size ≤ k) ∧ Below w.heap.size w W from fun W hW => by
    obtain ⟨q', d', e, hc, hr⟩ := rw_own Sy.scells_len O3.out
    injection e with e1 e2 e3
    subst e1 e3
    have hbk : ∀ k, Bk ⟨⟨i1, i2, i3, i4, i5, i6, i7, S⟩, q, S.length, d⟩ k → w2.heap.size ≤ k := fun k hk => by
      obtain ⟨h0, a, ha, rfl⟩ := hk
      obtain ⟨b, cc, e, h1, _, _⟩ := own_some O3.out h0
      injection e with e _ _
      simp only at ha
      rw [ha] at e
      injection e with e
      rw [e]
      exact h1
    have h1 := HS.out
    refine ⟨St.turn ⟨hr, hc⟩ hW (fun k hk hh => ?_), fun k hk => ?_, hW.below B3.out B3.out.size (fun i hi => ?_)⟩
    · have := hbk k hk
      omega
    · have := hbk k hk
      omega
    · omega)
  clear X3 Y3 O3 HS B3 HX
  go_wp2
  refine bodyPost_ret (v := lval ⟨⟨i1, i2, i3, i4, i5, i6, i7, S⟩, q, S.length, d⟩) (by simp [results, Tryd.results22, go_sem, lval, hl, y0, y1, y2, y3, y4, y5, y6, y7]) rfl ?_
  refine ⟨⟨⟨i1, i2, i3, i4, i5, i6, i7, S⟩, q, S.length, d⟩, rfl, rfl, HF.out _ ?_⟩
  iterate 9 refine Turn.setCell ?_ (by first | exact .inl (.inl rfl) | exact .inl (.inr rfl)) _
  exact TT.out
end Kp
end Go.Proofs.YtgmjmkkhoibbcaaDoor
