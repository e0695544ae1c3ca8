/- Walks over package keep: Release, Hold, Review, Reject. Condition: the table is as the program lays it. -/
import Derived.Test.YtgmjmkkhoibbcaaDoorKpC
namespace Go.Proofs.YtgmjmkkhoibbcaaDoor
open Go.RowKit Lo

namespace Kp
theorem beh_out {w W1 w4 : World} {z : Lv} {r : Nat} (hB : Below w.heap.size w W1) (hr : w.heap.size ≤ r) (hr1 : r < W1.heap.size) (ht : Told W1 w4 z) (hb : Below W1.heap.size W1 w4) (W' : World) (hT : Turn (fun k => k = r) w4 W') : Told w W' z ∧ Below w.heap.size w W' := by
  have h1 := hB.size
  have h2 := hB.trans (hb.mono h1)
  exact ⟨⟨ht.1.turn hT (fun k hk hh => by have := ht.2 k hk; omega), fun k hk => by have := ht.2 k hk; omega⟩, hT.below h2 h2.size (fun i hi => by omega)⟩
theorem drew_below (w : World) : Below w.heap.size w w.drew := ⟨rfl, rfl, rfl, Nat.le_refl _, fun _ _ => rfl⟩
theorem pbhold_any (y : Lv) (w : World) (hr : Su.Tabl w) (hs : St w y) (hn : y.n ≤ 1000000) : Calls Tryd.prog 24 #[lval y, .int .i64 1, wio] w (BehEnd w (holdL y).1 (holdL y).2) := by
  unfold holdL
  by_cases he : Su.err y.x.status 1 = 0
  · rw [if_neg (fun h => h he)]
    exact pbeho_ok y 1 w hr hs hn he
  · rw [if_pos he]
    exact pbeh_no y 1 wio w hr he
theorem pbrej_any (y : Lv) (w : World) (hr : Su.Tabl w) (hs : St w y) (hn : y.n ≤ 1000000) : Calls Tryd.prog 24 #[lval y, .int .i64 3, wio] w (BehEnd w (rejL y).1 (rejL y).2) := by
  unfold rejL
  by_cases he : Su.err y.x.status 3 = 0
  · rw [if_neg (fun h => h he)]
    exact pbeho_ok y 3 w hr hs hn he
  · rw [if_pos he]
    exact pbeh_no y 3 wio w hr he
theorem pbrel_any (p : Ms.Pd) (y : Lv) (x : Int) (a b : Nat) (w : World) (hr : Su.Tabl w) (hs : St w y) (hn : y.n ≤ 1000000) (ha : Pt w a p) (hb : Nt w b x) : Calls Tryd.prog 24 #[lval y, .int .i64 0, unl a b] w (BehEnd w (relL p y x).1 (relL p y x).2) := by
  unfold relL
  by_cases he : Su.err y.x.status 0 = 0
  · rw [if_neg (fun h => h he)]
    cases ho : overB p y.x x with
    | true => exact pbehu_err y 0 p x a b w hr hs hn ha hb he ho
    | false => exact pbehu_ok y 0 p x a b w hr hs hn ha hb he ho
  · rw [if_pos he]
    exact pbeh_no y 0 (unl a b) w hr he
/-- Behind the grant's own test. -/
def revM (p : Ms.Pd) (y : Lv) (e g : Int) : Lv × Int := if Su.err y.x.status 2 ≠ 0 then (lv0, Su.err y.x.status 2) else if overB p (grantL y g).x e = true then (lv0, 9) else (grantL y g, 0)
theorem pbrev_any (p : Ms.Pd) (y : Lv) (x g : Int) (a b c : Nat) (w : World) (hr : Su.Tabl w) (hs : St w y) (hn : y.n ≤ 1000000) (ha : Pt w a p) (hb : Nt w b x) (hc : Nt w c g) : Calls Tryd.prog 24 #[lval y, .int .i64 2, wig c a b] w (BehEnd w (revM p y x g).1 (revM p y x g).2) := by
  unfold revM
  by_cases he : Su.err y.x.status 2 = 0
  · rw [if_neg (fun h => h he)]
    cases ho : overB p (grantL y g).x x with
    | true => exact pbehg_err y 2 p x g a b c w hr hs hn ha hb hc he ho
    | false => exact pbehg_ok y 2 p x g a b c w hr hs hn ha hb hc he ho
  · rw [if_pos he]
    exact pbeh_no y 2 (wig c a b) w hr he
set_option maxRecDepth 100000 in
set_option maxHeartbeats 8000000 in
theorem phold_any (y : Lv) (w : World) (hr : Su.Tabl w) (hs : St w y) (hn : y.n ≤ 1000000) : Calls Tryd.prog 12 #[lval y] w (BehEnd w (holdL y).1 (holdL y).2) := by
  have CB := Lib.hid (fun W (hW : Below w.heap.size w W) => pbhold_any y W (hr.on hW) (hs.keep hW) hn)
  clear hr hs hn
  generalize (holdL y).2 = en at *
  generalize (holdL y).1 = Z at *
  obtain ⟨⟨z1, z2, z3, z4, z5, z6, z7, zS⟩, yq, zn, yd⟩ := Z
  obtain ⟨⟨i1, i2, i3, i4, i5, i6, i7, S⟩, q, n, d⟩ := y
  unfold BehEnd at *
  simp only [lval, re] at CB ⊢
  obtain ⟨w1, hw1, B1, Y1, Z1⟩ := boxes2 w #[.int .i64 i1, .int .i64 i2, .int .i64 i3, .int .i64 i4, .int .i64 i5, .int .i64 i6, .int .i64 i7, .slice q n d] #[.int .i64 0, .int .i64 0, .int .i64 0, .int .i64 0, .int .i64 0, .int .i64 0, .int .i64 0, .slice none 0 0] 27 27
  go_enter Tryd.func12, Tryd.ntmps12
  go_wp2_with fail
  clear hw1
  have y0 : w1.drew.cell? ⟨w.heap.size, 0, none⟩ = some (.int .i64 i1) := Y1.out.cell 0
  have y1 : w1.drew.cell? ⟨w.heap.size, 1, none⟩ = some (.int .i64 i2) := Y1.out.cell 1
  have y2 : w1.drew.cell? ⟨w.heap.size, 2, none⟩ = some (.int .i64 i3) := Y1.out.cell 2
  have y3 : w1.drew.cell? ⟨w.heap.size, 3, none⟩ = some (.int .i64 i4) := Y1.out.cell 3
  have y4 : w1.drew.cell? ⟨w.heap.size, 4, none⟩ = some (.int .i64 i5) := Y1.out.cell 4
  have y5 : w1.drew.cell? ⟨w.heap.size, 5, none⟩ = some (.int .i64 i6) := Y1.out.cell 5
  have y6 : w1.drew.cell? ⟨w.heap.size, 6, none⟩ = some (.int .i64 i7) := Y1.out.cell 6
  have y7 : w1.drew.cell? ⟨w.heap.size, 7, none⟩ = some (.slice q n d) := Y1.out.cell 7
  refine region_T 2 (fun w' => w'.cell? ⟨w.heap.size, 0, none⟩ = some (.int .i64 i1) ∧ w'.cell? ⟨w.heap.size, 1, none⟩ = some (.int .i64 i2) ∧ w'.cell? ⟨w.heap.size, 2, none⟩ = some (.int .i64 i3) ∧ w'.cell? ⟨w.heap.size, 3, none⟩ = some (.int .i64 i4) ∧ w'.cell? ⟨w.heap.size, 4, none⟩ = some (.int .i64 i5) ∧ w'.cell? ⟨w.heap.size, 5, none⟩ = some (.int .i64 i6) ∧ w'.cell? ⟨w.heap.size, 6, none⟩ = some (.int .i64 i7) ∧ w'.cell? ⟨w.heap.size, 7, none⟩ = some (.slice q n d)) (by kernel_rfl) ⟨y0, y1, y2, y3, y4, y5, y6, y7⟩ (fun hS => ?_)
  have hS0 := Lib.hid hS
  clear y0 y1 y2 y3 y4 y5 y6 y7
  refine takeL (i := 0) (v := ?_) rfl (by kernel_rfl) (by kernel_rfl) (by kernel_rfl) (by kernel_rfl) (by kernel_rfl) (fun _ _ _ h => h) (Or.inl ⟨by rfl, ?_⟩) (by assumption) ?_
  rotate_left
  · (intro w' hSw; (try dsimp only at hSw); go_simp; with_reducible rfl)
  try simp only [Act.put, List.setIfInBounds_toArray, List.set_cons_zero, List.set_cons_succ]
  refine oneL (i := 1) (by kernel_rfl) rfl (fun K hK => ?_)
  go_simp
  refine (pwio_any _).mono ?_
  rintro e w' ⟨rfl, rfl⟩
  refine hK.out _ _ (fun _ => hS0.out) ?_
  clear hK K
  try simp only [Act.put, List.setIfInBounds_toArray, List.set_cons_zero, List.set_cons_succ]
  refine laterT 2 _ _ _ _ (by kernel_rfl) ?_
  have B2 := Lib.hid (B1.out.trans ((drew_below w1).mono B1.out.size))
  refine oneL (i := 2) (by kernel_rfl) rfl (fun K hK => ?_)
  go_simp
  refine (CB.out w1.drew B2.out).mono ?_
  rintro e w4 ⟨zq, zd, rfl, ht, hb⟩
  have Z4 : Hid (Lies w4 (w.heap.size + 1) 27 #[.int .i64 0, .int .i64 0, .int .i64 0, .int .i64 0, .int .i64 0, .int .i64 0, .int .i64 0, .slice none 0 0]) := Lib.hid (Z1.out.like (hb.block _ Z1.out.lt))
  have HO := Lib.hid (beh_out (r := w.heap.size + 1) B2.out (Nat.le_succ _) Z1.out.lt ht hb)
  clear ht hb B1 Y1 Z1 CB hS hS0 B2
  refine hK.out _ _ (fun _ => absurd ‹_› (by decide)) ?_
  clear hK K
  try simp only [Act.put, List.setIfInBounds_toArray, List.set_cons_zero, List.set_cons_succ]
  refine laterT 5 _ _ _ _ (by kernel_rfl) ?_
  have hS : (fun _ : World => True) w4 := trivial
  refine takeL (i := 3) (v := ?_) rfl (by kernel_rfl) (by kernel_rfl) (by kernel_rfl) (by kernel_rfl) (by kernel_rfl) (fun _ _ _ h => h) (Or.inl ⟨by rfl, ?_⟩) (by assumption) ?_
  rotate_left
  · (intro w' hSw; (try dsimp only at hSw); go_simp; with_reducible rfl)
  try simp only [Act.put, List.setIfInBounds_toArray, List.set_cons_zero, List.set_cons_succ]
  refine takeL (i := 4) (v := ?_) rfl (by kernel_rfl) (by kernel_rfl) (by kernel_rfl) (by kernel_rfl) (by kernel_rfl) (fun _ _ _ h => h) (Or.inl ⟨by rfl, ?_⟩) (by assumption) ?_
  rotate_left
  · (intro w' hSw; (try dsimp only at hSw); go_simp; with_reducible rfl)
  try simp only [Act.put, List.setIfInBounds_toArray, List.set_cons_zero, List.set_cons_succ]
  have r0 : w4.cell? ⟨w.heap.size + 1, 0, none⟩ = some (.int .i64 0) := Z4.out.cell 0
  have r1 : w4.cell? ⟨w.heap.size + 1, 1, none⟩ = some (.int .i64 0) := Z4.out.cell 1
  have r2 : w4.cell? ⟨w.heap.size + 1, 2, none⟩ = some (.int .i64 0) := Z4.out.cell 2
  have r3 : w4.cell? ⟨w.heap.size + 1, 3, none⟩ = some (.int .i64 0) := Z4.out.cell 3
  have r4 : w4.cell? ⟨w.heap.size + 1, 4, none⟩ = some (.int .i64 0) := Z4.out.cell 4
  have r5 : w4.cell? ⟨w.heap.size + 1, 5, none⟩ = some (.int .i64 0) := Z4.out.cell 5
  have r6 : w4.cell? ⟨w.heap.size + 1, 6, none⟩ = some (.int .i64 0) := Z4.out.cell 6
  have r7 : w4.cell? ⟨w.heap.size + 1, 7, none⟩ = some (.slice none 0 0) := Z4.out.cell 7
  have g0 : w4.frozen? ⟨w.heap.size + 1, 0, none⟩ = false := Z4.out.frozen 0
  have g1 : w4.frozen? ⟨w.heap.size + 1, 1, none⟩ = false := Z4.out.frozen 1
  have g2 : w4.frozen? ⟨w.heap.size + 1, 2, none⟩ = false := Z4.out.frozen 2
  have g3 : w4.frozen? ⟨w.heap.size + 1, 3, none⟩ = false := Z4.out.frozen 3
  have g4 : w4.frozen? ⟨w.heap.size + 1, 4, none⟩ = false := Z4.out.frozen 4
  have g5 : w4.frozen? ⟨w.heap.size + 1, 5, none⟩ = false := Z4.out.frozen 5
  have g6 : w4.frozen? ⟨w.heap.size + 1, 6, none⟩ = false := Z4.out.frozen 6
  have g7 : w4.frozen? ⟨w.heap.size + 1, 7, none⟩ = false := Z4.out.frozen 7
  refine oneL (i := 5) (by kernel_rfl) rfl (fun K hK => ?_)
  go_simp
  refine hK.out _ _ (fun h => absurd h (by decide)) ?_
  clear hK K hS
  try simp only [Act.put, List.setIfInBounds_toArray, List.set_cons_zero, List.set_cons_succ]
  refine laterT 7 _ _ _ _ (by kernel_rfl) ?_
  have hS : (fun _ : World => True) w4 := trivial
  refine takeL (i := 6) (v := ?_) rfl (by kernel_rfl) (by kernel_rfl) (by kernel_rfl) (by kernel_rfl) (by kernel_rfl) (fun _ _ _ h => h) (Or.inl ⟨by rfl, ?_⟩) trivial ?_
  rotate_left
  · (intro w' hSw; (try dsimp only at hSw); go_simp; with_reducible rfl)
  try simp only [Act.put, List.setIfInBounds_toArray, List.set_cons_zero, List.set_cons_succ]
  refine doneO (by kernel_rfl) ?_ _
  clear hS
  go_wp2
  refine bodyPost_ret (v := .tuple #[.agg #[.int .i64 z1, .int .i64 z2, .int .i64 z3, .int .i64 z4, .int .i64 z5, .int .i64 z6, .int .i64 z7, .slice zq zn zd], .int .i64 en]) (by simp [results, Tryd.results12, go_sem, r0, r1, r2, r3, r4, r5, r6, r7]) rfl ?_
  refine ⟨zq, zd, rfl, HO.out _ ?_⟩
  iterate 8 refine Turn.setCell ?_ (by exact .inl rfl) _
  exact Turn.refl _ _
set_option maxRecDepth 100000 in
set_option maxHeartbeats 8000000 in
theorem prej_any (y : Lv) (w : World) (hr : Su.Tabl w) (hs : St w y) (hn : y.n ≤ 1000000) : Calls Tryd.prog 14 #[lval y] w (BehEnd w (rejL y).1 (rejL y).2) := by
  have CB := Lib.hid (fun W (hW : Below w.heap.size w W) => pbrej_any y W (hr.on hW) (hs.keep hW) hn)
  clear hr hs hn
  generalize (rejL y).2 = en at *
  generalize (rejL y).1 = Z at *
  obtain ⟨⟨z1, z2, z3, z4, z5, z6, z7, zS⟩, yq, zn, yd⟩ := Z
  obtain ⟨⟨i1, i2, i3, i4, i5, i6, i7, S⟩, q, n, d⟩ := y
  unfold BehEnd at *
  simp only [lval, re] at CB ⊢
  obtain ⟨w1, hw1, B1, Y1, Z1⟩ := boxes2 w #[.int .i64 i1, .int .i64 i2, .int .i64 i3, .int .i64 i4, .int .i64 i5, .int .i64 i6, .int .i64 i7, .slice q n d] #[.int .i64 0, .int .i64 0, .int .i64 0, .int .i64 0, .int .i64 0, .int .i64 0, .int .i64 0, .slice none 0 0] 27 27
  go_enter Tryd.func14, Tryd.ntmps14
  go_wp2_with fail
  clear hw1
  have y0 : w1.drew.cell? ⟨w.heap.size, 0, none⟩ = some (.int .i64 i1) := Y1.out.cell 0
  have y1 : w1.drew.cell? ⟨w.heap.size, 1, none⟩ = some (.int .i64 i2) := Y1.out.cell 1
  have y2 : w1.drew.cell? ⟨w.heap.size, 2, none⟩ = some (.int .i64 i3) := Y1.out.cell 2
  have y3 : w1.drew.cell? ⟨w.heap.size, 3, none⟩ = some (.int .i64 i4) := Y1.out.cell 3
  have y4 : w1.drew.cell? ⟨w.heap.size, 4, none⟩ = some (.int .i64 i5) := Y1.out.cell 4
  have y5 : w1.drew.cell? ⟨w.heap.size, 5, none⟩ = some (.int .i64 i6) := Y1.out.cell 5
  have y6 : w1.drew.cell? ⟨w.heap.size, 6, none⟩ = some (.int .i64 i7) := Y1.out.cell 6
  have y7 : w1.drew.cell? ⟨w.heap.size, 7, none⟩ = some (.slice q n d) := Y1.out.cell 7
  refine region_T 2 (fun w' => w'.cell? ⟨w.heap.size, 0, none⟩ = some (.int .i64 i1) ∧ w'.cell? ⟨w.heap.size, 1, none⟩ = some (.int .i64 i2) ∧ w'.cell? ⟨w.heap.size, 2, none⟩ = some (.int .i64 i3) ∧ w'.cell? ⟨w.heap.size, 3, none⟩ = some (.int .i64 i4) ∧ w'.cell? ⟨w.heap.size, 4, none⟩ = some (.int .i64 i5) ∧ w'.cell? ⟨w.heap.size, 5, none⟩ = some (.int .i64 i6) ∧ w'.cell? ⟨w.heap.size, 6, none⟩ = some (.int .i64 i7) ∧ w'.cell? ⟨w.heap.size, 7, none⟩ = some (.slice q n d)) (by kernel_rfl) ⟨y0, y1, y2, y3, y4, y5, y6, y7⟩ (fun hS => ?_)
  have hS0 := Lib.hid hS
  clear y0 y1 y2 y3 y4 y5 y6 y7
  refine takeL (i := 0) (v := ?_) rfl (by kernel_rfl) (by kernel_rfl) (by kernel_rfl) (by kernel_rfl) (by kernel_rfl) (fun _ _ _ h => h) (Or.inl ⟨by rfl, ?_⟩) (by assumption) ?_
  rotate_left
  · (intro w' hSw; (try dsimp only at hSw); go_simp; with_reducible rfl)
  try simp only [Act.put, List.setIfInBounds_toArray, List.set_cons_zero, List.set_cons_succ]
  refine oneL (i := 1) (by kernel_rfl) rfl (fun K hK => ?_)
  go_simp
  refine (pwio_any _).mono ?_
  rintro e w' ⟨rfl, rfl⟩
  refine hK.out _ _ (fun _ => hS0.out) ?_
  clear hK K
  try simp only [Act.put, List.setIfInBounds_toArray, List.set_cons_zero, List.set_cons_succ]
  refine laterT 2 _ _ _ _ (by kernel_rfl) ?_
  have B2 := Lib.hid (B1.out.trans ((drew_below w1).mono B1.out.size))
  refine oneL (i := 2) (by kernel_rfl) rfl (fun K hK => ?_)
  go_simp
  refine (CB.out w1.drew B2.out).mono ?_
  rintro e w4 ⟨zq, zd, rfl, ht, hb⟩
  have Z4 : Hid (Lies w4 (w.heap.size + 1) 27 #[.int .i64 0, .int .i64 0, .int .i64 0, .int .i64 0, .int .i64 0, .int .i64 0, .int .i64 0, .slice none 0 0]) := Lib.hid (Z1.out.like (hb.block _ Z1.out.lt))
  have HO := Lib.hid (beh_out (r := w.heap.size + 1) B2.out (Nat.le_succ _) Z1.out.lt ht hb)
  clear ht hb B1 Y1 Z1 CB hS hS0 B2
  refine hK.out _ _ (fun _ => absurd ‹_› (by decide)) ?_
  clear hK K
  try simp only [Act.put, List.setIfInBounds_toArray, List.set_cons_zero, List.set_cons_succ]
  refine laterT 5 _ _ _ _ (by kernel_rfl) ?_
  have hS : (fun _ : World => True) w4 := trivial
  refine takeL (i := 3) (v := ?_) rfl (by kernel_rfl) (by kernel_rfl) (by kernel_rfl) (by kernel_rfl) (by kernel_rfl) (fun _ _ _ h => h) (Or.inl ⟨by rfl, ?_⟩) (by assumption) ?_
  rotate_left
  · (intro w' hSw; (try dsimp only at hSw); go_simp; with_reducible rfl)
  try simp only [Act.put, List.setIfInBounds_toArray, List.set_cons_zero, List.set_cons_succ]
  refine takeL (i := 4) (v := ?_) rfl (by kernel_rfl) (by kernel_rfl) (by kernel_rfl) (by kernel_rfl) (by kernel_rfl) (fun _ _ _ h => h) (Or.inl ⟨by rfl, ?_⟩) (by assumption) ?_
  rotate_left
  · (intro w' hSw; (try dsimp only at hSw); go_simp; with_reducible rfl)
  try simp only [Act.put, List.setIfInBounds_toArray, List.set_cons_zero, List.set_cons_succ]
  have r0 : w4.cell? ⟨w.heap.size + 1, 0, none⟩ = some (.int .i64 0) := Z4.out.cell 0
  have r1 : w4.cell? ⟨w.heap.size + 1, 1, none⟩ = some (.int .i64 0) := Z4.out.cell 1
  have r2 : w4.cell? ⟨w.heap.size + 1, 2, none⟩ = some (.int .i64 0) := Z4.out.cell 2
  have r3 : w4.cell? ⟨w.heap.size + 1, 3, none⟩ = some (.int .i64 0) := Z4.out.cell 3
  have r4 : w4.cell? ⟨w.heap.size + 1, 4, none⟩ = some (.int .i64 0) := Z4.out.cell 4
  have r5 : w4.cell? ⟨w.heap.size + 1, 5, none⟩ = some (.int .i64 0) := Z4.out.cell 5
  have r6 : w4.cell? ⟨w.heap.size + 1, 6, none⟩ = some (.int .i64 0) := Z4.out.cell 6
  have r7 : w4.cell? ⟨w.heap.size + 1, 7, none⟩ = some (.slice none 0 0) := Z4.out.cell 7
  have g0 : w4.frozen? ⟨w.heap.size + 1, 0, none⟩ = false := Z4.out.frozen 0
  have g1 : w4.frozen? ⟨w.heap.size + 1, 1, none⟩ = false := Z4.out.frozen 1
  have g2 : w4.frozen? ⟨w.heap.size + 1, 2, none⟩ = false := Z4.out.frozen 2
  have g3 : w4.frozen? ⟨w.heap.size + 1, 3, none⟩ = false := Z4.out.frozen 3
  have g4 : w4.frozen? ⟨w.heap.size + 1, 4, none⟩ = false := Z4.out.frozen 4
  have g5 : w4.frozen? ⟨w.heap.size + 1, 5, none⟩ = false := Z4.out.frozen 5
  have g6 : w4.frozen? ⟨w.heap.size + 1, 6, none⟩ = false := Z4.out.frozen 6
  have g7 : w4.frozen? ⟨w.heap.size + 1, 7, none⟩ = false := Z4.out.frozen 7
  refine oneL (i := 5) (by kernel_rfl) rfl (fun K hK => ?_)
  go_simp
  refine hK.out _ _ (fun h => absurd h (by decide)) ?_
  clear hK K hS
  try simp only [Act.put, List.setIfInBounds_toArray, List.set_cons_zero, List.set_cons_succ]
  refine laterT 7 _ _ _ _ (by kernel_rfl) ?_
  have hS : (fun _ : World => True) w4 := trivial
  refine takeL (i := 6) (v := ?_) rfl (by kernel_rfl) (by kernel_rfl) (by kernel_rfl) (by kernel_rfl) (by kernel_rfl) (fun _ _ _ h => h) (Or.inl ⟨by rfl, ?_⟩) trivial ?_
  rotate_left
  · (intro w' hSw; (try dsimp only at hSw); go_simp; with_reducible rfl)
  try simp only [Act.put, List.setIfInBounds_toArray, List.set_cons_zero, List.set_cons_succ]
  refine doneO (by kernel_rfl) ?_ _
  clear hS
  go_wp2
  refine bodyPost_ret (v := .tuple #[.agg #[.int .i64 z1, .int .i64 z2, .int .i64 z3, .int .i64 z4, .int .i64 z5, .int .i64 z6, .int .i64 z7, .slice zq zn zd], .int .i64 en]) (by simp [results, Tryd.results14, go_sem, r0, r1, r2, r3, r4, r5, r6, r7]) rfl ?_
  refine ⟨zq, zd, rfl, HO.out _ ?_⟩
  iterate 8 refine Turn.setCell ?_ (by exact .inl rfl) _
  exact Turn.refl _ _
set_option maxRecDepth 100000 in
set_option maxHeartbeats 8000000 in
theorem prel_any (p : Ms.Pd) (y : Lv) (x : Int) (w : World) (hr : Su.Tabl w) (hs : St w y) (hn : y.n ≤ 1000000) : Calls Tryd.prog 8 #[Ms.pval p, lval y, .int .i64 x] w (BehEnd w (relL p y x).1 (relL p y x).2) := by
  have CB := Lib.hid (fun (a b : Nat) W (hW : Below w.heap.size w W) (h1 : Pt W a p) (h2 : Nt W b x) => pbrel_any p y x a b W (hr.on hW) (hs.keep hW) hn h1 h2)
  have CU := Lib.hid (fun W => punl_any p x W)
  clear hr hs hn
  generalize (relL p y x).2 = en at *
  generalize (relL p y x).1 = Z at *
  obtain ⟨⟨z1, z2, z3, z4, z5, z6, z7, zS⟩, yq, zn, yd⟩ := Z
  obtain ⟨ka, kb, kc⟩ := p
  obtain ⟨⟨i1, i2, i3, i4, i5, i6, i7, S⟩, q, n, d⟩ := y
  unfold BehEnd at *
  simp only [Ms.pval, lval, re] at CB CU ⊢
  obtain ⟨w1, hw1, B1, X1, Y1, Z1⟩ := boxes3 w #[.int .i64 ka, .int .i64 kb, .int .i64 kc] #[.int .i64 i1, .int .i64 i2, .int .i64 i3, .int .i64 i4, .int .i64 i5, .int .i64 i6, .int .i64 i7, .slice q n d] #[.int .i64 0, .int .i64 0, .int .i64 0, .int .i64 0, .int .i64 0, .int .i64 0, .int .i64 0, .slice none 0 0] 23 27 27
  go_enter Tryd.func8, Tryd.ntmps8
  go_wp2_with fail
  clear hw1
  have x0 : w1.drew.cell? ⟨w.heap.size, 0, none⟩ = some (.int .i64 ka) := X1.out.cell 0
  have x1 : w1.drew.cell? ⟨w.heap.size, 1, none⟩ = some (.int .i64 kb) := X1.out.cell 1
  have x2 : w1.drew.cell? ⟨w.heap.size, 2, none⟩ = some (.int .i64 kc) := X1.out.cell 2
  have y0 : w1.drew.cell? ⟨w.heap.size + 1, 0, none⟩ = some (.int .i64 i1) := Y1.out.cell 0
  have y1 : w1.drew.cell? ⟨w.heap.size + 1, 1, none⟩ = some (.int .i64 i2) := Y1.out.cell 1
  have y2 : w1.drew.cell? ⟨w.heap.size + 1, 2, none⟩ = some (.int .i64 i3) := Y1.out.cell 2
  have y3 : w1.drew.cell? ⟨w.heap.size + 1, 3, none⟩ = some (.int .i64 i4) := Y1.out.cell 3
  have y4 : w1.drew.cell? ⟨w.heap.size + 1, 4, none⟩ = some (.int .i64 i5) := Y1.out.cell 4
  have y5 : w1.drew.cell? ⟨w.heap.size + 1, 5, none⟩ = some (.int .i64 i6) := Y1.out.cell 5
  have y6 : w1.drew.cell? ⟨w.heap.size + 1, 6, none⟩ = some (.int .i64 i7) := Y1.out.cell 6
  have y7 : w1.drew.cell? ⟨w.heap.size + 1, 7, none⟩ = some (.slice q n d) := Y1.out.cell 7
  refine region_T 4 (fun w' => w'.cell? ⟨w.heap.size, 0, none⟩ = some (.int .i64 ka) ∧ w'.cell? ⟨w.heap.size, 1, none⟩ = some (.int .i64 kb) ∧ w'.cell? ⟨w.heap.size, 2, none⟩ = some (.int .i64 kc) ∧ w'.cell? ⟨w.heap.size + 1, 0, none⟩ = some (.int .i64 i1) ∧ w'.cell? ⟨w.heap.size + 1, 1, none⟩ = some (.int .i64 i2) ∧ w'.cell? ⟨w.heap.size + 1, 2, none⟩ = some (.int .i64 i3) ∧ w'.cell? ⟨w.heap.size + 1, 3, none⟩ = some (.int .i64 i4) ∧ w'.cell? ⟨w.heap.size + 1, 4, none⟩ = some (.int .i64 i5) ∧ w'.cell? ⟨w.heap.size + 1, 5, none⟩ = some (.int .i64 i6) ∧ w'.cell? ⟨w.heap.size + 1, 6, none⟩ = some (.int .i64 i7) ∧ w'.cell? ⟨w.heap.size + 1, 7, none⟩ = some (.slice q n d)) (by kernel_rfl) ⟨x0, x1, x2, y0, y1, y2, y3, y4, y5, y6, y7⟩ (fun hS => ?_)
  clear x0 x1 x2 y0 y1 y2 y3 y4 y5 y6 y7
  refine takeL (i := 0) (v := ?_) rfl (by kernel_rfl) (by kernel_rfl) (by kernel_rfl) (by kernel_rfl) (by kernel_rfl) (fun _ _ _ h => h) (Or.inl ⟨by rfl, ?_⟩) (by assumption) ?_
  rotate_left
  · (intro w' hSw; (try dsimp only at hSw); go_simp; with_reducible rfl)
  try simp only [Act.put, List.setIfInBounds_toArray, List.set_cons_zero, List.set_cons_succ]
  refine takeL (i := 1) (v := ?_) rfl (by kernel_rfl) (by kernel_rfl) (by kernel_rfl) (by kernel_rfl) (by kernel_rfl) (fun _ _ _ h => h) (Or.inl ⟨by rfl, ?_⟩) (by assumption) ?_
  rotate_left
  · (intro w' hSw; (try dsimp only at hSw); go_simp; with_reducible rfl)
  try simp only [Act.put, List.setIfInBounds_toArray, List.set_cons_zero, List.set_cons_succ]
  refine takeL (i := 2) (v := ?_) rfl (by kernel_rfl) (by kernel_rfl) (by kernel_rfl) (by kernel_rfl) (by kernel_rfl) (fun _ _ _ h => h) (Or.inl ⟨by rfl, ?_⟩) (by assumption) ?_
  rotate_left
  · (intro w' hSw; (try dsimp only at hSw); go_simp; with_reducible rfl)
  try simp only [Act.put, List.setIfInBounds_toArray, List.set_cons_zero, List.set_cons_succ]
  have B2 := Lib.hid (B1.out.trans ((drew_below w1).mono B1.out.size))
  refine oneL (i := 3) (by kernel_rfl) rfl (fun K hK => ?_)
  go_simp
  refine (CU.out w1.drew).mono ?_
  rintro e w3 ⟨rfl, hP, hN, hb⟩
  have B3 := Lib.hid (B2.out.trans (hb.mono B2.out.size))
  have Z3 : Hid (Lies w3 (w.heap.size + 2) 27 #[.int .i64 0, .int .i64 0, .int .i64 0, .int .i64 0, .int .i64 0, .int .i64 0, .int .i64 0, .slice none 0 0]) := Lib.hid (Z1.out.like (hb.block _ Z1.out.lt))
  have X3 := Lib.hid (X1.out.like (w' := w3) (hb.block _ X1.out.lt))
  have Y3 := Lib.hid (Y1.out.like (w' := w3) (hb.block _ Y1.out.lt))
  have CF := Lib.hid (CB.out _ _ w3 B3.out hP hN)
  clear hP hN hb CB CU B2 B1 X1 Y1 Z1 hS
  have x0 : w3.cell? ⟨w.heap.size, 0, none⟩ = some (.int .i64 ka) := X3.out.cell 0
  have x1 : w3.cell? ⟨w.heap.size, 1, none⟩ = some (.int .i64 kb) := X3.out.cell 1
  have x2 : w3.cell? ⟨w.heap.size, 2, none⟩ = some (.int .i64 kc) := X3.out.cell 2
  have y0 : w3.cell? ⟨w.heap.size + 1, 0, none⟩ = some (.int .i64 i1) := Y3.out.cell 0
  have y1 : w3.cell? ⟨w.heap.size + 1, 1, none⟩ = some (.int .i64 i2) := Y3.out.cell 1
  have y2 : w3.cell? ⟨w.heap.size + 1, 2, none⟩ = some (.int .i64 i3) := Y3.out.cell 2
  have y3 : w3.cell? ⟨w.heap.size + 1, 3, none⟩ = some (.int .i64 i4) := Y3.out.cell 3
  have y4 : w3.cell? ⟨w.heap.size + 1, 4, none⟩ = some (.int .i64 i5) := Y3.out.cell 4
  have y5 : w3.cell? ⟨w.heap.size + 1, 5, none⟩ = some (.int .i64 i6) := Y3.out.cell 5
  have y6 : w3.cell? ⟨w.heap.size + 1, 6, none⟩ = some (.int .i64 i7) := Y3.out.cell 6
  have y7 : w3.cell? ⟨w.heap.size + 1, 7, none⟩ = some (.slice q n d) := Y3.out.cell 7
  refine hK.out _ _ (fun _ => ⟨x0, x1, x2, y0, y1, y2, y3, y4, y5, y6, y7⟩) ?_
  clear hK K
  try simp only [Act.put, List.setIfInBounds_toArray, List.set_cons_zero, List.set_cons_succ]
  clear x0 x1 x2 y0 y1 y2 y3 y4 y5 y6 y7 X3 Y3
  refine laterT 4 _ _ _ _ (by kernel_rfl) ?_
  refine oneL (i := 4) (by kernel_rfl) rfl (fun K hK => ?_)
  go_simp
  refine CF.out.mono ?_
  rintro e w4 ⟨zq, zd, rfl, ht, hb⟩
  have Z4 : Hid (Lies w4 (w.heap.size + 2) 27 #[.int .i64 0, .int .i64 0, .int .i64 0, .int .i64 0, .int .i64 0, .int .i64 0, .int .i64 0, .slice none 0 0]) := Lib.hid (Z3.out.like (hb.block _ Z3.out.lt))
  have HO := Lib.hid (beh_out (r := w.heap.size + 2) B3.out (Nat.le_add_right _ _) Z3.out.lt ht hb)
  clear ht hb Z3 CF B3
  refine hK.out _ _ (fun _ => absurd ‹_› (by decide)) ?_
  clear hK K
  try simp only [Act.put, List.setIfInBounds_toArray, List.set_cons_zero, List.set_cons_succ]
  refine laterT 7 _ _ _ _ (by kernel_rfl) ?_
  have hS : (fun _ : World => True) w4 := trivial
  refine takeL (i := 5) (v := ?_) rfl (by kernel_rfl) (by kernel_rfl) (by kernel_rfl) (by kernel_rfl) (by kernel_rfl) (fun _ _ _ h => h) (Or.inl ⟨by rfl, ?_⟩) (by assumption) ?_
  rotate_left
  · (intro w' hSw; (try dsimp only at hSw); go_simp; with_reducible rfl)
  try simp only [Act.put, List.setIfInBounds_toArray, List.set_cons_zero, List.set_cons_succ]
  refine takeL (i := 6) (v := ?_) rfl (by kernel_rfl) (by kernel_rfl) (by kernel_rfl) (by kernel_rfl) (by kernel_rfl) (fun _ _ _ h => h) (Or.inl ⟨by rfl, ?_⟩) (by assumption) ?_
  rotate_left
  · (intro w' hSw; (try dsimp only at hSw); go_simp; with_reducible rfl)
  try simp only [Act.put, List.setIfInBounds_toArray, List.set_cons_zero, List.set_cons_succ]
  have r0 : w4.cell? ⟨w.heap.size + 2, 0, none⟩ = some (.int .i64 0) := Z4.out.cell 0
  have r1 : w4.cell? ⟨w.heap.size + 2, 1, none⟩ = some (.int .i64 0) := Z4.out.cell 1
  have r2 : w4.cell? ⟨w.heap.size + 2, 2, none⟩ = some (.int .i64 0) := Z4.out.cell 2
  have r3 : w4.cell? ⟨w.heap.size + 2, 3, none⟩ = some (.int .i64 0) := Z4.out.cell 3
  have r4 : w4.cell? ⟨w.heap.size + 2, 4, none⟩ = some (.int .i64 0) := Z4.out.cell 4
  have r5 : w4.cell? ⟨w.heap.size + 2, 5, none⟩ = some (.int .i64 0) := Z4.out.cell 5
  have r6 : w4.cell? ⟨w.heap.size + 2, 6, none⟩ = some (.int .i64 0) := Z4.out.cell 6
  have r7 : w4.cell? ⟨w.heap.size + 2, 7, none⟩ = some (.slice none 0 0) := Z4.out.cell 7
  have g0 : w4.frozen? ⟨w.heap.size + 2, 0, none⟩ = false := Z4.out.frozen 0
  have g1 : w4.frozen? ⟨w.heap.size + 2, 1, none⟩ = false := Z4.out.frozen 1
  have g2 : w4.frozen? ⟨w.heap.size + 2, 2, none⟩ = false := Z4.out.frozen 2
  have g3 : w4.frozen? ⟨w.heap.size + 2, 3, none⟩ = false := Z4.out.frozen 3
  have g4 : w4.frozen? ⟨w.heap.size + 2, 4, none⟩ = false := Z4.out.frozen 4
  have g5 : w4.frozen? ⟨w.heap.size + 2, 5, none⟩ = false := Z4.out.frozen 5
  have g6 : w4.frozen? ⟨w.heap.size + 2, 6, none⟩ = false := Z4.out.frozen 6
  have g7 : w4.frozen? ⟨w.heap.size + 2, 7, none⟩ = false := Z4.out.frozen 7
  refine oneL (i := 7) (by kernel_rfl) rfl (fun K hK => ?_)
  go_simp
  refine hK.out _ _ (fun h => absurd h (by decide)) ?_
  clear hK K hS
  try simp only [Act.put, List.setIfInBounds_toArray, List.set_cons_zero, List.set_cons_succ]
  refine laterT 9 _ _ _ _ (by kernel_rfl) ?_
  have hS : (fun _ : World => True) w4 := trivial
  refine takeL (i := 8) (v := ?_) rfl (by kernel_rfl) (by kernel_rfl) (by kernel_rfl) (by kernel_rfl) (by kernel_rfl) (fun _ _ _ h => h) (Or.inl ⟨by rfl, ?_⟩) trivial ?_
  rotate_left
  · (intro w' hSw; (try dsimp only at hSw); go_simp; with_reducible rfl)
  try simp only [Act.put, List.setIfInBounds_toArray, List.set_cons_zero, List.set_cons_succ]
  refine doneO (by kernel_rfl) ?_ _
  clear hS
  go_wp2
  refine bodyPost_ret (v := .tuple #[.agg #[.int .i64 z1, .int .i64 z2, .int .i64 z3, .int .i64 z4, .int .i64 z5, .int .i64 z6, .int .i64 z7, .slice zq zn zd], .int .i64 en]) (by simp [results, Tryd.results8, go_sem, r0, r1, r2, r3, r4, r5, r6, r7]) rfl ?_
  refine ⟨zq, zd, rfl, HO.out _ ?_⟩
  iterate 8 refine Turn.setCell ?_ (by exact .inl rfl) _
  exact Turn.refl _ _
set_option maxRecDepth 100000 in
set_option maxHeartbeats 8000000 in
theorem prevm_any (p : Ms.Pd) (y : Lv) (x g : Int) (w : World) (hr : Su.Tabl w) (hs : St w y) (hn : y.n ≤ 1000000) (hg : ¬(g < 0 ∨ 4611686018427387904 < g)) : Calls Tryd.prog 10 #[Ms.pval p, lval y, .int .i64 x, .int .i64 g] w (BehEnd w (revM p y x g).1 (revM p y x g).2) := by
  have d1 : decide (g < 0) = false := by simp; omega
  have d2 : decide (4611686018427387904 < g) = false := by simp; omega
  have CB := Lib.hid (fun (a b c : Nat) W (hW : Below w.heap.size w W) (h1 : Pt W a p) (h2 : Nt W b x) (h3 : Nt W c g) => pbrev_any p y x g a b c W (hr.on hW) (hs.keep hW) hn h1 h2 h3)
  have CU := Lib.hid (fun W => pwig_any p x g W)
  clear hr hs hn hg
  generalize (revM p y x g).2 = en at *
  generalize (revM p y x g).1 = Z at *
  obtain ⟨⟨z1, z2, z3, z4, z5, z6, z7, zS⟩, yq, zn, yd⟩ := Z
  obtain ⟨ka, kb, kc⟩ := p
  obtain ⟨⟨i1, i2, i3, i4, i5, i6, i7, S⟩, q, n, d⟩ := y
  unfold BehEnd at *
  simp only [Ms.pval, lval, re] at CB CU ⊢
  obtain ⟨w1, hw1, B1, X1, Y1, Z1⟩ := boxes3 w #[.int .i64 ka, .int .i64 kb, .int .i64 kc] #[.int .i64 i1, .int .i64 i2, .int .i64 i3, .int .i64 i4, .int .i64 i5, .int .i64 i6, .int .i64 i7, .slice q n d] #[.int .i64 0, .int .i64 0, .int .i64 0, .int .i64 0, .int .i64 0, .int .i64 0, .int .i64 0, .slice none 0 0] 23 27 27
  go_enter Tryd.func10, Tryd.ntmps10
  go_wp2_with fail
  clear hw1
  have x0 : w1.drew.cell? ⟨w.heap.size, 0, none⟩ = some (.int .i64 ka) := X1.out.cell 0
  have x1 : w1.drew.cell? ⟨w.heap.size, 1, none⟩ = some (.int .i64 kb) := X1.out.cell 1
  have x2 : w1.drew.cell? ⟨w.heap.size, 2, none⟩ = some (.int .i64 kc) := X1.out.cell 2
  have y0 : w1.drew.cell? ⟨w.heap.size + 1, 0, none⟩ = some (.int .i64 i1) := Y1.out.cell 0
  have y1 : w1.drew.cell? ⟨w.heap.size + 1, 1, none⟩ = some (.int .i64 i2) := Y1.out.cell 1
  have y2 : w1.drew.cell? ⟨w.heap.size + 1, 2, none⟩ = some (.int .i64 i3) := Y1.out.cell 2
  have y3 : w1.drew.cell? ⟨w.heap.size + 1, 3, none⟩ = some (.int .i64 i4) := Y1.out.cell 3
  have y4 : w1.drew.cell? ⟨w.heap.size + 1, 4, none⟩ = some (.int .i64 i5) := Y1.out.cell 4
  have y5 : w1.drew.cell? ⟨w.heap.size + 1, 5, none⟩ = some (.int .i64 i6) := Y1.out.cell 5
  have y6 : w1.drew.cell? ⟨w.heap.size + 1, 6, none⟩ = some (.int .i64 i7) := Y1.out.cell 6
  have y7 : w1.drew.cell? ⟨w.heap.size + 1, 7, none⟩ = some (.slice q n d) := Y1.out.cell 7
  refine region_T 5 (fun w' => w'.cell? ⟨w.heap.size, 0, none⟩ = some (.int .i64 ka) ∧ w'.cell? ⟨w.heap.size, 1, none⟩ = some (.int .i64 kb) ∧ w'.cell? ⟨w.heap.size, 2, none⟩ = some (.int .i64 kc) ∧ w'.cell? ⟨w.heap.size + 1, 0, none⟩ = some (.int .i64 i1) ∧ w'.cell? ⟨w.heap.size + 1, 1, none⟩ = some (.int .i64 i2) ∧ w'.cell? ⟨w.heap.size + 1, 2, none⟩ = some (.int .i64 i3) ∧ w'.cell? ⟨w.heap.size + 1, 3, none⟩ = some (.int .i64 i4) ∧ w'.cell? ⟨w.heap.size + 1, 4, none⟩ = some (.int .i64 i5) ∧ w'.cell? ⟨w.heap.size + 1, 5, none⟩ = some (.int .i64 i6) ∧ w'.cell? ⟨w.heap.size + 1, 6, none⟩ = some (.int .i64 i7) ∧ w'.cell? ⟨w.heap.size + 1, 7, none⟩ = some (.slice q n d)) (by kernel_rfl) ⟨x0, x1, x2, y0, y1, y2, y3, y4, y5, y6, y7⟩ (fun hS => ?_)
  clear x0 x1 x2 y0 y1 y2 y3 y4 y5 y6 y7
  refine takeL (i := 0) (v := ?_) rfl (by kernel_rfl) (by kernel_rfl) (by kernel_rfl) (by kernel_rfl) (by kernel_rfl) (fun _ _ _ h => h) (Or.inl ⟨by rfl, ?_⟩) (by assumption) ?_
  rotate_left
  · (intro w' hSw; (try dsimp only at hSw); go_simp; with_reducible rfl)
  try simp only [Act.put, List.setIfInBounds_toArray, List.set_cons_zero, List.set_cons_succ]
  refine takeL (i := 1) (v := ?_) rfl (by kernel_rfl) (by kernel_rfl) (by kernel_rfl) (by kernel_rfl) (by kernel_rfl) (fun _ _ _ h => h) (Or.inl ⟨by rfl, ?_⟩) (by assumption) ?_
  rotate_left
  · (intro w' hSw; (try dsimp only at hSw); go_simp; with_reducible rfl)
  try simp only [Act.put, List.setIfInBounds_toArray, List.set_cons_zero, List.set_cons_succ]
  refine takeL (i := 2) (v := ?_) rfl (by kernel_rfl) (by kernel_rfl) (by kernel_rfl) (by kernel_rfl) (by kernel_rfl) (fun _ _ _ h => h) (Or.inl ⟨by rfl, ?_⟩) (by assumption) ?_
  rotate_left
  · (intro w' hSw; (try dsimp only at hSw); go_simp; with_reducible rfl)
  try simp only [Act.put, List.setIfInBounds_toArray, List.set_cons_zero, List.set_cons_succ]
  refine takeL (i := 3) (v := ?_) rfl (by kernel_rfl) (by kernel_rfl) (by kernel_rfl) (by kernel_rfl) (by kernel_rfl) (fun _ _ _ h => h) (Or.inl ⟨by rfl, ?_⟩) (by assumption) ?_
  rotate_left
  · (intro w' hSw; (try dsimp only at hSw); go_simp; with_reducible rfl)
  try simp only [Act.put, List.setIfInBounds_toArray, List.set_cons_zero, List.set_cons_succ]
  have B2 := Lib.hid (B1.out.trans ((drew_below w1).mono B1.out.size))
  refine oneL (i := 4) (by kernel_rfl) rfl (fun K hK => ?_)
  go_simp
  refine (CU.out w1.drew).mono ?_
  rintro e w3 ⟨rfl, hP, hN, hG, hb⟩
  have B3 := Lib.hid (B2.out.trans (hb.mono B2.out.size))
  have Z3 : Hid (Lies w3 (w.heap.size + 2) 27 #[.int .i64 0, .int .i64 0, .int .i64 0, .int .i64 0, .int .i64 0, .int .i64 0, .int .i64 0, .slice none 0 0]) := Lib.hid (Z1.out.like (hb.block _ Z1.out.lt))
  have X3 := Lib.hid (X1.out.like (w' := w3) (hb.block _ X1.out.lt))
  have Y3 := Lib.hid (Y1.out.like (w' := w3) (hb.block _ Y1.out.lt))
  have CF := Lib.hid (CB.out _ _ _ w3 B3.out hP hN hG)
  clear hP hN hG hb CB CU B2 B1 X1 Y1 Z1 hS
  have x0 : w3.cell? ⟨w.heap.size, 0, none⟩ = some (.int .i64 ka) := X3.out.cell 0
  have x1 : w3.cell? ⟨w.heap.size, 1, none⟩ = some (.int .i64 kb) := X3.out.cell 1
  have x2 : w3.cell? ⟨w.heap.size, 2, none⟩ = some (.int .i64 kc) := X3.out.cell 2
  have y0 : w3.cell? ⟨w.heap.size + 1, 0, none⟩ = some (.int .i64 i1) := Y3.out.cell 0
  have y1 : w3.cell? ⟨w.heap.size + 1, 1, none⟩ = some (.int .i64 i2) := Y3.out.cell 1
  have y2 : w3.cell? ⟨w.heap.size + 1, 2, none⟩ = some (.int .i64 i3) := Y3.out.cell 2
  have y3 : w3.cell? ⟨w.heap.size + 1, 3, none⟩ = some (.int .i64 i4) := Y3.out.cell 3
  have y4 : w3.cell? ⟨w.heap.size + 1, 4, none⟩ = some (.int .i64 i5) := Y3.out.cell 4
  have y5 : w3.cell? ⟨w.heap.size + 1, 5, none⟩ = some (.int .i64 i6) := Y3.out.cell 5
  have y6 : w3.cell? ⟨w.heap.size + 1, 6, none⟩ = some (.int .i64 i7) := Y3.out.cell 6
  have y7 : w3.cell? ⟨w.heap.size + 1, 7, none⟩ = some (.slice q n d) := Y3.out.cell 7
  refine hK.out _ _ (fun _ => ⟨x0, x1, x2, y0, y1, y2, y3, y4, y5, y6, y7⟩) ?_
  clear hK K
  try simp only [Act.put, List.setIfInBounds_toArray, List.set_cons_zero, List.set_cons_succ]
  clear x0 x1 x2 y0 y1 y2 y3 y4 y5 y6 y7 X3 Y3
  refine laterT 5 _ _ _ _ (by kernel_rfl) ?_
  refine oneL (i := 5) (by kernel_rfl) rfl (fun K hK => ?_)
  go_simp
  refine CF.out.mono ?_
  rintro e w4 ⟨zq, zd, rfl, ht, hb⟩
  have Z4 : Hid (Lies w4 (w.heap.size + 2) 27 #[.int .i64 0, .int .i64 0, .int .i64 0, .int .i64 0, .int .i64 0, .int .i64 0, .int .i64 0, .slice none 0 0]) := Lib.hid (Z3.out.like (hb.block _ Z3.out.lt))
  have HO := Lib.hid (beh_out (r := w.heap.size + 2) B3.out (Nat.le_add_right _ _) Z3.out.lt ht hb)
  clear ht hb Z3 CF B3
  refine hK.out _ _ (fun _ => absurd ‹_› (by decide)) ?_
  clear hK K
  try simp only [Act.put, List.setIfInBounds_toArray, List.set_cons_zero, List.set_cons_succ]
  refine laterT 8 _ _ _ _ (by kernel_rfl) ?_
  have hS : (fun _ : World => True) w4 := trivial
  refine takeL (i := 6) (v := ?_) rfl (by kernel_rfl) (by kernel_rfl) (by kernel_rfl) (by kernel_rfl) (by kernel_rfl) (fun _ _ _ h => h) (Or.inl ⟨by rfl, ?_⟩) (by assumption) ?_
  rotate_left
  · (intro w' hSw; (try dsimp only at hSw); go_simp; with_reducible rfl)
  try simp only [Act.put, List.setIfInBounds_toArray, List.set_cons_zero, List.set_cons_succ]
  refine takeL (i := 7) (v := ?_) rfl (by kernel_rfl) (by kernel_rfl) (by kernel_rfl) (by kernel_rfl) (by kernel_rfl) (fun _ _ _ h => h) (Or.inl ⟨by rfl, ?_⟩) (by assumption) ?_
  rotate_left
  · (intro w' hSw; (try dsimp only at hSw); go_simp; with_reducible rfl)
  try simp only [Act.put, List.setIfInBounds_toArray, List.set_cons_zero, List.set_cons_succ]
  have r0 : w4.cell? ⟨w.heap.size + 2, 0, none⟩ = some (.int .i64 0) := Z4.out.cell 0
  have r1 : w4.cell? ⟨w.heap.size + 2, 1, none⟩ = some (.int .i64 0) := Z4.out.cell 1
  have r2 : w4.cell? ⟨w.heap.size + 2, 2, none⟩ = some (.int .i64 0) := Z4.out.cell 2
  have r3 : w4.cell? ⟨w.heap.size + 2, 3, none⟩ = some (.int .i64 0) := Z4.out.cell 3
  have r4 : w4.cell? ⟨w.heap.size + 2, 4, none⟩ = some (.int .i64 0) := Z4.out.cell 4
  have r5 : w4.cell? ⟨w.heap.size + 2, 5, none⟩ = some (.int .i64 0) := Z4.out.cell 5
  have r6 : w4.cell? ⟨w.heap.size + 2, 6, none⟩ = some (.int .i64 0) := Z4.out.cell 6
  have r7 : w4.cell? ⟨w.heap.size + 2, 7, none⟩ = some (.slice none 0 0) := Z4.out.cell 7
  have g0 : w4.frozen? ⟨w.heap.size + 2, 0, none⟩ = false := Z4.out.frozen 0
  have g1 : w4.frozen? ⟨w.heap.size + 2, 1, none⟩ = false := Z4.out.frozen 1
  have g2 : w4.frozen? ⟨w.heap.size + 2, 2, none⟩ = false := Z4.out.frozen 2
  have g3 : w4.frozen? ⟨w.heap.size + 2, 3, none⟩ = false := Z4.out.frozen 3
  have g4 : w4.frozen? ⟨w.heap.size + 2, 4, none⟩ = false := Z4.out.frozen 4
  have g5 : w4.frozen? ⟨w.heap.size + 2, 5, none⟩ = false := Z4.out.frozen 5
  have g6 : w4.frozen? ⟨w.heap.size + 2, 6, none⟩ = false := Z4.out.frozen 6
  have g7 : w4.frozen? ⟨w.heap.size + 2, 7, none⟩ = false := Z4.out.frozen 7
  refine oneL (i := 8) (by kernel_rfl) rfl (fun K hK => ?_)
  go_simp
  refine hK.out _ _ (fun h => absurd h (by decide)) ?_
  clear hK K hS
  try simp only [Act.put, List.setIfInBounds_toArray, List.set_cons_zero, List.set_cons_succ]
  refine laterT 10 _ _ _ _ (by kernel_rfl) ?_
  have hS : (fun _ : World => True) w4 := trivial
  refine takeL (i := 9) (v := ?_) rfl (by kernel_rfl) (by kernel_rfl) (by kernel_rfl) (by kernel_rfl) (by kernel_rfl) (fun _ _ _ h => h) (Or.inl ⟨by rfl, ?_⟩) trivial ?_
  rotate_left
  · (intro w' hSw; (try dsimp only at hSw); go_simp; with_reducible rfl)
  try simp only [Act.put, List.setIfInBounds_toArray, List.set_cons_zero, List.set_cons_succ]
  refine doneO (by kernel_rfl) ?_ _
  clear hS
  go_wp2
  refine bodyPost_ret (v := .tuple #[.agg #[.int .i64 z1, .int .i64 z2, .int .i64 z3, .int .i64 z4, .int .i64 z5, .int .i64 z6, .int .i64 z7, .slice zq zn zd], .int .i64 en]) (by simp [results, Tryd.results10, go_sem, r0, r1, r2, r3, r4, r5, r6, r7]) rfl ?_
  refine ⟨zq, zd, rfl, HO.out _ ?_⟩
  iterate 8 refine Turn.setCell ?_ (by exact .inl rfl) _
  exact Turn.refl _ _
set_option maxRecDepth 100000 in
set_option maxHeartbeats 8000000 in
theorem prev_any (p : Ms.Pd) (y : Lv) (x g : Int) (w : World) (hr : Su.Tabl w) (hs : St w y) (hn : y.n ≤ 1000000) : Calls Tryd.prog 10 #[Ms.pval p, lval y, .int .i64 x, .int .i64 g] w (BehEnd w (revL p y x g).1 (revL p y x g).2) := by
  by_cases hg : g < 0 ∨ 4611686018427387904 < g
  case neg =>
    have h1 : revL p y x g = revM p y x g := by unfold revL revM; rw [if_neg hg]
    rw [h1]
    exact prevm_any p y x g w hr hs hn hg
  unfold revL
  rw [if_pos hg]
  clear hr hs hn
  obtain ⟨ka, kb, kc⟩ := p
  obtain ⟨⟨i1, i2, i3, i4, i5, i6, i7, S⟩, q, n, d⟩ := y
  unfold BehEnd
  simp only [Ms.pval, lval]
  obtain ⟨w1, hw1, B1, X1, Y1, Z1⟩ := boxes3 w #[.int .i64 ka, .int .i64 kb, .int .i64 kc] #[.int .i64 i1, .int .i64 i2, .int .i64 i3, .int .i64 i4, .int .i64 i5, .int .i64 i6, .int .i64 i7, .slice q n d] #[.int .i64 0, .int .i64 0, .int .i64 0, .int .i64 0, .int .i64 0, .int .i64 0, .int .i64 0, .slice none 0 0] 23 27 27
  have r0 : w1.cell? ⟨w.heap.size + 2, 0, none⟩ = some (.int .i64 0) := Z1.out.cell 0
  have r1 : w1.cell? ⟨w.heap.size + 2, 1, none⟩ = some (.int .i64 0) := Z1.out.cell 1
  have r2 : w1.cell? ⟨w.heap.size + 2, 2, none⟩ = some (.int .i64 0) := Z1.out.cell 2
  have r3 : w1.cell? ⟨w.heap.size + 2, 3, none⟩ = some (.int .i64 0) := Z1.out.cell 3
  have r4 : w1.cell? ⟨w.heap.size + 2, 4, none⟩ = some (.int .i64 0) := Z1.out.cell 4
  have r5 : w1.cell? ⟨w.heap.size + 2, 5, none⟩ = some (.int .i64 0) := Z1.out.cell 5
  have r6 : w1.cell? ⟨w.heap.size + 2, 6, none⟩ = some (.int .i64 0) := Z1.out.cell 6
  have r7 : w1.cell? ⟨w.heap.size + 2, 7, none⟩ = some (.slice none 0 0) := Z1.out.cell 7
  have g0 : w1.frozen? ⟨w.heap.size + 2, 0, none⟩ = false := Z1.out.frozen 0
  have g1 : w1.frozen? ⟨w.heap.size + 2, 1, none⟩ = false := Z1.out.frozen 1
  have g2 : w1.frozen? ⟨w.heap.size + 2, 2, none⟩ = false := Z1.out.frozen 2
  have g3 : w1.frozen? ⟨w.heap.size + 2, 3, none⟩ = false := Z1.out.frozen 3
  have g4 : w1.frozen? ⟨w.heap.size + 2, 4, none⟩ = false := Z1.out.frozen 4
  have g5 : w1.frozen? ⟨w.heap.size + 2, 5, none⟩ = false := Z1.out.frozen 5
  have g6 : w1.frozen? ⟨w.heap.size + 2, 6, none⟩ = false := Z1.out.frozen 6
  have g7 : w1.frozen? ⟨w.heap.size + 2, 7, none⟩ = false := Z1.out.frozen 7
  clear X1 Y1
  by_cases h1 : g < 0
  all_goals
    have h2 : decide (4611686018427387904 < g) = true ∨ g < 0 := by
      rcases hg with h | h
      · exact .inr h
      · exact .inl (decide_eq_true h)
    try (have h3 : decide (4611686018427387904 < g) = true := h2.resolve_right h1)
    try (have h4 : decide (g < 0) = false := decide_eq_false h1)
    try (have h4 : decide (g < 0) = true := decide_eq_true h1)
    clear h1 h2 hg
    go_enter Tryd.func10, Tryd.ntmps10
    go_wp2
    refine bodyPost_ret (v := .tuple #[.agg #[.int .i64 0, .int .i64 0, .int .i64 0, .int .i64 0, .int .i64 0, .int .i64 0, .int .i64 0, .slice none 0 0], .int .i64 1]) (by simp [results, Tryd.results10, go_sem, r0, r1, r2, r3, r4, r5, r6, r7]) rfl ⟨none, 0, rfl, told_none _ _ _ _ _ rfl, ?_⟩
    iterate 8 refine Below.setCell ?_ (by simp only; omega) _
    exact B1.out
end Kp
end Go.Proofs.YtgmjmkkhoibbcaaDoor
