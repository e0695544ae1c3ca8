/- Walks over package excess: an index that is new, its series, what a reading makes stale. Conditions: an index whose parts reckon what they say. -/
import Derived.Test.YtfmnbmjfkplieaaExP4
import Derived.Test.YtfmnbmjfkplieaaRng
namespace Go.Proofs.Ytfmnbmjfkplieaa
open Go.RowKit Se

namespace Ex
def IXF (w : World) (B h : Nat) (F : Nat → Prop) (wo ga li : Int) (S : List Rd) : Prop := ∃ h0 F0 v P kn, Idx w B h h0 F0 v P kn wo ga li S ∧ F = Own3 h F0 v
set_option maxRecDepth 100000 in
set_option maxHeartbeats 2000000 in
theorem xnew_yes (wo ga li : Int) (w : World) (hm : mayB wo ga = true) (hl : tenB li = true) : Calls Try.prog 8 #[.int .i64 wo, .int .i64 ga, .int .i64 li] w fun e w' =>
    ∃ h F, e = .returned (.tuple #[.pointer (some ⟨h, 0, none⟩), .int .i64 0]) ∧ IXF w' w.heap.size h F wo ga li [] ∧ Below w.heap.size w w' := by
  have N := Lib.hid (face.new_yes wo ga w hm)
  have T := Lib.hid (fun W => xten_any li W)
  rw [hl] at T
  clear hm hl
  go_enter Try.func8, Try.ntmps8
  go_wp2_with fail
  refine N.out.mono ?_
  rintro e w1 ⟨h0, F0, rfl, hp, hb⟩
  have P1 := Lib.hid hp
  have B1 := Lib.hid hb
  clear hp hb N
  go_wp2_with fail
  refine (T.out _).mono ?_
  rintro e w2 ⟨rfl, rfl⟩
  go_wp2
  go_ret2
  have hb2 : Below w1.heap.size w1 (w1.alloc (.cells #[.pointer (some ⟨h0, 0, none⟩), .int .i64 li, .slice none 0 0, .int .i64 0] 56)) := alloc_below _ _
  exact ⟨w1.heap.size, Own3 w1.heap.size F0 (.slice none 0 0), rfl, ⟨h0, F0, .slice none 0 0, [], 0, ⟨B1.out.size, Lies.new _ _ _, face.keep P1.out hb2, World.ownsRow_nil _ _ _ _, fun hf => by have := (face.foot P1.out hf).2; omega, (fun k hk => by cases hk), rec_nil _⟩, rfl⟩, B1.out.trans (hb2.mono B1.out.size)⟩
theorem xnew_no (wo ga li : Int) (w : World) (hm : (mayB wo ga && tenB li) = false) : Calls Try.prog 8 #[.int .i64 wo, .int .i64 ga, .int .i64 li] w fun e w' =>
    e = .returned (.tuple #[.pointer none, .int .i64 1]) ∧ Below w.heap.size w w' := by
  cases h1 : mayB wo ga with
  | false =>
    have N := Lib.hid (face.new_no wo ga w h1)
    clear h1 hm
    go_enter Try.func8, Try.ntmps8
    go_wp2_with fail
    refine N.out.mono ?_
    rintro e w1 ⟨rfl, hb⟩
    have B1 := Lib.hid hb
    clear hb N
    go_wp2
    go_ret2
    exact ⟨rfl, B1.out⟩
  | true =>
    rw [h1, Bool.true_and] at hm
    have N := Lib.hid (face.new_yes wo ga w h1)
    have T := Lib.hid (fun W => xten_any li W)
    rw [hm] at T
    clear h1 hm
    go_enter Try.func8, Try.ntmps8
    go_wp2_with fail
    refine N.out.mono ?_
    rintro e w1 ⟨h0, F0, rfl, _, hb⟩
    have B1 := Lib.hid hb
    clear hb N
    go_wp2_with fail
    refine (T.out _).mono ?_
    rintro e w2 ⟨rfl, rfl⟩
    go_wp2
    go_ret2
    exact ⟨rfl, B1.out⟩
theorem xser_any (B h h0 : Nat) (F0 : Nat → Prop) (v : Value) (P : List Pt) (kn wo ga li : Int) (S : List Rd) (w : World) (hp : Idx w B h h0 F0 v P kn wo ga li S) (hs : Sorted S) (hr : ∀ x ∈ S, rightB x = true) (hm : mayB wo ga = true) (hL : S.length ≤ 1000) :
    Calls Try.prog 14 #[.pointer (some ⟨h, 0, none⟩)] w fun e w' => ∃ h' F', e = .returned (.pointer (some ⟨h', 0, none⟩)) ∧ PSF w' w.heap.size h' F' wo ga S ∧ Below w.heap.size w w' := by
  have T := Lib.hid (face.twin B h0 F0 wo ga S w hp.ser hs hr hm hL)
  have c0 : w.cell? ⟨h, 0, none⟩ = some (.pointer (some ⟨h0, 0, none⟩)) := hp.box.cell 0
  clear hp hs hr hm hL
  go_enter Try.func14, Try.ntmps14
  go_wp2_with fail
  refine T.out.mono ?_
  rintro e w1 ⟨h', F', rfl, hq, hb⟩
  have Q1 := Lib.hid hq
  have B1 := Lib.hid hb
  clear hq hb T
  go_wp2
  go_ret
  exact ⟨h', F', rfl, Q1.out, B1.out⟩
theorem nil_put (r : Rd) (w : World) : Calls Try.prog 10 #[.pointer none, rval r] w fun e w' => e = .returned (.tuple #[.bool false, .int .i64 1]) ∧ Below w.heap.size w w' := by
  have B0 := Lib.hid (alloc_below w (.cells #[.int .i64 r.min, .int .i64 r.seq, .int .i64 r.ten] 37))
  obtain ⟨m, s, t⟩ := r
  unfold rval
  simp only at B0 ⊢
  go_enter Try.func10, Try.ntmps10
  go_wp2
  go_ret2
  exact ⟨rfl, B0.out⟩
theorem nil_sum (a b : Int) (w : World) : Calls Try.prog 12 #[.pointer none, .int .i64 a, .int .i64 b] w fun e w' => e = .returned (.int .i64 0) ∧ Below w.heap.size w w' := by
  go_enter Try.func12, Try.ntmps12
  go_wp2
  go_ret
  exact ⟨rfl, Below.refl _ _⟩
theorem nil_ser (w : World) : Calls Try.prog 14 #[.pointer none] w fun e w' => e = .returned (.pointer none) ∧ Below w.heap.size w w' := by
  go_enter Try.func14, Try.ntmps14
  go_wp2
  go_ret
  exact ⟨rfl, Below.refl _ _⟩
/-- The first parts of a row. -/
theorem row_take {w : World} {B : Nat} {t : TypeId} {q : Option Addr} {d : Nat} {P : List Pt} (h : w.ownsRow B t 3 (.slice q P.length d) P.length (P.flatMap pcells)) {k : Nat} (hk : k ≤ P.length) : w.ownsRow B t 3 (.slice q k d) (P.take k).length ((P.take k).flatMap pcells) := by
  have hl : (P.take k).length = k := by
    rw [List.length_take]
    omega
  rw [hl]
  refine ⟨by rw [flat_len pcells_len, hl], ?_⟩
  rcases h.2 with ⟨e, h0⟩ | ⟨g, cap, cur, e, hb, hh, hc, hm, hs, ht⟩
  · have : k = 0 := by omega
    subst this
    injection e with e1 _ e3
    subst e1 e3
    exact .inl ⟨rfl, rfl⟩
  · cases e
    refine .inr ⟨g, d, cur, rfl, hb, hh, by omega, hm, hs, ?_⟩
    have e1 : (P.take k).flatMap pcells = (P.flatMap pcells).take (k * 3) := by
      have h1 : P.flatMap pcells = (P.take k).flatMap pcells ++ (P.drop k).flatMap pcells := by rw [← List.flatMap_append, List.take_append_drop]
      rw [h1, List.take_left' (by rw [flat_len pcells_len, hl])]
    rw [e1, ← ht, List.take_take, Nat.min_eq_left (by omega)]
/-- What a reading makes stale. -/
def Gone (w : World) (B h h0 : Nat) (F0 : Nat → Prop) (v : Value) (wo ga li : Int) (S : List Rd) (w' : World) : Prop :=
  ∃ v' P' kn', Idx w' B h h0 F0 v' P' kn' wo ga li S ∧ Turn (fun k => k = h) w w' ∧ ∀ k, v'.ownBlock = some k → v.ownBlock = some k
/-- An index whose series has turned: all but what its parts reckon. -/
structure Stale (w : World) (B h h0 : Nat) (F0 : Nat → Prop) (v : Value) (P : List Pt) (kn wo ga li : Int) (S S' : List Rd) : Prop where
  low : B ≤ h
  box : Lies w h 56 #[.pointer (some ⟨h0, 0, none⟩), .int .i64 li, v, .int .i64 kn]
  ser : PSF w B h0 F0 wo ga S'
  row : w.ownsRow B 76 3 v P.length (P.flatMap pcells)
  out : ¬ F0 h
  far : ∀ k, v.ownBlock = some k → k ≠ h ∧ ¬ F0 k
  rk : Rec (exm wo ga li S) P kn
theorem ahead_row (B h : Nat) (a li kn : Value) (v : Value) (P : List Pt) (f : Int → Int) (k0 m : Int) (w : World) (hb : Lies w h 56 #[a, li, v, kn]) (hr : w.ownsRow B 76 3 v P.length (P.flatMap pcells)) (hk : Rec f P k0) :
    Calls Try.prog 44 #[.pointer (some ⟨h, 0, none⟩), .int .i64 m] w (Ahead P m w) := by
  obtain ⟨q, d, rfl, hd, hA⟩ := rw_own pcells_len hr
  have c2 : w.cell? ⟨h, 2, none⟩ = some (.slice q P.length d) := hb.cell 2
  have hl := rec_len hk
  have C := Lib.hid (search_any q P.length d P m w hA hk.rise (by omega) hd)
  clear hb hr hk hA
  go_enter Try.func44, Try.ntmps44
  go_wp2_with fail
  refine C.out.mono ?_
  rintro e w1 ⟨k, b, rfl, ha, hb⟩
  have A1 := Lib.hid ha
  have B1 := Lib.hid hb
  clear ha hb C
  go_wp2
  go_ret
  exact ⟨k, rfl, A1.out, B1.out⟩
set_option maxRecDepth 100000 in
set_option maxHeartbeats 4000000 in
/-- The index's series has turned at and behind minute m alone. -/
theorem forget_any (B h h0 : Nat) (F0 : Nat → Prop) (v : Value) (P : List Pt) (kn wo ga li : Int) (S S' : List Rd) (m : Int) (w : World)
    (hp : Stale w B h h0 F0 v P kn wo ga li S S') (hS : ∀ t, t < m → exm wo ga li S' t = exm wo ga li S t) (h0m : 0 ≤ m) (h1m : m ≤ 1048576) :
    Calls Try.prog 23 #[.pointer (some ⟨h, 0, none⟩), .int .i64 m] w fun e w' => (∃ u, e = .returned u) ∧ Gone w B h h0 F0 v wo ga li S' w' := by
  obtain ⟨q, d, rfl, hd, hA⟩ := rw_own pcells_len hp.row
  have hl := rec_len hp.rk
  have hbx : Lies w.drew h 56 #[.pointer (some ⟨h0, 0, none⟩), .int .i64 li, .slice q P.length d, .int .i64 kn] := hp.box
  have hrw : w.drew.ownsRow B 76 3 (.slice q P.length d) P.length (P.flatMap pcells) := hp.row
  have A := Lib.hid (ahead_row B h _ _ _ (.slice q P.length d) P _ kn m w.drew hbx hrw hp.rk)
  have HP := Lib.hid hp
  have HX := Lib.hid hbx
  clear hbx hrw
  have c2 : w.drew.cell? ⟨h, 2, none⟩ = some (.slice q P.length d) := hp.box.cell 2
  have c3 : w.drew.cell? ⟨h, 3, none⟩ = some (.int .i64 kn) := hp.box.cell 3
  have HL := Lib.hid hp.box.lt
  have hl' : (P.length : Int) ≤ 1048576 := by omega
  have hd' : (P.length : Int) ≤ (d : Int) := by omega
  clear hp hA
  have FI := Lib.hid (fun w1 k (ha : Ahd P m k) (hb : Below w.drew.heap.size w.drew w1) => show Gone w B h h0 F0 (.slice q P.length d) wo ga li S' ((w1.setCell ⟨h, 2, none⟩ (.slice q k d)).setCell ⟨h, 3, none⟩ (.int .i64 (min kn m))) by
    have hp := HP.out
    have hb' : Below w.heap.size w w1 := ((Below.refl _ w).drew).trans hb
    have T0 : Turn (fun k => k = h) w ((w1.setCell ⟨h, 2, none⟩ (.slice q k d)).setCell ⟨h, 3, none⟩ (.int .i64 (min kn m))) := ((Turn.of_below (S := fun k => k = h) hb').setCell (p := ⟨h, 2, none⟩) (.inl rfl) _).setCell (p := ⟨h, 3, none⟩) (.inl rfl) _
    refine ⟨.slice q k d, P.take k, min kn m, ⟨hp.low, ?_, face.turn hp.ser T0 (fun j hj e => hp.out (e ▸ hj)), ?_, hp.out, fun j hj => hp.far j ?_, rec_cut hp.rk ha h0m h1m hS⟩, T0, fun j hj => ?_⟩
    · have := ((hp.box.below hb' hp.box.lt).set_ 2 (.slice q k d)).set_ 3 (.int .i64 (min kn m))
      simpa using this
    · exact own_turn (row_take hp.row ha.1) T0 (fun j hj e => by
        subst e
        refine (hp.far j ?_).1 rfl
        cases q with
        | none => cases hj
        | some a => exact hj)
    · cases q with
      | none => cases hj
      | some a => exact hj
    · cases q with
      | none => cases hj
      | some a => exact hj)
  clear hS hd hl
  go_enter Try.func23, Try.ntmps23
  go_wp2_with fail
  refine region_T 21 (fun w' => w'.cell? ⟨h, 3, none⟩ = some (.int .i64 kn)) (by kernel_rfl) c3 (fun hS => ?_)
  refine takeL (i := 0) (v := ?_) rfl (by kernel_rfl) (by kernel_rfl) (by kernel_rfl) (by kernel_rfl) (by kernel_rfl) (fun _ _ _ h => h) (Or.inl ⟨by rfl, ?_⟩) (by assumption) ?_
  rotate_left
  · (intro w' hSw; (try dsimp only at hSw); go_simp; with_reducible rfl)
  try simp only [Act.put, List.setIfInBounds_toArray, List.set_cons_zero, List.set_cons_succ]
  refine takeL (i := 1) (v := ?_) rfl (by kernel_rfl) (by kernel_rfl) (by kernel_rfl) (by kernel_rfl) (by kernel_rfl) (fun _ _ _ h => h) (Or.inl ⟨by rfl, ?_⟩) (by assumption) ?_
  rotate_left
  · (intro w' hSw; (try dsimp only at hSw); go_simp; with_reducible rfl)
  try simp only [Act.put, List.setIfInBounds_toArray, List.set_cons_zero, List.set_cons_succ]
  refine takeL (i := 2) (v := ?_) rfl (by kernel_rfl) (by kernel_rfl) (by kernel_rfl) (by kernel_rfl) (by kernel_rfl) (fun _ _ _ h => h) (Or.inl ⟨by rfl, ?_⟩) (by assumption) ?_
  rotate_left
  · (intro w' hSw; (try dsimp only at hSw); go_simp; with_reducible rfl)
  try simp only [Act.put, List.setIfInBounds_toArray, List.set_cons_zero, List.set_cons_succ]
  refine takeL (i := 3) (v := ?_) rfl (by kernel_rfl) (by kernel_rfl) (by kernel_rfl) (by kernel_rfl) (by kernel_rfl) (fun _ _ _ h => h) (Or.inl ⟨by rfl, ?_⟩) (by assumption) ?_
  rotate_left
  · (intro w' hSw; (try dsimp only at hSw); go_simp; with_reducible rfl)
  try simp only [Act.put, List.setIfInBounds_toArray, List.set_cons_zero, List.set_cons_succ]
  refine takeL (i := 4) (v := ?_) rfl (by kernel_rfl) (by kernel_rfl) (by kernel_rfl) (by kernel_rfl) (by kernel_rfl) (fun _ _ _ h => h) (Or.inl ⟨by rfl, ?_⟩) (by assumption) ?_
  rotate_left
  · (intro w' hSw; (try dsimp only at hSw); go_simp; with_reducible rfl)
  try simp only [Act.put, List.setIfInBounds_toArray, List.set_cons_zero, List.set_cons_succ]
  refine takeL (i := 6) (v := ?_) rfl (by kernel_rfl) (by kernel_rfl) (by kernel_rfl) (by kernel_rfl) (by kernel_rfl) (fun _ _ _ h => h) (Or.inl ⟨by rfl, ?_⟩) (by assumption) ?_
  rotate_left
  · (intro w' hSw; (try dsimp only at hSw); go_simp; with_reducible rfl)
  try simp only [Act.put, List.setIfInBounds_toArray, List.set_cons_zero, List.set_cons_succ]
  refine takeL (i := 7) (v := ?_) rfl (by kernel_rfl) (by kernel_rfl) (by kernel_rfl) (by kernel_rfl) (by kernel_rfl) (fun _ _ _ h => h) (Or.inl ⟨by rfl, ?_⟩) (by assumption) ?_
  rotate_left
  · (intro w' hSw; (try dsimp only at hSw); go_simp; with_reducible rfl)
  try simp only [Act.put, List.setIfInBounds_toArray, List.set_cons_zero, List.set_cons_succ]
  refine takeL (i := 10) (v := ?_) rfl (by kernel_rfl) (by kernel_rfl) (by kernel_rfl) (by kernel_rfl) (by kernel_rfl) (fun _ _ _ h => h) (Or.inl ⟨by rfl, ?_⟩) (by assumption) ?_
  rotate_left
  · (intro w' hSw; (try dsimp only at hSw); go_simp; with_reducible rfl)
  try simp only [Act.put, List.setIfInBounds_toArray, List.set_cons_zero, List.set_cons_succ]
  refine takeL (i := 11) (v := ?_) rfl (by kernel_rfl) (by kernel_rfl) (by kernel_rfl) (by kernel_rfl) (by kernel_rfl) (fun _ _ _ h => h) (Or.inl ⟨by rfl, ?_⟩) (by assumption) ?_
  rotate_left
  · (intro w' hSw; (try dsimp only at hSw); go_simp; with_reducible rfl)
  try simp only [Act.put, List.setIfInBounds_toArray, List.set_cons_zero, List.set_cons_succ]
  refine takeL (i := 12) (v := ?_) rfl (by kernel_rfl) (by kernel_rfl) (by kernel_rfl) (by kernel_rfl) (by kernel_rfl) (fun _ _ _ h => h) (Or.inl ⟨by rfl, ?_⟩) (by assumption) ?_
  rotate_left
  · (intro w' hSw; (try dsimp only at hSw); go_simp; with_reducible rfl)
  try simp only [Act.put, List.setIfInBounds_toArray, List.set_cons_zero, List.set_cons_succ]
  refine takeL (i := 13) (v := ?_) rfl (by kernel_rfl) (by kernel_rfl) (by kernel_rfl) (by kernel_rfl) (by kernel_rfl) (fun _ _ _ h => h) (Or.inl ⟨by rfl, ?_⟩) (by assumption) ?_
  rotate_left
  · (intro w' hSw; (try dsimp only at hSw); go_simp; with_reducible rfl)
  try simp only [Act.put, List.setIfInBounds_toArray, List.set_cons_zero, List.set_cons_succ]
  refine takeL (i := 14) (v := ?_) rfl (by kernel_rfl) (by kernel_rfl) (by kernel_rfl) (by kernel_rfl) (by kernel_rfl) (fun _ _ _ h => h) (Or.inl ⟨by rfl, ?_⟩) (by assumption) ?_
  rotate_left
  · (intro w' hSw; (try dsimp only at hSw); go_simp; with_reducible rfl)
  try simp only [Act.put, List.setIfInBounds_toArray, List.set_cons_zero, List.set_cons_succ]
  refine takeL (i := 15) (v := ?_) rfl (by kernel_rfl) (by kernel_rfl) (by kernel_rfl) (by kernel_rfl) (by kernel_rfl) (fun _ _ _ h => h) (Or.inl ⟨by rfl, ?_⟩) (by assumption) ?_
  rotate_left
  · (intro w' hSw; (try dsimp only at hSw); go_simp; with_reducible rfl)
  try simp only [Act.put, List.setIfInBounds_toArray, List.set_cons_zero, List.set_cons_succ]
  refine twoL (i := 5) (j := 8) (by kernel_rfl) rfl rfl (fun K hK => ?_) (fun K hK => ?_)
  · go_simp
    refine hK.out _ _ (fun _ => hS) ?_
    clear hK K
    try simp only [Act.put, List.setIfInBounds_toArray, List.set_cons_zero, List.set_cons_succ]
    refine oneL (i := 8) (by kernel_rfl) rfl (fun K hK => ?_)
    go_simp
    refine A.out.mono ?_
    rintro e w1 ⟨k, rfl, ha, hb⟩
    have kl := ha.1
    have kd : (k : Int) ≤ (d : Int) := by omega
    have B1 := Lib.hid hb
    have X1 := Lib.hid (HX.out.below hb HL.out)
    have y2 : w1.cell? ⟨h, 2, none⟩ = some (.slice q P.length d) := X1.out.cell 2
    have y3 : w1.cell? ⟨h, 3, none⟩ = some (.int .i64 kn) := X1.out.cell 3
    have g2 : w1.frozen? ⟨h, 2, none⟩ = false := X1.out.frozen 2
    have g3 : w1.frozen? ⟨h, 3, none⟩ = false := X1.out.frozen 3
    have HA1 := Lib.hid ha
    clear ha hb hS
    refine hK.out _ _ (fun _ => y3) ?_
    clear hK K
    try simp only [Act.put, List.setIfInBounds_toArray, List.set_cons_zero, List.set_cons_succ]
    have hS := y3
    refine takeL (i := 9) (v := ?_) rfl (by kernel_rfl) (by kernel_rfl) (by kernel_rfl) (by kernel_rfl) (by kernel_rfl) (fun _ _ _ h => h) (Or.inl ⟨by rfl, ?_⟩) (by assumption) ?_
    rotate_left
    · (intro w' hSw; (try dsimp only at hSw); go_simp; with_reducible rfl)
    try simp only [Act.put, List.setIfInBounds_toArray, List.set_cons_zero, List.set_cons_succ]
    refine takeL (i := 16) (v := ?_) rfl (by kernel_rfl) (by kernel_rfl) (by kernel_rfl) (by kernel_rfl) (by kernel_rfl) (fun _ _ _ h => h) (Or.inl ⟨by rfl, ?_⟩) (by assumption) ?_
    rotate_left
    · (intro w' hSw; (try dsimp only at hSw); go_simp; with_reducible rfl)
    try simp only [Act.put, List.setIfInBounds_toArray, List.set_cons_zero, List.set_cons_succ]
    refine takeL (i := 17) (v := ?_) rfl (by kernel_rfl) (by kernel_rfl) (by kernel_rfl) (by kernel_rfl) (by kernel_rfl) (fun _ _ _ h => h) (Or.inl ⟨by rfl, ?_⟩) (by assumption) ?_
    rotate_left
    · (intro w' hSw; (try dsimp only at hSw); go_simp; with_reducible rfl)
    try simp only [Act.put, List.setIfInBounds_toArray, List.set_cons_zero, List.set_cons_succ]
    refine oneL (i := 18) (by kernel_rfl) rfl (fun K hK => ?_)
    go_simp
    refine hK.out _ _ (fun _ => (World.cell?_setCell_other _ _ _ _ (by simp)).trans y3) ?_
    clear hK K
    try simp only [Act.put, List.setIfInBounds_toArray, List.set_cons_zero, List.set_cons_succ]
    have hS : (w1.setCell ⟨h, 2, none⟩ (.slice q k d)).cell? ⟨h, 3, none⟩ = some (.int .i64 kn) := (World.cell?_setCell_other _ _ _ _ (by simp)).trans y3
    refine takeL (i := 19) (v := ?_) rfl (by kernel_rfl) (by kernel_rfl) (by kernel_rfl) (by kernel_rfl) (by kernel_rfl) (fun _ _ _ h => h) (Or.inl ⟨by rfl, ?_⟩) (by assumption) ?_
    rotate_left
    · (intro w' hSw; (try dsimp only at hSw); go_simp; with_reducible rfl)
    try simp only [Act.put, List.setIfInBounds_toArray, List.set_cons_zero, List.set_cons_succ]
    refine takeL (i := 20) (v := ?_) rfl (by kernel_rfl) (by kernel_rfl) (by kernel_rfl) (by kernel_rfl) (by kernel_rfl) (fun _ _ _ h => h) (Or.inl ⟨by rfl, ?_⟩) (by assumption) ?_
    rotate_left
    · (intro w' hSw; (try dsimp only at hSw); go_simp; with_reducible rfl)
    try simp only [Act.put, List.setIfInBounds_toArray, List.set_cons_zero, List.set_cons_succ]
    refine oneL (i := 21) (by kernel_rfl) rfl (fun K hK => ?_)
    go_simp
    refine hK.out _ _ (fun h => absurd h (by decide)) ?_
    clear hK K
    refine doneO (by kernel_rfl) ?_ _
    go_end0
    exact ⟨⟨_, rfl⟩, FI.out _ _ HA1.out B1.out⟩
  · go_simp
    refine A.out.mono ?_
    rintro e w1 ⟨k, rfl, ha, hb⟩
    have kl := ha.1
    have kd : (k : Int) ≤ (d : Int) := by omega
    have B1 := Lib.hid hb
    have X1 := Lib.hid (HX.out.below hb HL.out)
    have y2 : w1.cell? ⟨h, 2, none⟩ = some (.slice q P.length d) := X1.out.cell 2
    have y3 : w1.cell? ⟨h, 3, none⟩ = some (.int .i64 kn) := X1.out.cell 3
    have g2 : w1.frozen? ⟨h, 2, none⟩ = false := X1.out.frozen 2
    have g3 : w1.frozen? ⟨h, 3, none⟩ = false := X1.out.frozen 3
    have HA1 := Lib.hid ha
    clear ha hb hS
    refine hK.out _ _ (fun _ => y3) ?_
    clear hK K
    try simp only [Act.put, List.setIfInBounds_toArray, List.set_cons_zero, List.set_cons_succ]
    refine oneL (i := 5) (by kernel_rfl) rfl (fun K hK => ?_)
    go_simp
    refine hK.out _ _ (fun _ => y3) ?_
    clear hK K
    try simp only [Act.put, List.setIfInBounds_toArray, List.set_cons_zero, List.set_cons_succ]
    have hS := y3
    refine takeL (i := 9) (v := ?_) rfl (by kernel_rfl) (by kernel_rfl) (by kernel_rfl) (by kernel_rfl) (by kernel_rfl) (fun _ _ _ h => h) (Or.inl ⟨by rfl, ?_⟩) (by assumption) ?_
    rotate_left
    · (intro w' hSw; (try dsimp only at hSw); go_simp; with_reducible rfl)
    try simp only [Act.put, List.setIfInBounds_toArray, List.set_cons_zero, List.set_cons_succ]
    refine takeL (i := 16) (v := ?_) rfl (by kernel_rfl) (by kernel_rfl) (by kernel_rfl) (by kernel_rfl) (by kernel_rfl) (fun _ _ _ h => h) (Or.inl ⟨by rfl, ?_⟩) (by assumption) ?_
    rotate_left
    · (intro w' hSw; (try dsimp only at hSw); go_simp; with_reducible rfl)
    try simp only [Act.put, List.setIfInBounds_toArray, List.set_cons_zero, List.set_cons_succ]
    refine takeL (i := 17) (v := ?_) rfl (by kernel_rfl) (by kernel_rfl) (by kernel_rfl) (by kernel_rfl) (by kernel_rfl) (fun _ _ _ h => h) (Or.inl ⟨by rfl, ?_⟩) (by assumption) ?_
    rotate_left
    · (intro w' hSw; (try dsimp only at hSw); go_simp; with_reducible rfl)
    try simp only [Act.put, List.setIfInBounds_toArray, List.set_cons_zero, List.set_cons_succ]
    refine oneL (i := 18) (by kernel_rfl) rfl (fun K hK => ?_)
    go_simp
    refine hK.out _ _ (fun _ => (World.cell?_setCell_other _ _ _ _ (by simp)).trans y3) ?_
    clear hK K
    try simp only [Act.put, List.setIfInBounds_toArray, List.set_cons_zero, List.set_cons_succ]
    have hS : (w1.setCell ⟨h, 2, none⟩ (.slice q k d)).cell? ⟨h, 3, none⟩ = some (.int .i64 kn) := (World.cell?_setCell_other _ _ _ _ (by simp)).trans y3
    refine takeL (i := 19) (v := ?_) rfl (by kernel_rfl) (by kernel_rfl) (by kernel_rfl) (by kernel_rfl) (by kernel_rfl) (fun _ _ _ h => h) (Or.inl ⟨by rfl, ?_⟩) (by assumption) ?_
    rotate_left
    · (intro w' hSw; (try dsimp only at hSw); go_simp; with_reducible rfl)
    try simp only [Act.put, List.setIfInBounds_toArray, List.set_cons_zero, List.set_cons_succ]
    refine takeL (i := 20) (v := ?_) rfl (by kernel_rfl) (by kernel_rfl) (by kernel_rfl) (by kernel_rfl) (by kernel_rfl) (fun _ _ _ h => h) (Or.inl ⟨by rfl, ?_⟩) (by assumption) ?_
    rotate_left
    · (intro w' hSw; (try dsimp only at hSw); go_simp; with_reducible rfl)
    try simp only [Act.put, List.setIfInBounds_toArray, List.set_cons_zero, List.set_cons_succ]
    refine oneL (i := 21) (by kernel_rfl) rfl (fun K hK => ?_)
    go_simp
    refine hK.out _ _ (fun h => absurd h (by decide)) ?_
    clear hK K
    refine doneO (by kernel_rfl) ?_ _
    go_end0
    exact ⟨⟨_, rfl⟩, FI.out _ _ HA1.out B1.out⟩
end Ex
end Go.Proofs.Ytfmnbmjfkplieaa
