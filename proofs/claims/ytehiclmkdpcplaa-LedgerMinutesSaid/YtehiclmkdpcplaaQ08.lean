/- Walks over package excess: an index that is new, its series, what a reading makes stale. Conditions: an index whose parts reckon what they say. The walk over package excess' Put. Conditions: an index whose parts reckon what they say. Walks over package ledger: a reading is put in a zone's series, and in its indexes. No condition but those written. Walks over package ledger: a zone's put. No condition but those written. -/
import Derived.Test.YtehiclmkdpcplaaQ07
import Derived.StillTailTactics
import Derived.WalkMore
namespace Go.Proofs.Ytehiclmkdpcplaa
open Go.RowKit Se

namespace Ex
def IXF (w : World) (B h : Nat) (F : Nat → Prop) (wo ga li : Int) (S : List Rd) : Prop := ∃ h0 F0 v P kn, Idx w B h h0 F0 v P kn wo ga li S ∧ F = Own3 h F0 v
set_option maxRecDepth 100000 in
set_option maxHeartbeats 2000000 in
theorem xnew_yes (wo ga li : Int) (w : World) (hm : mayB wo ga = true) (hl : tenB li = true) : Calls Try.prog 64 #[.int .i64 wo, .int .i64 ga, .int .i64 li] w fun e w' =>
    ∃ h F, e = .returned (.tuple #[.pointer (some ⟨h, 0, none⟩), .int .i64 0]) ∧ IXF w' w.heap.size h F wo ga li [] ∧ Below w.heap.size w w' := by
  have N := Lib.hid (face.new_yes wo ga w hm)
  have T := Lib.hid (fun W => xten_any li W)
  rw [hl] at T
  clear hm hl
  go_enter Try.func64, Try.ntmps64
  go_wp2_with fail
  refine N.out.mono ?_
  rintro e w1 ⟨h0, F0, rfl, hp, hb⟩
  have P1 := Lib.hid hp
  have B1 := Lib.hid hb
  clear hp hb N
  go_wp2_with fail
  refine (T.out _).mono ?_
  rintro e w2 ⟨rfl, rfl⟩
  go_wp2
  go_ret2
  have hb2 : Below w1.heap.size w1 (w1.alloc (.cells #[.pointer (some ⟨h0, 0, none⟩), .int .i64 li, .slice none 0 0, .int .i64 0] 102)) := alloc_below _ _
  exact ⟨w1.heap.size, Own3 w1.heap.size F0 (.slice none 0 0), rfl, ⟨h0, F0, .slice none 0 0, [], 0, ⟨B1.out.size, Lies.new _ _ _, face.keep P1.out hb2, World.ownsRow_nil _ _ _ _, fun hf => by have := (face.foot P1.out hf).2; omega, (fun k hk => by cases hk), rec_nil _⟩, rfl⟩, B1.out.trans (hb2.mono B1.out.size)⟩
theorem xnew_no (wo ga li : Int) (w : World) (hm : (mayB wo ga && tenB li) = false) : Calls Try.prog 64 #[.int .i64 wo, .int .i64 ga, .int .i64 li] w fun e w' =>
    e = .returned (.tuple #[.pointer none, .int .i64 1]) ∧ Below w.heap.size w w' := by
  cases h1 : mayB wo ga with
  | false =>
    have N := Lib.hid (face.new_no wo ga w h1)
    clear h1 hm
    go_enter Try.func64, Try.ntmps64
    go_wp2_with fail
    refine N.out.mono ?_
    rintro e w1 ⟨rfl, hb⟩
    have B1 := Lib.hid hb
    clear hb N
    go_wp2
    go_ret2
    exact ⟨rfl, B1.out⟩
  | true =>
    rw [h1, Bool.true_and] at hm
    have N := Lib.hid (face.new_yes wo ga w h1)
    have T := Lib.hid (fun W => xten_any li W)
    rw [hm] at T
    clear h1 hm
    go_enter Try.func64, Try.ntmps64
    go_wp2_with fail
    refine N.out.mono ?_
    rintro e w1 ⟨h0, F0, rfl, _, hb⟩
    have B1 := Lib.hid hb
    clear hb N
    go_wp2_with fail
    refine (T.out _).mono ?_
    rintro e w2 ⟨rfl, rfl⟩
    go_wp2
    go_ret2
    exact ⟨rfl, B1.out⟩
theorem nil_put (r : Rd) (w : World) : Calls Try.prog 38 #[.pointer none, rval r] w fun e w' => e = .returned (.tuple #[.bool false, .int .i64 1]) ∧ Below w.heap.size w w' := by
  have B0 := Lib.hid (alloc_below w (.cells #[.int .i64 r.min, .int .i64 r.seq, .int .i64 r.ten] 37))
  obtain ⟨m, s, t⟩ := r
  unfold rval
  simp only at B0 ⊢
  go_enter Try.func38, Try.ntmps38
  go_wp2
  go_ret2
  exact ⟨rfl, B0.out⟩
theorem nil_sum (a b : Int) (w : World) : Calls Try.prog 42 #[.pointer none, .int .i64 a, .int .i64 b] w fun e w' => e = .returned (.int .i64 0) ∧ Below w.heap.size w w' := by
  go_enter Try.func42, Try.ntmps42
  go_wp2
  go_ret
  exact ⟨rfl, Below.refl _ _⟩
/-- The first parts of a row. -/
theorem row_take {w : World} {B : Nat} {t : TypeId} {q : Option Addr} {d : Nat} {P : List Pt} (h : w.ownsRow B t 3 (.slice q P.length d) P.length (P.flatMap pcells)) {k : Nat} (hk : k ≤ P.length) : w.ownsRow B t 3 (.slice q k d) (P.take k).length ((P.take k).flatMap pcells) := by
  have hl : (P.take k).length = k := by
    rw [List.length_take]
    omega
  rw [hl]
  refine ⟨by rw [flat_len pcells_len, hl], ?_⟩
  rcases h.2 with ⟨e, h0⟩ | ⟨g, cap, cur, e, hb, hh, hc, hm, hs, ht⟩
  · have : k = 0 := by omega
    subst this
    injection e with e1 _ e3
    subst e1 e3
    exact .inl ⟨rfl, rfl⟩
  · cases e
    refine .inr ⟨g, d, cur, rfl, hb, hh, by omega, hm, hs, ?_⟩
    have e1 : (P.take k).flatMap pcells = (P.flatMap pcells).take (k * 3) := by
      have h1 : P.flatMap pcells = (P.take k).flatMap pcells ++ (P.drop k).flatMap pcells := by rw [← List.flatMap_append, List.take_append_drop]
      rw [h1, List.take_left' (by rw [flat_len pcells_len, hl])]
    rw [e1, ← ht, List.take_take, Nat.min_eq_left (by omega)]
/-- What a reading makes stale. -/
def Gone (w : World) (B h h0 : Nat) (F0 : Nat → Prop) (v : Value) (wo ga li : Int) (S : List Rd) (w' : World) : Prop :=
  ∃ v' P' kn', Idx w' B h h0 F0 v' P' kn' wo ga li S ∧ Turn (fun k => k = h) w w' ∧ ∀ k, v'.ownBlock = some k → v.ownBlock = some k
/-- An index whose series has turned: all but what its parts reckon. -/
structure Stale (w : World) (B h h0 : Nat) (F0 : Nat → Prop) (v : Value) (P : List Pt) (kn wo ga li : Int) (S S' : List Rd) : Prop where
  low : B ≤ h
  box : Lies w h 102 #[.pointer (some ⟨h0, 0, none⟩), .int .i64 li, v, .int .i64 kn]
  ser : PSF w B h0 F0 wo ga S'
  row : w.ownsRow B 109 3 v P.length (P.flatMap pcells)
  out : ¬ F0 h
  far : ∀ k, v.ownBlock = some k → k ≠ h ∧ ¬ F0 k
  rk : Rec (exm wo ga li S) P kn
theorem ahead_row (B h : Nat) (a li kn : Value) (v : Value) (P : List Pt) (f : Int → Int) (k0 m : Int) (w : World) (hb : Lies w h 102 #[a, li, v, kn]) (hr : w.ownsRow B 109 3 v P.length (P.flatMap pcells)) (hk : Rec f P k0) :
    Calls Try.prog 72 #[.pointer (some ⟨h, 0, none⟩), .int .i64 m] w (Ahead P m w) := by
  obtain ⟨q, d, rfl, hd, hA⟩ := rw_own pcells_len hr
  have c2 : w.cell? ⟨h, 2, none⟩ = some (.slice q P.length d) := hb.cell 2
  have hl := rec_len hk
  have C := Lib.hid (search_any q P.length d P m w hA hk.rise (by omega) hd)
  clear hb hr hk hA
  go_enter Try.func72, Try.ntmps72
  go_wp2_with fail
  refine C.out.mono ?_
  rintro e w1 ⟨k, b, rfl, ha, hb⟩
  have A1 := Lib.hid ha
  have B1 := Lib.hid hb
  clear ha hb C
  go_wp2
  go_ret
  exact ⟨k, rfl, A1.out, B1.out⟩
set_option maxRecDepth 100000 in
set_option maxHeartbeats 4000000 in
/-- The index's series has turned at and behind minute m alone. -/
theorem forget_any (B h h0 : Nat) (F0 : Nat → Prop) (v : Value) (P : List Pt) (kn wo ga li : Int) (S S' : List Rd) (m : Int) (w : World)
    (hp : Stale w B h h0 F0 v P kn wo ga li S S') (hS : ∀ t, t < m → exm wo ga li S' t = exm wo ga li S t) (h0m : 0 ≤ m) (h1m : m ≤ 1048576) :
    Calls Try.prog 63 #[.pointer (some ⟨h, 0, none⟩), .int .i64 m] w fun e w' => (∃ u, e = .returned u) ∧ Gone w B h h0 F0 v wo ga li S' w' := by
  obtain ⟨q, d, rfl, hd, hA⟩ := rw_own pcells_len hp.row
  have hl := rec_len hp.rk
  have hbx : Lies w.drew h 102 #[.pointer (some ⟨h0, 0, none⟩), .int .i64 li, .slice q P.length d, .int .i64 kn] := hp.box
  have hrw : w.drew.ownsRow B 109 3 (.slice q P.length d) P.length (P.flatMap pcells) := hp.row
  have A := Lib.hid (ahead_row B h _ _ _ (.slice q P.length d) P _ kn m w.drew hbx hrw hp.rk)
  have HP := Lib.hid hp
  have HX := Lib.hid hbx
  clear hbx hrw
  have c2 : w.drew.cell? ⟨h, 2, none⟩ = some (.slice q P.length d) := hp.box.cell 2
  have c3 : w.drew.cell? ⟨h, 3, none⟩ = some (.int .i64 kn) := hp.box.cell 3
  have HL := Lib.hid hp.box.lt
  have hl' : (P.length : Int) ≤ 1048576 := by omega
  have hd' : (P.length : Int) ≤ (d : Int) := by omega
  clear hp hA
  have FI := Lib.hid (fun w1 k (ha : Ahd P m k) (hb : Below w.drew.heap.size w.drew w1) => show Gone w B h h0 F0 (.slice q P.length d) wo ga li S' ((w1.setCell ⟨h, 2, none⟩ (.slice q k d)).setCell ⟨h, 3, none⟩ (.int .i64 (min kn m))) by
    have hp := HP.out
    have hb' : Below w.heap.size w w1 := ((Below.refl _ w).drew).trans hb
    have T0 : Turn (fun k => k = h) w ((w1.setCell ⟨h, 2, none⟩ (.slice q k d)).setCell ⟨h, 3, none⟩ (.int .i64 (min kn m))) := ((Turn.of_below (S := fun k => k = h) hb').setCell (p := ⟨h, 2, none⟩) (.inl rfl) _).setCell (p := ⟨h, 3, none⟩) (.inl rfl) _
    refine ⟨.slice q k d, P.take k, min kn m, ⟨hp.low, ?_, face.turn hp.ser T0 (fun j hj e => hp.out (e ▸ hj)), ?_, hp.out, fun j hj => hp.far j ?_, rec_cut hp.rk ha h0m h1m hS⟩, T0, fun j hj => ?_⟩
    · have := ((hp.box.below hb' hp.box.lt).set_ 2 (.slice q k d)).set_ 3 (.int .i64 (min kn m))
      simpa using this
    · exact own_turn (row_take hp.row ha.1) T0 (fun j hj e => by
        subst e
        refine (hp.far j ?_).1 rfl
        cases q with
        | none => cases hj
        | some a => exact hj)
    · cases q with
      | none => cases hj
      | some a => exact hj
    · cases q with
      | none => cases hj
      | some a => exact hj)
  clear hS hd hl
  go_enter Try.func63, Try.ntmps63
  go_wp2_with fail
  refine region_T 21 (fun w' => w'.cell? ⟨h, 3, none⟩ = some (.int .i64 kn)) (by kernel_rfl) c3 (fun hS => ?_)
  refine takeL (i := 0) (v := ?_) rfl (by kernel_rfl) (by kernel_rfl) (by kernel_rfl) (by kernel_rfl) (by kernel_rfl) (fun _ _ _ h => h) (Or.inl ⟨by rfl, ?_⟩) (by assumption) ?_
  rotate_left
  · (intro w' hSw; (try dsimp only at hSw); go_simp; with_reducible rfl)
  try simp only [Act.put, List.setIfInBounds_toArray, List.set_cons_zero, List.set_cons_succ]
  refine takeL (i := 1) (v := ?_) rfl (by kernel_rfl) (by kernel_rfl) (by kernel_rfl) (by kernel_rfl) (by kernel_rfl) (fun _ _ _ h => h) (Or.inl ⟨by rfl, ?_⟩) (by assumption) ?_
  rotate_left
  · (intro w' hSw; (try dsimp only at hSw); go_simp; with_reducible rfl)
  try simp only [Act.put, List.setIfInBounds_toArray, List.set_cons_zero, List.set_cons_succ]
  refine takeL (i := 2) (v := ?_) rfl (by kernel_rfl) (by kernel_rfl) (by kernel_rfl) (by kernel_rfl) (by kernel_rfl) (fun _ _ _ h => h) (Or.inl ⟨by rfl, ?_⟩) (by assumption) ?_
  rotate_left
  · (intro w' hSw; (try dsimp only at hSw); go_simp; with_reducible rfl)
  try simp only [Act.put, List.setIfInBounds_toArray, List.set_cons_zero, List.set_cons_succ]
  refine takeL (i := 3) (v := ?_) rfl (by kernel_rfl) (by kernel_rfl) (by kernel_rfl) (by kernel_rfl) (by kernel_rfl) (fun _ _ _ h => h) (Or.inl ⟨by rfl, ?_⟩) (by assumption) ?_
  rotate_left
  · (intro w' hSw; (try dsimp only at hSw); go_simp; with_reducible rfl)
  try simp only [Act.put, List.setIfInBounds_toArray, List.set_cons_zero, List.set_cons_succ]
  refine takeL (i := 4) (v := ?_) rfl (by kernel_rfl) (by kernel_rfl) (by kernel_rfl) (by kernel_rfl) (by kernel_rfl) (fun _ _ _ h => h) (Or.inl ⟨by rfl, ?_⟩) (by assumption) ?_
  rotate_left
  · (intro w' hSw; (try dsimp only at hSw); go_simp; with_reducible rfl)
  try simp only [Act.put, List.setIfInBounds_toArray, List.set_cons_zero, List.set_cons_succ]
  refine takeL (i := 6) (v := ?_) rfl (by kernel_rfl) (by kernel_rfl) (by kernel_rfl) (by kernel_rfl) (by kernel_rfl) (fun _ _ _ h => h) (Or.inl ⟨by rfl, ?_⟩) (by assumption) ?_
  rotate_left
  · (intro w' hSw; (try dsimp only at hSw); go_simp; with_reducible rfl)
  try simp only [Act.put, List.setIfInBounds_toArray, List.set_cons_zero, List.set_cons_succ]
  refine takeL (i := 7) (v := ?_) rfl (by kernel_rfl) (by kernel_rfl) (by kernel_rfl) (by kernel_rfl) (by kernel_rfl) (fun _ _ _ h => h) (Or.inl ⟨by rfl, ?_⟩) (by assumption) ?_
  rotate_left
  · (intro w' hSw; (try dsimp only at hSw); go_simp; with_reducible rfl)
  try simp only [Act.put, List.setIfInBounds_toArray, List.set_cons_zero, List.set_cons_succ]
  refine takeL (i := 10) (v := ?_) rfl (by kernel_rfl) (by kernel_rfl) (by kernel_rfl) (by kernel_rfl) (by kernel_rfl) (fun _ _ _ h => h) (Or.inl ⟨by rfl, ?_⟩) (by assumption) ?_
  rotate_left
  · (intro w' hSw; (try dsimp only at hSw); go_simp; with_reducible rfl)
  try simp only [Act.put, List.setIfInBounds_toArray, List.set_cons_zero, List.set_cons_succ]
  refine takeL (i := 11) (v := ?_) rfl (by kernel_rfl) (by kernel_rfl) (by kernel_rfl) (by kernel_rfl) (by kernel_rfl) (fun _ _ _ h => h) (Or.inl ⟨by rfl, ?_⟩) (by assumption) ?_
  rotate_left
  · (intro w' hSw; (try dsimp only at hSw); go_simp; with_reducible rfl)
  try simp only [Act.put, List.setIfInBounds_toArray, List.set_cons_zero, List.set_cons_succ]
  refine takeL (i := 12) (v := ?_) rfl (by kernel_rfl) (by kernel_rfl) (by kernel_rfl) (by kernel_rfl) (by kernel_rfl) (fun _ _ _ h => h) (Or.inl ⟨by rfl, ?_⟩) (by assumption) ?_
  rotate_left
  · (intro w' hSw; (try dsimp only at hSw); go_simp; with_reducible rfl)
  try simp only [Act.put, List.setIfInBounds_toArray, List.set_cons_zero, List.set_cons_succ]
  refine takeL (i := 13) (v := ?_) rfl (by kernel_rfl) (by kernel_rfl) (by kernel_rfl) (by kernel_rfl) (by kernel_rfl) (fun _ _ _ h => h) (Or.inl ⟨by rfl, ?_⟩) (by assumption) ?_
  rotate_left
  · (intro w' hSw; (try dsimp only at hSw); go_simp; with_reducible rfl)
  try simp only [Act.put, List.setIfInBounds_toArray, List.set_cons_zero, List.set_cons_succ]
  refine takeL (i := 14) (v := ?_) rfl (by kernel_rfl) (by kernel_rfl) (by kernel_rfl) (by kernel_rfl) (by kernel_rfl) (fun _ _ _ h => h) (Or.inl ⟨by rfl, ?_⟩) (by assumption) ?_
  rotate_left
  · (intro w' hSw; (try dsimp only at hSw); go_simp; with_reducible rfl)
  try simp only [Act.put, List.setIfInBounds_toArray, List.set_cons_zero, List.set_cons_succ]
  refine takeL (i := 15) (v := ?_) rfl (by kernel_rfl) (by kernel_rfl) (by kernel_rfl) (by kernel_rfl) (by kernel_rfl) (fun _ _ _ h => h) (Or.inl ⟨by rfl, ?_⟩) (by assumption) ?_
  rotate_left
  · (intro w' hSw; (try dsimp only at hSw); go_simp; with_reducible rfl)
  try simp only [Act.put, List.setIfInBounds_toArray, List.set_cons_zero, List.set_cons_succ]
  refine twoL (i := 5) (j := 8) (by kernel_rfl) rfl rfl (fun K hK => ?_) (fun K hK => ?_)
  · go_simp
    refine hK.out _ _ (fun _ => hS) ?_
    clear hK K
    try simp only [Act.put, List.setIfInBounds_toArray, List.set_cons_zero, List.set_cons_succ]
    refine oneL (i := 8) (by kernel_rfl) rfl (fun K hK => ?_)
    go_simp
    refine A.out.mono ?_
    rintro e w1 ⟨k, rfl, ha, hb⟩
    have kl := ha.1
    have kd : (k : Int) ≤ (d : Int) := by omega
    have B1 := Lib.hid hb
    have X1 := Lib.hid (HX.out.below hb HL.out)
    have y2 : w1.cell? ⟨h, 2, none⟩ = some (.slice q P.length d) := X1.out.cell 2
    have y3 : w1.cell? ⟨h, 3, none⟩ = some (.int .i64 kn) := X1.out.cell 3
    have g2 : w1.frozen? ⟨h, 2, none⟩ = false := X1.out.frozen 2
    have g3 : w1.frozen? ⟨h, 3, none⟩ = false := X1.out.frozen 3
    have HA1 := Lib.hid ha
    clear ha hb hS
    refine hK.out _ _ (fun _ => y3) ?_
    clear hK K
    try simp only [Act.put, List.setIfInBounds_toArray, List.set_cons_zero, List.set_cons_succ]
    have hS := y3
    refine takeL (i := 9) (v := ?_) rfl (by kernel_rfl) (by kernel_rfl) (by kernel_rfl) (by kernel_rfl) (by kernel_rfl) (fun _ _ _ h => h) (Or.inl ⟨by rfl, ?_⟩) (by assumption) ?_
    rotate_left
    · (intro w' hSw; (try dsimp only at hSw); go_simp; with_reducible rfl)
    try simp only [Act.put, List.setIfInBounds_toArray, List.set_cons_zero, List.set_cons_succ]
    refine takeL (i := 16) (v := ?_) rfl (by kernel_rfl) (by kernel_rfl) (by kernel_rfl) (by kernel_rfl) (by kernel_rfl) (fun _ _ _ h => h) (Or.inl ⟨by rfl, ?_⟩) (by assumption) ?_
    rotate_left
    · (intro w' hSw; (try dsimp only at hSw); go_simp; with_reducible rfl)
    try simp only [Act.put, List.setIfInBounds_toArray, List.set_cons_zero, List.set_cons_succ]
    refine takeL (i := 17) (v := ?_) rfl (by kernel_rfl) (by kernel_rfl) (by kernel_rfl) (by kernel_rfl) (by kernel_rfl) (fun _ _ _ h => h) (Or.inl ⟨by rfl, ?_⟩) (by assumption) ?_
    rotate_left
    · (intro w' hSw; (try dsimp only at hSw); go_simp; with_reducible rfl)
    try simp only [Act.put, List.setIfInBounds_toArray, List.set_cons_zero, List.set_cons_succ]
    refine oneL (i := 18) (by kernel_rfl) rfl (fun K hK => ?_)
    go_simp
    refine hK.out _ _ (fun _ => (World.cell?_setCell_other _ _ _ _ (by simp)).trans y3) ?_
    clear hK K
    try simp only [Act.put, List.setIfInBounds_toArray, List.set_cons_zero, List.set_cons_succ]
    have hS : (w1.setCell ⟨h, 2, none⟩ (.slice q k d)).cell? ⟨h, 3, none⟩ = some (.int .i64 kn) := (World.cell?_setCell_other _ _ _ _ (by simp)).trans y3
    refine takeL (i := 19) (v := ?_) rfl (by kernel_rfl) (by kernel_rfl) (by kernel_rfl) (by kernel_rfl) (by kernel_rfl) (fun _ _ _ h => h) (Or.inl ⟨by rfl, ?_⟩) (by assumption) ?_
    rotate_left
    · (intro w' hSw; (try dsimp only at hSw); go_simp; with_reducible rfl)
    try simp only [Act.put, List.setIfInBounds_toArray, List.set_cons_zero, List.set_cons_succ]
    refine takeL (i := 20) (v := ?_) rfl (by kernel_rfl) (by kernel_rfl) (by kernel_rfl) (by kernel_rfl) (by kernel_rfl) (fun _ _ _ h => h) (Or.inl ⟨by rfl, ?_⟩) (by assumption) ?_
    rotate_left
    · (intro w' hSw; (try dsimp only at hSw); go_simp; with_reducible rfl)
    try simp only [Act.put, List.setIfInBounds_toArray, List.set_cons_zero, List.set_cons_succ]
    refine oneL (i := 21) (by kernel_rfl) rfl (fun K hK => ?_)
    go_simp
    refine hK.out _ _ (fun h => absurd h (by decide)) ?_
    clear hK K
    refine doneO (by kernel_rfl) ?_ _
    go_end0
    exact ⟨⟨_, rfl⟩, FI.out _ _ HA1.out B1.out⟩
  · go_simp
    refine A.out.mono ?_
    rintro e w1 ⟨k, rfl, ha, hb⟩
    have kl := ha.1
    have kd : (k : Int) ≤ (d : Int) := by omega
    have B1 := Lib.hid hb
    have X1 := Lib.hid (HX.out.below hb HL.out)
    have y2 : w1.cell? ⟨h, 2, none⟩ = some (.slice q P.length d) := X1.out.cell 2
    have y3 : w1.cell? ⟨h, 3, none⟩ = some (.int .i64 kn) := X1.out.cell 3
    have g2 : w1.frozen? ⟨h, 2, none⟩ = false := X1.out.frozen 2
    have g3 : w1.frozen? ⟨h, 3, none⟩ = false := X1.out.frozen 3
    have HA1 := Lib.hid ha
    clear ha hb hS
    refine hK.out _ _ (fun _ => y3) ?_
    clear hK K
    try simp only [Act.put, List.setIfInBounds_toArray, List.set_cons_zero, List.set_cons_succ]
    refine oneL (i := 5) (by kernel_rfl) rfl (fun K hK => ?_)
    go_simp
    refine hK.out _ _ (fun _ => y3) ?_
    clear hK K
    try simp only [Act.put, List.setIfInBounds_toArray, List.set_cons_zero, List.set_cons_succ]
    have hS := y3
    refine takeL (i := 9) (v := ?_) rfl (by kernel_rfl) (by kernel_rfl) (by kernel_rfl) (by kernel_rfl) (by kernel_rfl) (fun _ _ _ h => h) (Or.inl ⟨by rfl, ?_⟩) (by assumption) ?_
    rotate_left
    · (intro w' hSw; (try dsimp only at hSw); go_simp; with_reducible rfl)
    try simp only [Act.put, List.setIfInBounds_toArray, List.set_cons_zero, List.set_cons_succ]
    refine takeL (i := 16) (v := ?_) rfl (by kernel_rfl) (by kernel_rfl) (by kernel_rfl) (by kernel_rfl) (by kernel_rfl) (fun _ _ _ h => h) (Or.inl ⟨by rfl, ?_⟩) (by assumption) ?_
    rotate_left
    · (intro w' hSw; (try dsimp only at hSw); go_simp; with_reducible rfl)
    try simp only [Act.put, List.setIfInBounds_toArray, List.set_cons_zero, List.set_cons_succ]
    refine takeL (i := 17) (v := ?_) rfl (by kernel_rfl) (by kernel_rfl) (by kernel_rfl) (by kernel_rfl) (by kernel_rfl) (fun _ _ _ h => h) (Or.inl ⟨by rfl, ?_⟩) (by assumption) ?_
    rotate_left
    · (intro w' hSw; (try dsimp only at hSw); go_simp; with_reducible rfl)
    try simp only [Act.put, List.setIfInBounds_toArray, List.set_cons_zero, List.set_cons_succ]
    refine oneL (i := 18) (by kernel_rfl) rfl (fun K hK => ?_)
    go_simp
    refine hK.out _ _ (fun _ => (World.cell?_setCell_other _ _ _ _ (by simp)).trans y3) ?_
    clear hK K
    try simp only [Act.put, List.setIfInBounds_toArray, List.set_cons_zero, List.set_cons_succ]
    have hS : (w1.setCell ⟨h, 2, none⟩ (.slice q k d)).cell? ⟨h, 3, none⟩ = some (.int .i64 kn) := (World.cell?_setCell_other _ _ _ _ (by simp)).trans y3
    refine takeL (i := 19) (v := ?_) rfl (by kernel_rfl) (by kernel_rfl) (by kernel_rfl) (by kernel_rfl) (by kernel_rfl) (fun _ _ _ h => h) (Or.inl ⟨by rfl, ?_⟩) (by assumption) ?_
    rotate_left
    · (intro w' hSw; (try dsimp only at hSw); go_simp; with_reducible rfl)
    try simp only [Act.put, List.setIfInBounds_toArray, List.set_cons_zero, List.set_cons_succ]
    refine takeL (i := 20) (v := ?_) rfl (by kernel_rfl) (by kernel_rfl) (by kernel_rfl) (by kernel_rfl) (by kernel_rfl) (fun _ _ _ h => h) (Or.inl ⟨by rfl, ?_⟩) (by assumption) ?_
    rotate_left
    · (intro w' hSw; (try dsimp only at hSw); go_simp; with_reducible rfl)
    try simp only [Act.put, List.setIfInBounds_toArray, List.set_cons_zero, List.set_cons_succ]
    refine oneL (i := 21) (by kernel_rfl) rfl (fun K hK => ?_)
    go_simp
    refine hK.out _ _ (fun h => absurd h (by decide)) ?_
    clear hK K
    refine doneO (by kernel_rfl) ?_ _
    go_end0
    exact ⟨⟨_, rfl⟩, FI.out _ _ HA1.out B1.out⟩
end Ex
end Go.Proofs.Ytehiclmkdpcplaa

namespace Go.Proofs.Ytehiclmkdpcplaa
open Go.RowKit Se

namespace Ex
theorem last_part {S T : List Rd} {m : Int} (hS : Apart S) (h : ∀ x, x.min ≤ m → (x ∈ S ↔ x ∈ T)) : lastL S m = lastL T m := by
  rcases lastL_spec S m with ⟨h1, h2⟩ | ⟨y, h1, h2, h3, h4⟩
  · rcases lastL_spec T m with ⟨k1, _⟩ | ⟨z, _, k2, k3, _⟩
    · rw [h1, k1]
    · have := h2 z ((h z k3).2 k2)
      omega
  · rcases lastL_spec T m with ⟨_, k2⟩ | ⟨z, k1, k2, k3, k4⟩
    · have := k2 y ((h y h3).1 h2)
      omega
    · have hz := (h z k3).2 k2
      have g1 := h4 z hz k3
      have g2 := k4 y ((h y h3).1 h2) h3
      have ho : one y z := by
        unfold lt at g1 g2
        unfold one
        omega
      rw [h1, k1, apart_one hS h2 hz ho]
theorem exm_part {S : List Rd} (hs : Sorted S) {r : Rd} {t : Int} (ht : t < r.min) (wo ga li : Int) : exm wo ga li (sortL (put S r).2) t = exm wo ga li S t := by
  have ha := sorted_apart hs
  have e : lastL (sortL (put S r).2) t = lastL S t := by
    refine (last_part ha fun x hx => ?_).symm
    rw [mem_sort, put_mem ha]
    constructor
    · exact fun h => .inl ⟨h, fun ho => by
        have := ho.1
        omega⟩
    · rintro (h | ⟨y, _, _, rfl⟩ | h)
      · exact h.1
      · simp only at hx
        omega
      · have := h.2
        subst this
        omega
  unfold exm air cnt
  rw [e]
theorem put_same {S : List Rd} (hs : Sorted S) {r : Rd} (h : (putR S r).1 = false) : sortL (putR S r).2.2 = S := by
  unfold putR at *
  by_cases hr : rightB r = true
  · rw [if_pos hr] at h ⊢
    simp only at h ⊢
    by_cases he : ∃ x ∈ S, one x r
    · obtain ⟨x, hx, ho⟩ := he
      obtain ⟨i, hi⟩ := List.mem_iff_getElem?.1 hx
      rw [put_there hs hi ho] at h ⊢
      by_cases ht : r.ten ≤ x.ten
      · rw [if_pos ht]
        exact sort_self hs
      · rw [if_neg ht] at h
        cases h
    · rw [put_new fun x hx ho => he ⟨x, hx, ho⟩] at h
      cases h
  · rw [if_neg hr]
    exact sort_self hs
theorem putR_right {S : List Rd} {r : Rd} (h : (putR S r).1 = true) : rightB r = true := by
  unfold putR at h
  by_cases hr : rightB r = true
  · exact hr
  · rw [if_neg hr] at h
    cases h
/-- What putting makes of an index. -/
def PutX (w : World) (B h : Nat) (F : Nat → Prop) (wo ga li : Int) (S : List Rd) (w' : World) : Prop := ∃ F', IXF w' B h F' wo ga li S ∧ Turn F w w' ∧ ∀ k, F' k → F k ∨ w.heap.size ≤ k
set_option maxRecDepth 100000 in
set_option maxHeartbeats 4000000 in
theorem xput_any (B h h0 : Nat) (F0 : Nat → Prop) (v : Value) (P : List Pt) (kn wo ga li : Int) (S : List Rd) (r : Rd) (w : World) (hp : Idx w B h h0 F0 v P kn wo ga li S) (hs : Sorted S) (hr : ∀ x ∈ S, rightB x = true) (hL : S.length ≤ 1000) :
    Calls Try.prog 38 #[.pointer (some ⟨h, 0, none⟩), rval r] w fun e w' => e = .returned (.tuple #[.bool (putR S r).1, .int .i64 ((putR S r).2.1 : Nat)]) ∧ PutX w B h (Own3 h F0 v) wo ga li (sortL (putR S r).2.2) w' := by
  have PS := Lib.hid (putR_right (S := S) (r := r))
  have PM := Lib.hid (put_same hs (r := r))
  have PE := Lib.hid (fun (hh : rightB r = true) t (ht : t < r.min) => show exm wo ga li (sortL (putR S r).2.2) t = exm wo ga li S t by
    rw [putR_yes S hh]
    exact exm_part hs ht wo ga li)
  have B0 := Lib.hid (alloc_below w (.cells #[.int .i64 r.min, .int .i64 r.seq, .int .i64 r.ten] 37))
  have X0 := Lib.hid (Lies.new w 37 #[.int .i64 r.min, .int .i64 r.seq, .int .i64 r.ten])
  obtain ⟨w1, hw1⟩ : ∃ w1, w.alloc (.cells #[.int .i64 r.min, .int .i64 r.seq, .int .i64 r.ten] 37) = w1 := ⟨_, rfl⟩
  rw [hw1] at B0 X0
  have RI := Lib.hid (fun hh : rightB r = true => (right_of hh).2.2)
  have HP := Lib.hid (hp.keep (B0.out))
  have SP := Lib.hid (face.put B h0 F0 wo ga S r w1.drew (face.turn HP.out.ser (T := fun _ => False) ((Turn.refl _ w1).drew) (fun _ _ hf => hf)) hs hr hL)
  have HW := Lib.hid (fun k => hp.foot (k := k))
  have HL := Lib.hid hp.box.lt
  have FO := Lib.hid (show ∀ k, F0 k ∨ v.ownBlock = some k ∨ k = h → k ≠ w.heap.size from fun k hk e => by
    have : k < w.heap.size := by
      rcases hk with hk | hk | rfl
      · exact (hp.foot (.inr (.inl hk))).2
      · exact (hp.foot (.inr (.inr hk))).2
      · exact hp.box.lt
    omega)
  have d0 : w1.drew.cell? ⟨h, 0, none⟩ = some (.pointer (some ⟨h0, 0, none⟩)) := HP.out.box.cell 0
  have e0 : w1.drew.cell? ⟨w.heap.size, 0, none⟩ = some (.int .i64 r.min) := X0.out.cell 0
  have e1 : w1.drew.cell? ⟨w.heap.size, 1, none⟩ = some (.int .i64 r.seq) := X0.out.cell 1
  have e2 : w1.drew.cell? ⟨w.heap.size, 2, none⟩ = some (.int .i64 r.ten) := X0.out.cell 2
  generalize sortL (putR S r).2.2 = S' at *
  generalize (putR S r).2.1 = en at *
  generalize (putR S r).1 = ch at *
  obtain ⟨m, s, t⟩ := r
  unfold rval at SP ⊢
  simp only at SP e0 e1 e2 X0 PE RI hw1 ⊢
  clear hp hs hr hL
  go_enter Try.func38, Try.ntmps38
  go_wp2_with fail
  clear hw1
  refine region_T 5 (fun w' => w'.cell? ⟨h, 0, none⟩ = some (.pointer (some ⟨h0, 0, none⟩)) ∧ w'.cell? ⟨w.heap.size, 0, none⟩ = some (.int .i64 m) ∧ w'.cell? ⟨w.heap.size, 1, none⟩ = some (.int .i64 s) ∧ w'.cell? ⟨w.heap.size, 2, none⟩ = some (.int .i64 t)) (by kernel_rfl) ⟨d0, e0, e1, e2⟩ (fun hS => ?_)
  refine takeL (i := 0) (v := ?_) rfl (by kernel_rfl) (by kernel_rfl) (by kernel_rfl) (by kernel_rfl) (by kernel_rfl) (fun _ _ _ h => h) (Or.inl ⟨by rfl, ?_⟩) (by assumption) ?_
  rotate_left
  · (intro w' hSw; (try dsimp only at hSw); go_simp; with_reducible rfl)
  try simp only [Act.put, List.setIfInBounds_toArray, List.set_cons_zero, List.set_cons_succ]
  refine takeL (i := 1) (v := ?_) rfl (by kernel_rfl) (by kernel_rfl) (by kernel_rfl) (by kernel_rfl) (by kernel_rfl) (fun _ _ _ h => h) (Or.inl ⟨by rfl, ?_⟩) (by assumption) ?_
  rotate_left
  · (intro w' hSw; (try dsimp only at hSw); go_simp; with_reducible rfl)
  try simp only [Act.put, List.setIfInBounds_toArray, List.set_cons_zero, List.set_cons_succ]
  refine takeL (i := 2) (v := ?_) rfl (by kernel_rfl) (by kernel_rfl) (by kernel_rfl) (by kernel_rfl) (by kernel_rfl) (fun _ _ _ h => h) (Or.inl ⟨by rfl, ?_⟩) (by assumption) ?_
  rotate_left
  · (intro w' hSw; (try dsimp only at hSw); go_simp; with_reducible rfl)
  try simp only [Act.put, List.setIfInBounds_toArray, List.set_cons_zero, List.set_cons_succ]
  refine takeL (i := 3) (v := ?_) rfl (by kernel_rfl) (by kernel_rfl) (by kernel_rfl) (by kernel_rfl) (by kernel_rfl) (fun _ _ _ h => h) (Or.inl ⟨by rfl, ?_⟩) (by assumption) ?_
  rotate_left
  · (intro w' hSw; (try dsimp only at hSw); go_simp; with_reducible rfl)
  try simp only [Act.put, List.setIfInBounds_toArray, List.set_cons_zero, List.set_cons_succ]
  refine takeL (i := 4) (v := ?_) rfl (by kernel_rfl) (by kernel_rfl) (by kernel_rfl) (by kernel_rfl) (by kernel_rfl) (fun _ _ _ h => h) (Or.inl ⟨by rfl, ?_⟩) (by assumption) ?_
  rotate_left
  · (intro w' hSw; (try dsimp only at hSw); go_simp; with_reducible rfl)
  try simp only [Act.put, List.setIfInBounds_toArray, List.set_cons_zero, List.set_cons_succ]
  refine oneL (i := 5) (by kernel_rfl) rfl (fun K hK => ?_)
  go_simp
  refine SP.out.mono ?_
  rintro e w2 ⟨rfl, F1, hq, ht, hf⟩
  have Q2 := Lib.hid hq
  have T2 := Lib.hid (show Turn F0 w1 w2 from ((Turn.refl _ w1).drew).trans ht (fun i hi => .inl hi))
  have G2 := Lib.hid (show ∀ k, F1 k → F0 k ∨ w1.heap.size ≤ k from hf)
  clear hq ht hf SP hS d0 e0 e1 e2
  refine hK.out _ _ (fun h => absurd h (by decide)) ?_
  clear hK K
  try simp only [Act.put]
  refine laterT 11 _ _ _ _ (by kernel_rfl) ?_
  have hS : (fun _ : World => True) w2 := trivial
  refine takeL (i := 6) (v := ?_) rfl (by kernel_rfl) (by kernel_rfl) (by kernel_rfl) (by kernel_rfl) (by kernel_rfl) (fun _ _ _ h => h) (Or.inl ⟨by rfl, ?_⟩) (by assumption) ?_
  rotate_left
  · (intro w' hSw; (try dsimp only at hSw); go_simp; with_reducible rfl)
  try simp only [Act.put, List.setIfInBounds_toArray, List.set_cons_zero, List.set_cons_succ]
  refine takeL (i := 7) (v := ?_) rfl (by kernel_rfl) (by kernel_rfl) (by kernel_rfl) (by kernel_rfl) (by kernel_rfl) (fun _ _ _ h => h) (Or.inl ⟨by rfl, ?_⟩) (by assumption) ?_
  rotate_left
  · (intro w' hSw; (try dsimp only at hSw); go_simp; with_reducible rfl)
  try simp only [Act.put, List.setIfInBounds_toArray, List.set_cons_zero, List.set_cons_succ]
  refine takeL (i := 8) (v := ?_) rfl (by kernel_rfl) (by kernel_rfl) (by kernel_rfl) (by kernel_rfl) (by kernel_rfl) (fun _ _ _ h => h) (Or.inl ⟨by rfl, ?_⟩) (by assumption) ?_
  rotate_left
  · (intro w' hSw; (try dsimp only at hSw); go_simp; with_reducible rfl)
  try simp only [Act.put, List.setIfInBounds_toArray, List.set_cons_zero, List.set_cons_succ]
  refine takeL (i := 9) (v := ?_) rfl (by kernel_rfl) (by kernel_rfl) (by kernel_rfl) (by kernel_rfl) (by kernel_rfl) (fun _ _ _ h => h) (Or.inl ⟨by rfl, ?_⟩) (by assumption) ?_
  rotate_left
  · (intro w' hSw; (try dsimp only at hSw); go_simp; with_reducible rfl)
  try simp only [Act.put, List.setIfInBounds_toArray, List.set_cons_zero, List.set_cons_succ]
  refine takeL (i := 10) (v := ?_) rfl (by kernel_rfl) (by kernel_rfl) (by kernel_rfl) (by kernel_rfl) (by kernel_rfl) (fun _ _ _ h => h) (Or.inl ⟨by rfl, ?_⟩) (by assumption) ?_
  rotate_left
  · (intro w' hSw; (try dsimp only at hSw); go_simp; with_reducible rfl)
  try simp only [Act.put, List.setIfInBounds_toArray, List.set_cons_zero, List.set_cons_succ]
  refine doneO (by kernel_rfl) ?_ _
  have TB := Lib.hid (show Turn (Own3 h F0 v) w w2 from (Turn.of_below (S := Own3 h F0 v) B0.out).trans T2.out (fun i hi => .inl (.inr (.inl hi))))
  have X2 := Lib.hid (X0.out.turn T2.out (fun hf => FO.out _ (.inl hf) rfl))
  have NH := Lib.hid (show ∀ k, F1 k → k ≠ h ∧ v.ownBlock ≠ some k from fun k hk => by
    rcases G2.out k hk with h1 | h1
    · exact ⟨fun e => HP.out.out (e ▸ h1), fun e => (HP.out.far k e).2 h1⟩
    · have := B0.out.size
      refine ⟨fun e => ?_, fun e => ?_⟩
      · have := HL.out
        omega
      · have := (HW.out k (.inr (.inr e))).2
        omega)
  have FG := Lib.hid (show ∀ (v' : Value), (∀ k, v'.ownBlock = some k → v.ownBlock = some k) → ∀ k, Own3 h F1 v' k → Own3 h F0 v k ∨ w.heap.size ≤ k from fun v' hv k hk => by
    rcases hk with h1 | h1 | h1
    · exact .inl (.inl h1)
    · rcases G2.out k h1 with h2 | h2
      · exact .inl (.inr (.inl h2))
      · exact .inr (Nat.le_trans B0.out.size h2)
    · exact .inl (.inr (.inr (hv k h1))))
  cases ch with
  | false =>
    have ES := PM.out rfl
    subst ES
    go_wp2
    go_ret2
    refine ⟨rfl, Own3 h F1 v, ⟨h0, F1, v, P, kn, ⟨HP.out.low, HP.out.box.turn T2.out HP.out.out, Q2.out, own_turn HP.out.row T2.out (fun k hk => (HP.out.far k hk).2), fun hf => (NH.out _ hf).1 rfl, fun k hk => ⟨(HP.out.far k hk).1, fun hf => (NH.out _ hf).2 hk⟩, HP.out.rk⟩, rfl⟩, TB.out, FG.out v (fun _ h => h)⟩
  | true =>
    have RR := PS.out rfl
    have RM := RI.out RR
    have x0 : w2.cell? ⟨w.heap.size, 0, none⟩ = some (.int .i64 m) := X2.out.cell 0
    have FA := Lib.hid (forget_any B h h0 F1 v P kn wo ga li S S' m w2 ⟨HP.out.low, HP.out.box.turn T2.out HP.out.out, Q2.out, own_turn HP.out.row T2.out (fun k hk => (HP.out.far k hk).2), fun hf => (NH.out _ hf).1 rfl, fun k hk => ⟨(HP.out.far k hk).1, fun hf => (NH.out _ hf).2 hk⟩, HP.out.rk⟩ (PE.out RR) RM.1 (by omega))
    clear RR RM
    go_wp2_with fail
    refine FA.out.mono ?_
    rintro e w3 ⟨⟨u, rfl⟩, v', P', kn', hi, ht, hv⟩
    have I3 := Lib.hid hi
    have T3 := Lib.hid (TB.out.trans ht (fun i hi => .inl (.inl hi)))
    have V3 := Lib.hid hv
    clear hi ht hv FA x0
    go_wp2
    go_ret2
    exact ⟨rfl, Own3 h F1 v', ⟨h0, F1, v', P', kn', I3.out, rfl⟩, T3.out, FG.out v' V3.out⟩
end Ex
end Go.Proofs.Ytehiclmkdpcplaa

namespace Go.Proofs.Ytehiclmkdpcplaa
open Go.RowKit Go.Maps Se

namespace Lg
/-- A goal at which a walk stops. -/
def Stay (p : Prop) : Prop := p
theorem stay {p : Prop} (h : p) : Stay p := h
theorem unstay {p : Prop} (h : Stay p) : p := h
theorem ranges_turn {w w' : World} {b r n : Nat} {D : DataW Unit} {left : Lit → Bool} {cnt : Nat} {T : Nat → Prop} (h : w.ranges Try.prog 3 (Ms.rdF Qf) b r n D left cnt) (ht : Turn T w w') (hb : ¬ T b) (hr : ¬ T r) : w'.ranges Try.prog 3 (Ms.rdF Qf) b r n D left cnt := by
  have h1 := h.owns.lt
  have h2 := h.lt
  obtain ⟨es, clock, since, seen, c0, hb', F, hs, hD, hr', rest⟩ := h
  exact ⟨es, clock, since, seen, c0, (ht.block b h1 hb).trans hb', F, hs, hD, (ht.block r h2 hr).trans hr', rest⟩
section
variable (J : Se.Face) (I : Ex.Face)
/-- A zone in memory, whose indexes have each their own readings. -/
structure PM (W : World) (B : Nat) (y : Pz) (st : Int → List Rd) : Prop where
  base : B ≤ y.q ∧ B ≤ y.ab
  blk : Lies W y.q 72 #[.int .i64 y.z.wo, .int .i64 y.z.ga, .pointer (some ⟨y.a, 0, none⟩), .map (some y.m)]
  air : J.PS W y.ab y.a y.A y.z.wo y.z.ga y.z.S
  tab : Tq W B (some y.m) (y.X.map ikq)
  idx : XS I W B y.z.wo y.z.ga y.X st
  aq : ∀ k, y.A k → k ≠ y.q ∧ k ≠ y.m
  xq : ∀ x ∈ y.X, ∀ k, x.F k → k ≠ y.q ∧ k ≠ y.m ∧ ¬ y.A k
variable {J I}
theorem PM.pz {W : World} {B : Nat} {y : Pz} {st : Int → List Rd} (h : PM J I W B y st) (e : ∀ x ∈ y.X, st x.lim = y.z.S) : PZ J I W B y := ⟨h.base, h.blk, h.air, h.tab, h.idx.cong (fun x hx => (e x hx).symm), h.aq, h.xq⟩
theorem PZ.pm {W : World} {B : Nat} {y : Pz} (h : PZ J I W B y) : PM J I W B y (fun _ => y.z.S) := ⟨h.base, h.blk, h.air, h.tab, h.idx, h.aq, h.xq⟩
theorem PM.foot {W : World} {B : Nat} {y : Pz} {st : Int → List Rd} (h : PM J I W B y st) {k : Nat} (hk : ZF y k) : B ≤ k ∧ k < W.heap.size := by
  rcases hk with rfl | rfl | hk | ⟨x, hx, hk⟩
  · exact ⟨h.base.1, h.blk.lt⟩
  · exact tq_lt h.tab rfl
  · have := J.foot h.air hk
    have := h.base.2
    omega
  · exact h.idx.foot hx hk
theorem PM.turn {W W' : World} {B : Nat} {y : Pz} {st : Int → List Rd} {T : Nat → Prop} (h : PM J I W B y st) (ht : Turn T W W') (hf : ∀ k, ZF y k → ¬ T k) : PM J I W' B y st :=
  ⟨h.base, h.blk.turn ht (hf _ (.inl rfl)), J.turn h.air ht (fun k hk => hf k (.inr (.inr (.inl hk)))), tq_turn h.tab ht (fun k hk => hf k (.inr (.inl (Option.some.inj hk).symm))),
    h.idx.turn ht (fun x hx k hk => hf k (.inr (.inr (.inr ⟨x, hx, hk⟩)))), h.aq, h.xq⟩
/-- A zone with other readings of its series. -/
def airPz (y : Pz) (A' : Nat → Prop) (S' : List Rd) : Pz := { y with z := { y.z with S := S' }, A := A' }
/-- Its series has turned. -/
theorem pz_air {w w' : World} {B : Nat} {y : Pz} {A' : Nat → Prop} {S' : List Rd} (h : PZ J I w B y) (ha : J.PS w' y.ab y.a A' y.z.wo y.z.ga S') (ht : Turn y.A w w') (hA : ∀ k, A' k → y.A k ∨ w.heap.size ≤ k) :
    PM J I w' B (airPz y A' S') (fun _ => y.z.S) ∧ Turn (ZF y) w w' ∧ ∀ k, ZF (airPz y A' S') k → ZF y k ∨ w.heap.size ≤ k := by
  have h1 := h.blk.lt
  have h2 := (tq_lt h.tab rfl).2
  refine ⟨⟨h.base, h.blk.turn ht (fun hh => (h.aq _ hh).1 rfl), ha, tq_turn h.tab ht (fun k hk hh => (h.aq _ hh).2 (Option.some.inj hk).symm), h.idx.turn ht (fun x hx k hk hh => (h.xq x hx k hk).2.2 hh), fun k hk => ?_, fun x hx k hk => ?_⟩,
    ht.mono (fun k _ hk => .inr (.inr (.inl hk))), fun k hk => ?_⟩
  · rcases hA k hk with hk | hk
    · exact h.aq k hk
    · exact ⟨by show k ≠ y.q; omega, by show k ≠ y.m; omega⟩
  · have g := h.xq x hx k hk
    refine ⟨g.1, g.2.1, fun hh => ?_⟩
    rcases hA k hh with hh | hh
    · exact g.2.2 hh
    · have := (h.idx.foot hx hk).2
      omega
  · rcases hk with hk | hk | hk | hk
    · exact .inl (.inl hk)
    · exact .inl (.inr (.inl hk))
    · exact (hA k hk).imp (fun hk => .inr (.inr (.inl hk))) id
    · exact .inl (.inr (.inr (.inr hk)))
variable (J I)
/-- What of a range over indexes is done. -/
structure MidX (w2 W : World) (B : Nat) (y : Pz) (S : List Rd) (left : Lit → Bool) (X' : List Ik) : Prop where
  keys : X'.map ikq = y.X.map ikq
  here : PM J I W B { y with X := X' } (fun l => if left (.int .i64 l) = true then S else y.z.S)
  turn : Turn (ZF y) w2 W
  foot : ∀ k, ZF { y with X := X' } k → ZF y k ∨ w2.heap.size < k
  old : ∀ k, ZF y k → k < w2.heap.size
  big : w2.heap.size < W.heap.size
variable {J I}
theorem midx_start {w2 W : World} {B : Nat} {y : Pz} {S : List Rd} {left : Lit → Bool} (h : PM J I w2 B y (fun _ => S)) (hg : w2.grownBy W none) (hW : W.heap.size = w2.heap.size + 1) (hl : ∀ x ∈ y.X, left (.int .i64 x.lim) = true) : MidX J I w2 W B y S left y.X := by
  have hT : Turn (fun _ => False) w2 W := (Turn.refl _ w2).grown hg (fun k hk => by cases hk)
  have h' := h.turn hT (fun _ _ hf => hf)
  exact ⟨rfl, ⟨h'.base, h'.blk, h'.air, h'.tab, h'.idx.cong (fun x hx => by rw [if_pos (hl x hx)]), h'.aq, h'.xq⟩, hT.mono (fun _ _ hf => hf.elim), fun _ hk => .inl hk, fun k hk => (h.foot hk).2, by omega⟩
/-- The iterator goes on. -/
theorem midx_step {w2 W W' : World} {B : Nat} {y : Pz} {S : List Rd} {left : Lit → Bool} {X' : List Ik} (h : MidX J I w2 W B y S left X') (hg : W.grownBy W' (some w2.heap.size)) : MidX J I w2 W' B y S left X' := by
  have hT : Turn (fun k => k = w2.heap.size) W W' := (Turn.refl _ W).grown hg (fun k hk => .inl (Option.some.inj hk).symm)
  have hs := hT.size
  refine ⟨h.keys, h.here.turn hT (fun k hk e => ?_), h.turn.trans hT (fun i hi => .inr (by omega)), h.foot, h.old, by have := h.big; omega⟩
  rcases h.foot k hk with hk | hk
  · have := h.old k hk
    omega
  · omega
/-- An index has turned. -/
theorem midx_one {w2 W W' : World} {B : Nat} {y : Pz} {S : List Rd} {left : Lit → Bool} {X' : List Ik} (h : MidX J I w2 W B y S left X') {i : Nat} {x : Ik} (hi : X'[i]? = some x) {F' : Nat → Prop} (hn : I.IX W' x.b x.x F' y.z.wo y.z.ga x.lim y.z.S) (ht : Turn x.F W W')
    (hF : ∀ k, F' k → x.F k ∨ W.heap.size ≤ k) : MidX J I w2 W' B y S (fun z => left z && !z.sameKey (.int .i64 x.lim)) (X'.set i { x with F := F' }) := by
  have hm := List.mem_of_getElem? hi
  have hl := (List.getElem?_eq_some_iff.1 hi).1
  have hb := h.big
  have hs := ht.size
  have hx := h.here.xq x hm
  have hlt := h.here.blk.lt
  have hmt := (tq_lt h.here.tab rfl).2
  simp only at hx hlt hmt
  have hone := h.here.idx.one hi (show I.IX W' x.b x.x F' y.z.wo y.z.ga x.lim y.z.S from hn) ht hF
  refine ⟨?_, ⟨h.here.base, h.here.blk.turn ht (fun hh => (hx _ hh).1 rfl), J.turn h.here.air ht (fun k hk hh => (hx k hh).2.2 hk), ?_, ?_, h.here.aq, fun z hz k hk => ?_⟩, h.turn.trans ht (fun k hk => ?_), fun k hk => ?_, h.old, by omega⟩
  · rw [List.map_set, ← h.keys]
    refine set_same ?_
    rw [List.getElem?_map, hi]
    rfl
  · have e : (X'.set i { x with F := F' }).map ikq = X'.map ikq := by
      rw [List.map_set]
      refine set_same ?_
      rw [List.getElem?_map, hi]
      rfl
    show Tq W' B (some y.m) ((X'.set i { x with F := F' }).map ikq)
    rw [e]
    exact tq_turn h.here.tab ht (fun k hk hh => (hx k hh).2.1 (Option.some.inj hk).symm)
  · refine hone.cong (fun z hz => ?_)
    by_cases e : z.lim = x.lim
    · rw [if_pos e, e, strike_self]
      rfl
    · rw [if_neg e, strike_other e]
  · rcases mem_set_at hl hz with rfl | ⟨j, hj, hz2⟩
    · rcases hF k hk with hk | hk
      · exact hx k hk
      · refine ⟨by show k ≠ y.q; omega, by show k ≠ y.m; omega, fun hh => ?_⟩
        have := (J.foot h.here.air hh).2
        omega
    · exact h.here.xq z (List.mem_of_getElem? hz2) k hk
  · rcases h.foot k (.inr (.inr (.inr ⟨x, hm, hk⟩))) with hk | hk
    · exact .inl hk
    · exact .inr (by omega)
  · rcases hk with hk | hk | hk | ⟨z, hz, hk⟩
    · exact .inl (.inl hk)
    · exact .inl (.inr (.inl hk))
    · exact .inl (.inr (.inr (.inl hk)))
    · rcases mem_set_at hl hz with rfl | ⟨j, hj, hz2⟩
      · rcases hF k hk with hk | hk
        · exact h.foot k (.inr (.inr (.inr ⟨x, hm, hk⟩)))
        · exact .inr (by omega)
      · exact h.foot k (.inr (.inr (.inr ⟨z, List.mem_of_getElem? hz2, hk⟩)))
theorem midx_end {w2 W : World} {B : Nat} {y : Pz} {S : List Rd} {left : Lit → Bool} {X' : List Ik} (h : MidX J I w2 W B y S left X') (hl : ∀ k, left k = false) : PZ J I W B { y with X := X' } :=
  h.here.pz (fun x _ => by
    rw [hl]
    rfl)
/-- What came is one of the indexes. -/
theorem midx_here {w2 W : World} {B : Nat} {y : Pz} {S : List Rd} {left : Lit → Bool} {X' : List Ik} (h : MidX J I w2 W B y S left X') {D : DataW Unit} (hM : Mq D (y.X.map ikq)) {km : Int} {x : Option Nat} (hat : ∀ zd, D.atKey (.int .i64 km) zd = qdat x) :
    ∃ (i : Nat) (x' : Ik), X'[i]? = some x' ∧ x'.lim = km ∧ x = some x'.x := by
  obtain ⟨k, hk, e1, e2⟩ := here_q hM hat
  rw [← h.keys] at hk
  obtain ⟨x', hx', rfl⟩ := List.mem_map.1 hk
  obtain ⟨i, hi⟩ := List.mem_iff_getElem?.1 hx'
  exact ⟨i, x', hi, e1, e2⟩
end
end Lg
end Go.Proofs.Ytehiclmkdpcplaa

namespace Go.Proofs.Ytehiclmkdpcplaa
open Go.RowKit Go.Maps Se

namespace Lg
/-- What a zone's put tells, and leaves. -/
def ZPut (J : Se.Face) (I : Ex.Face) (w : World) (B : Nat) (y : Pz) (r : Rd) (e : Ending) (w' : World) : Prop :=
  e = .returned (.tuple #[.bool (putR y.z.S r).1, .int .i64 ((putR y.z.S r).2.1 : Nat)]) ∧ ∃ y', ZLeft J I w B y { y.z with S := sortL (putR y.z.S r).2.2 } y' w'
/-- What of a reading is put. -/
structure Was (S S' : List Rd) (ch : Bool) (en : Nat) : Prop where
  same : ch = false → S' = S
  none : ch = true → en = 0
theorem was_any {S : List Rd} (hs : Sorted S) (r : Rd) : Was S (sortL (putR S r).2.2) (putR S r).1 (putR S r).2.1 :=
  ⟨fun h => Ex.put_same hs h, fun h => by
    have h1 := Ex.putR_right h
    unfold putR
    rw [if_pos h1]⟩
theorem zp_no {J : Se.Face} {I : Ex.Face} {w w1 w2 : World} {B : Nat} {y : Pz} {A' : Nat → Prop} (hp : PZ J I w B y) (h1 : Below w.heap.size w w1) (ha : J.PS w2 y.ab y.a A' y.z.wo y.z.ga y.z.S) (ht : Turn y.A w1 w2) (hA : ∀ k, A' k → y.A k ∨ w1.heap.size ≤ k) :
    ∃ y', ZLeft J I w B y y.z y' w2 := by
  have hs := h1.size
  obtain ⟨g1, g2, g3⟩ := pz_air hp ha ((Turn.of_below (S := y.A) h1).trans ht (fun i hi => .inl hi)) (fun k hk => (hA k hk).imp id (fun h => by omega))
  exact ⟨airPz y A' y.z.S, rfl, rfl, g1.pz (fun _ _ => rfl), g2, g3⟩
/-- What the range over indexes leaves. -/
theorem zp_yes {J : Se.Face} {I : Ex.Face} {w w1 w2 w4 : World} {B : Nat} {y : Pz} {A' : Nat → Prop} {S' : List Rd} {left : Lit → Bool} {X' : List Ik} (hp : PZ J I w B y) (h1 : Below w.heap.size w w1) (ha : J.PS w2 y.ab y.a A' y.z.wo y.z.ga S') (ht : Turn y.A w1 w2) (hA : ∀ k, A' k → y.A k ∨ w1.heap.size ≤ k)
    (hM : MidX J I w2 w4 B (airPz y A' S') y.z.S left X') (hl : ∀ k, left k = false) : ∃ y', ZLeft J I w B y { y.z with S := S' } y' w4 := by
  have hs := h1.size
  have hs2 := ht.size
  obtain ⟨_, g2, g3⟩ := pz_air hp ha ((Turn.of_below (S := y.A) h1).trans ht (fun i hi => .inl hi)) (fun k hk => (hA k hk).imp id (fun h => by omega))
  refine ⟨{ airPz y A' S' with X := X' }, rfl, rfl, midx_end hM hl, g2.trans hM.turn g3, fun k hk => ?_⟩
  rcases hM.foot k hk with hk | hk
  · exact g3 k hk
  · exact .inr (by omega)
theorem zp_mid {J : Se.Face} {I : Ex.Face} {w w1 w2 : World} {B : Nat} {y : Pz} {A' : Nat → Prop} {S' : List Rd} (hp : PZ J I w B y) (h1 : Below w.heap.size w w1) (ha : J.PS w2 y.ab y.a A' y.z.wo y.z.ga S') (ht : Turn y.A w1 w2) (hA : ∀ k, A' k → y.A k ∨ w1.heap.size ≤ k) :
    PM J I w2 B (airPz y A' S') (fun _ => y.z.S) := by
  have hs := h1.size
  exact (pz_air hp ha ((Turn.of_below (S := y.A) h1).trans ht (fun i hi => .inl hi)) (fun k hk => (hA k hk).imp id (fun h => by omega))).1
set_option maxRecDepth 100000 in
set_option maxHeartbeats 4000000 in
theorem zput_any (J : Se.Face) (I : Ex.Face) (B : Nat) (y : Pz) (r : Rd) (w : World) (hp : PZ J I w B y) (g : GoodZ y.z 1000) :
    Calls Try.prog 22 #[.pointer (some ⟨y.q, 0, none⟩), rval r] w (ZPut J I w B y r) := by
  have WA := Lib.hid (was_any g.sorted r)
  have B0 := Lib.hid (alloc_below w (.cells #[.int .i64 r.min, .int .i64 r.seq, .int .i64 r.ten] 37))
  have X0 := Lib.hid (Lies.new w 37 #[.int .i64 r.min, .int .i64 r.seq, .int .i64 r.ten])
  obtain ⟨w1, hw1⟩ : ∃ w1, w.alloc (.cells #[.int .i64 r.min, .int .i64 r.seq, .int .i64 r.ten] 37) = w1 := ⟨_, rfl⟩
  rw [hw1] at B0 X0
  have HP := Lib.hid (hp.keep B0.out)
  have HP0 := Lib.hid hp
  have SP := Lib.hid (J.put y.ab y.a y.A y.z.wo y.z.ga y.z.S r w1.drew (J.turn HP.out.air (T := fun _ => False) ((Turn.refl _ w1).drew) (fun _ _ hf => hf)) g.sorted g.right g.len)
  have IP := Lib.hid (fun (x : Ik) (W : World) (hx : tenB x.lim = true) (hI : I.IX W x.b x.x x.F y.z.wo y.z.ga x.lim y.z.S) => I.put x.b x.x x.F y.z.wo y.z.ga x.lim y.z.S r W hI g.sorted g.right g.may hx g.len)
  have HNW := Lib.hid (show ∀ k, ZF y k → k ≠ w.heap.size from fun k hk e => by have := (hp.foot hk).2; omega)
  have d0 : w1.drew.cell? ⟨y.q, 2, none⟩ = some (.pointer (some ⟨y.a, 0, none⟩)) := HP.out.blk.cell 2
  have e0 : w1.drew.cell? ⟨w.heap.size, 0, none⟩ = some (.int .i64 r.min) := X0.out.cell 0
  have e1 : w1.drew.cell? ⟨w.heap.size, 1, none⟩ = some (.int .i64 r.seq) := X0.out.cell 1
  have e2 : w1.drew.cell? ⟨w.heap.size, 2, none⟩ = some (.int .i64 r.ten) := X0.out.cell 2
  unfold ZPut
  generalize sortL (putR y.z.S r).2.2 = S' at *
  generalize (putR y.z.S r).2.1 = en at *
  generalize (putR y.z.S r).1 = ch at *
  obtain ⟨m, s, t⟩ := r
  unfold rval at SP IP ⊢
  simp only at SP IP e0 e1 e2 X0 hw1 ⊢
  clear hp g
  go_enter Try.func22, Try.ntmps22
  go_wp2_with fail
  clear hw1
  refine region_T 5 (fun w' => w'.cell? ⟨y.q, 2, none⟩ = some (.pointer (some ⟨y.a, 0, none⟩)) ∧ w'.cell? ⟨w.heap.size, 0, none⟩ = some (.int .i64 m) ∧ w'.cell? ⟨w.heap.size, 1, none⟩ = some (.int .i64 s) ∧ w'.cell? ⟨w.heap.size, 2, none⟩ = some (.int .i64 t)) (by kernel_rfl) ⟨d0, e0, e1, e2⟩ (fun hS => ?_)
  refine takeL (i := 0) (v := ?_) rfl (by kernel_rfl) (by kernel_rfl) (by kernel_rfl) (by kernel_rfl) (by kernel_rfl) (fun _ _ _ h => h) (Or.inl ⟨by rfl, ?_⟩) (by assumption) ?_
  rotate_left
  · (intro w' hSw; (try dsimp only at hSw); go_simp; with_reducible rfl)
  try simp only [Act.put, List.setIfInBounds_toArray, List.set_cons_zero, List.set_cons_succ]
  refine takeL (i := 1) (v := ?_) rfl (by kernel_rfl) (by kernel_rfl) (by kernel_rfl) (by kernel_rfl) (by kernel_rfl) (fun _ _ _ h => h) (Or.inl ⟨by rfl, ?_⟩) (by assumption) ?_
  rotate_left
  · (intro w' hSw; (try dsimp only at hSw); go_simp; with_reducible rfl)
  try simp only [Act.put, List.setIfInBounds_toArray, List.set_cons_zero, List.set_cons_succ]
  refine takeL (i := 2) (v := ?_) rfl (by kernel_rfl) (by kernel_rfl) (by kernel_rfl) (by kernel_rfl) (by kernel_rfl) (fun _ _ _ h => h) (Or.inl ⟨by rfl, ?_⟩) (by assumption) ?_
  rotate_left
  · (intro w' hSw; (try dsimp only at hSw); go_simp; with_reducible rfl)
  try simp only [Act.put, List.setIfInBounds_toArray, List.set_cons_zero, List.set_cons_succ]
  refine takeL (i := 3) (v := ?_) rfl (by kernel_rfl) (by kernel_rfl) (by kernel_rfl) (by kernel_rfl) (by kernel_rfl) (fun _ _ _ h => h) (Or.inl ⟨by rfl, ?_⟩) (by assumption) ?_
  rotate_left
  · (intro w' hSw; (try dsimp only at hSw); go_simp; with_reducible rfl)
  try simp only [Act.put, List.setIfInBounds_toArray, List.set_cons_zero, List.set_cons_succ]
  refine takeL (i := 4) (v := ?_) rfl (by kernel_rfl) (by kernel_rfl) (by kernel_rfl) (by kernel_rfl) (by kernel_rfl) (fun _ _ _ h => h) (Or.inl ⟨by rfl, ?_⟩) (by assumption) ?_
  rotate_left
  · (intro w' hSw; (try dsimp only at hSw); go_simp; with_reducible rfl)
  try simp only [Act.put, List.setIfInBounds_toArray, List.set_cons_zero, List.set_cons_succ]
  refine oneL (i := 5) (by kernel_rfl) rfl (fun K hK => ?_)
  go_simp
  refine SP.out.mono ?_
  rintro e w2 ⟨rfl, A2, hq, ht, hf⟩
  have Q2 := Lib.hid hq
  have T2 := Lib.hid (show Turn y.A w1 w2 from ((Turn.refl _ w1).drew).trans ht (fun i hi => .inl hi))
  have G2 := Lib.hid (show ∀ k, A2 k → y.A k ∨ w1.heap.size ≤ k from hf)
  clear hq ht hf SP hS d0 e0 e1 e2
  refine hK.out _ _ (fun h => absurd h (by decide)) ?_
  clear hK K
  try simp only [Act.put]
  refine laterT 11 _ _ _ _ (by kernel_rfl) ?_
  have hS : (fun _ : World => True) w2 := trivial
  refine takeL (i := 6) (v := ?_) rfl (by kernel_rfl) (by kernel_rfl) (by kernel_rfl) (by kernel_rfl) (by kernel_rfl) (fun _ _ _ h => h) (Or.inl ⟨by rfl, ?_⟩) (by assumption) ?_
  rotate_left
  · (intro w' hSw; (try dsimp only at hSw); go_simp; with_reducible rfl)
  try simp only [Act.put, List.setIfInBounds_toArray, List.set_cons_zero, List.set_cons_succ]
  refine takeL (i := 7) (v := ?_) rfl (by kernel_rfl) (by kernel_rfl) (by kernel_rfl) (by kernel_rfl) (by kernel_rfl) (fun _ _ _ h => h) (Or.inl ⟨by rfl, ?_⟩) (by assumption) ?_
  rotate_left
  · (intro w' hSw; (try dsimp only at hSw); go_simp; with_reducible rfl)
  try simp only [Act.put, List.setIfInBounds_toArray, List.set_cons_zero, List.set_cons_succ]
  refine takeL (i := 8) (v := ?_) rfl (by kernel_rfl) (by kernel_rfl) (by kernel_rfl) (by kernel_rfl) (by kernel_rfl) (fun _ _ _ h => h) (Or.inl ⟨by rfl, ?_⟩) (by assumption) ?_
  rotate_left
  · (intro w' hSw; (try dsimp only at hSw); go_simp; with_reducible rfl)
  try simp only [Act.put, List.setIfInBounds_toArray, List.set_cons_zero, List.set_cons_succ]
  refine takeL (i := 9) (v := ?_) rfl (by kernel_rfl) (by kernel_rfl) (by kernel_rfl) (by kernel_rfl) (by kernel_rfl) (fun _ _ _ h => h) (Or.inl ⟨by rfl, ?_⟩) (by assumption) ?_
  rotate_left
  · (intro w' hSw; (try dsimp only at hSw); go_simp; with_reducible rfl)
  try simp only [Act.put, List.setIfInBounds_toArray, List.set_cons_zero, List.set_cons_succ]
  refine takeL (i := 10) (v := ?_) rfl (by kernel_rfl) (by kernel_rfl) (by kernel_rfl) (by kernel_rfl) (by kernel_rfl) (fun _ _ _ h => h) (Or.inl ⟨by rfl, ?_⟩) (by assumption) ?_
  rotate_left
  · (intro w' hSw; (try dsimp only at hSw); go_simp; with_reducible rfl)
  try simp only [Act.put, List.setIfInBounds_toArray, List.set_cons_zero, List.set_cons_succ]
  refine doneO (by kernel_rfl) ?_ _
  clear hS
  cases ch with
  | false =>
    obtain rfl := WA.out.same rfl
    have RZ := Lib.hid (zp_no HP0.out B0.out Q2.out T2.out G2.out)
    go_wp2
    go_ret2
    exact ⟨rfl, RZ.out⟩
  | true =>
    obtain rfl := WA.out.none rfl
    rw [show ((0 : Nat) : Int) = 0 from rfl]
    have X2 := Lib.hid (X0.out.turn T2.out (fun hf => HNW.out _ (.inr (.inr (.inl hf))) rfl))
    have M2 := Lib.hid (zp_mid HP0.out B0.out Q2.out T2.out G2.out)
    have FN := Lib.hid (show ∀ k, ZF (airPz y A2 S') k → k ≠ w.heap.size from fun k hk => by
      have hs := B0.out.size
      have hx := X0.out.lt
      rcases hk with hk | hk | hk | hk
      · exact HNW.out k (.inl hk)
      · exact HNW.out k (.inr (.inl hk))
      · rcases G2.out k hk with h1 | h1
        · exact HNW.out k (.inr (.inr (.inl h1)))
        · omega
      · exact HNW.out k (.inr (.inr (.inr hk))))
    have X2L := Lib.hid X2.out.lt
    obtain ⟨b, D, hbm, hown, hMq⟩ : ∃ b D, y.m = b ∧ w2.ownsMap Try.prog 3 (Ms.rdF Qf) b ((airPz y A2 S').X.map ikq).length D ∧ Mq D (y.X.map ikq) := by
      rcases M2.out.tab with ⟨h1, _⟩ | ⟨b, D, h1, _, h2, h3⟩
      · cases h1
      · exact ⟨b, D, Option.some.inj h1, h2, h3⟩
    have l3 : w2.cell? ⟨y.q, 3, none⟩ = some (.map (some b)) := by
      have := M2.out.blk.cell 3
      rw [← hbm]
      exact this
    have HBM := Lib.hid hbm
    have HOW := Lib.hid hown
    have HMq := Lib.hid hMq
    generalize ((airPz y A2 S').X.map ikq).length = N at *
    clear hown hMq hbm WA
    go_wp2_with (at_range; refine wpList_range_own _ rfl _ 70 rfl 3 84 Ms.lawI Try.underlying70 _ b N D rfl HOW.out ?_; intro w3 hrg3 hg3 hs3)
    go_frame
    clear l3
    have RG3 := Lib.hid hrg3
    have MM := Lib.hid (midx_start (S := y.z.S) (left := Maps.has D) M2.out hg3 hs3 (fun x hx => Maps.has_true_of_atKey (HMq.out.each (ikq x) (List.mem_map.2 ⟨x, hx, rfl⟩))))
    clear hrg3 hg3 hs3
    go_loopw [9] (fun _ wr => ∃ (left : Lit → Bool) (cnt : Nat) (X' : List Ik), Hid (wr.ranges Try.prog 3 (Ms.rdF Qf) b w2.heap.size N D left cnt) ∧ Hid (MidX J I w2 wr B (airPz y A2 S') y.z.S left X')) (fun _ wr => wr.rangeLeft b w2.heap.size)
    case atStart => exact ⟨_, _, _, RG3, MM⟩
    case round =>
      obtain ⟨left, cnt, X', RG, MW⟩ := hrel
      clear RG3 MM
      go_wp2_with (at_next; refine next_q _ rfl _ rfl b w2.heap.size N D left cnt rfl RG.out (fun hl0 => unstay ?_) (fun km x w4 cnt4 hst hen => unstay ?_))
      · refine stay ?_
        have RZ := Lib.hid (zp_yes HP0.out B0.out Q2.out T2.out G2.out MW.out hl0.out)
        clear hl0
        go_wp2
        go_ret2
        exact ⟨rfl, RZ.out⟩
      · obtain ⟨i, x', hi, hkm, hx⟩ := midx_here MW.out HMq.out hst.at_
        subst hkm
        subst hx
        have M4 := Lib.hid (midx_step MW.out hst.grown)
        have RG4 := Lib.hid hst.goes
        have HLs := Lib.hid hst.less
        have HWas := Lib.hid hst.was
        have HI := Lib.hid hi
        have ME := Lib.hid (M4.out.here.idx.each x' (List.mem_of_getElem? hi))
        have IX4 := Lib.hid (show I.IX w4 x'.b x'.x x'.F y.z.wo y.z.ga x'.lim y.z.S from by
          have h := ME.out.2.2
          simp only [HWas.out, if_true] at h
          exact h)
        have CP := Lib.hid (IP.out x' w4 ME.out.1 IX4.out)
        have X4 := Lib.hid (X2.out.turn M4.out.turn (fun hf => FN.out _ hf rfl))
        have r0 : w4.cell? ⟨w.heap.size, 0, none⟩ = some (.int .i64 m) := X4.out.cell 0
        have r1 : w4.cell? ⟨w.heap.size, 1, none⟩ = some (.int .i64 s) := X4.out.cell 1
        have r2 : w4.cell? ⟨w.heap.size, 2, none⟩ = some (.int .i64 t) := X4.out.cell 2
        clear hst hi
        simp only [qval] at hen ⊢
        refine stay ?_
        go_wp2_with fail
        refine CP.out.mono ?_
        rintro e w5 ⟨rfl, F5, hq5, ht5, hf5⟩
        have M5 := Lib.hid (midx_one M4.out HI.out hq5 ht5 hf5)
        have RG5 := Lib.hid (ranges_turn RG4.out ht5 (fun hh => (M4.out.here.xq x' (List.mem_of_getElem? HI.out) _ hh).2.1 HBM.out.symm) (fun hh => by
          rcases M4.out.foot _ (.inr (.inr (.inr ⟨x', List.mem_of_getElem? HI.out, hh⟩))) with h1 | h1
          · have := M4.out.old _ h1
            omega
          · omega))
        clear hq5 ht5 hf5 r0 r1 r2 hen
        go_wp2
        go_roundw
        case rel => exact ⟨_, cnt4, _, RG5, M5⟩
        case measure =>
          rw [RG5.out.left_eq, RG.out.left_eq]
          exact HLs.out
end Lg
end Go.Proofs.Ytehiclmkdpcplaa
