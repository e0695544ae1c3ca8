/- The walk over package series' Put. Conditions: a series in order. -/
import Derived.Test.YtfmnbmjfkplieaaSeP6
import Derived.Deep.AppendLies
namespace Go.Proofs.Ytfmnbmjfkplieaa
open Go.RowKit

namespace Se
theorem putS_lt (r x : Rd) : putS r x < 0 ↔ lt x r := by
  unfold putS orI cmpI lt
  split <;> split <;> (try split) <;> omega
theorem putS_gt (r x : Rd) : 0 < putS r x ↔ lt r x := by
  unfold putS orI cmpI lt
  split <;> split <;> (try split) <;> omega
theorem putS_one (r x : Rd) : putS r x = 0 ↔ one x r := by
  unfold putS orI cmpI one
  split <;> split <;> (try split) <;> omega
theorem sides_put (S : List Rd) (hs : Sorted S) (r : Rd) : Sides S (putS r) := by
  intro i j x y hij hx hy
  have hlt := sorted_at hs hx hy hij
  constructor
  · intro h
    rw [putS_lt]
    rcases Int.lt_or_eq_of_le h with h | h
    · exact lt_trans hlt ((putS_lt r y).1 h)
    · have := (putS_one r y).1 h
      unfold lt one at *
      omega
  · intro h
    rw [putS_gt]
    rcases Int.lt_or_eq_of_le h with h | h
    · exact lt_trans ((putS_gt r x).1 h) hlt
    · have := (putS_one r x).1 h.symm
      unfold lt one at *
      omega
/-- What putting makes of a series. -/
def PPut (w : World) (B h : Nat) (v : Value) (wo ga : Int) (S : List Rd) (w' : World) : Prop :=
  ∃ v', PSer w' B h v' wo ga S ∧ Turn (Feet h v) w w' ∧ ∀ k, v'.ownBlock = some k → v.ownBlock = some k ∨ w.heap.size ≤ k
theorem pput_no (B h : Nat) (v : Value) (wo ga : Int) (S : List Rd) (r : Rd) (w : World) (hp : PSer w B h v wo ga S) (hr : rightB r = false) :
    Calls Try.prog 22 #[.pointer (some ⟨h, 0, none⟩), rval r] w fun e w' => e = .returned (.tuple #[.bool false, .int .i64 1]) ∧ PPut w B h v wo ga S w' := by
  have M := Lib.hid (fun W => maybe_any r W)
  rw [hr] at M
  have HP := Lib.hid hp
  have B0 := Lib.hid (alloc_below w (.cells #[.int .i64 r.min, .int .i64 r.seq, .int .i64 r.ten] 37))
  clear hp hr
  obtain ⟨m, s, t⟩ := r
  unfold rval at *
  simp only at *
  go_enter Try.func22, Try.ntmps22
  go_wp2_with fail
  refine (M.out _).mono ?_
  rintro e w1 ⟨rfl, hb⟩
  have B1 := Lib.hid (B0.out.trans (hb.mono B0.out.size))
  clear hb
  go_wp2
  go_ret2
  exact ⟨rfl, v, HP.out.below B1.out, Turn.of_below B1.out, fun k hk => .inl hk⟩
theorem pput_same {w w2 : World} {B h : Nat} {v : Value} {wo ga : Int} {S : List Rd} (hb : Below w.heap.size w w2) (hp : PSer w2 B h v wo ga S) (j : Nat) : PPut w B h v wo ga S (w2.drewN j) :=
  ⟨v, hp.turn (T := fun _ => False) (turn_drewN _ _ _) (fun _ _ hf => hf), Turn.of_below (below_drewN hb j), fun _ hk => .inl hk⟩
theorem pput_set {w w2 : World} {B h b n c low : Nat} {wo ga m s t : Int} {S : List Rd} {x : Rd} (hb : Below w.heap.size w w2) (hp : PSer w2 B h (.slice (some ⟨b, 0, none⟩) n c) wo ga S) (hx : S[low]? = some x) (j : Nat) :
    PPut w B h (.slice (some ⟨b, 0, none⟩) n c) wo ga (S.set low ⟨m, s, t⟩) ((((w2.drewN j).setCell ⟨b, low * 3, none⟩ (.int .i64 m)).setCell ⟨b, low * 3 + 1, none⟩ (.int .i64 s)).setCell ⟨b, low * 3 + 2, none⟩ (.int .i64 t)) := by
  have hlt := (List.getElem?_eq_some_iff.1 hx).1
  have hn : n = S.length := by
    rcases hp.2.2.2 with ⟨e, _⟩ | ⟨_, _, _, e, _⟩
    · cases e
    · injection e with _ e
  subst hn
  have ho : (w2.drewN j).ownsRow B 37 3 (.slice (some ⟨b, 0, none⟩) S.length c) S.length (S.flatMap rcells) := hp.2.2
  have g1 : (S.set low ⟨m, x.seq, x.ten⟩)[low]? = some ⟨m, x.seq, x.ten⟩ := by rw [List.getElem?_set_self hlt]
  have g2 : (S.set low ⟨m, s, x.ten⟩)[low]? = some ⟨m, s, x.ten⟩ := by rw [List.getElem?_set_self hlt]
  have h1 := row_store rcells_len ho hx (i := 0) (by decide) (x' := ⟨m, x.seq, x.ten⟩) (u := .int .i64 m) rfl
  have h2 := row_store rcells_len h1 g1 (i := 1) (by decide) (x' := ⟨m, s, x.ten⟩) (u := .int .i64 s) rfl
  rw [List.set_set] at h2
  have h3 := row_store rcells_len h2 g2 (i := 2) (by decide) (x' := ⟨m, s, t⟩) (u := .int .i64 t) rfl
  rw [List.set_set] at h3
  have hne : h ≠ b := fun e => own_blk_ne hp.2.2 hp.2.1 (by decide) (by rw [e]; rfl)
  have hS : ∀ k, k = b → Feet h (.slice (some ⟨b, 0, none⟩) S.length c) k := fun k hk => .inr (by rw [hk]; rfl)
  have T0 : Turn (fun k => k = b) w2 ((((w2.drewN j).setCell ⟨b, low * 3, none⟩ (.int .i64 m)).setCell ⟨b, low * 3 + 1, none⟩ (.int .i64 s)).setCell ⟨b, low * 3 + 2, none⟩ (.int .i64 t)) :=
    ((((Turn.refl (fun k => k = b) w2).drewN j).setCell (p := ⟨b, low * 3, none⟩) (.inl rfl) _).setCell (p := ⟨b, low * 3 + 1, none⟩) (.inl rfl) _).setCell (p := ⟨b, low * 3 + 2, none⟩) (.inl rfl) _
  refine ⟨_, ⟨hp.1, hp.2.1.turn T0 hne, ?_⟩, (Turn.of_below hb).trans T0 (fun i hi => .inl (hS i hi)), fun _ hk => .inl hk⟩
  rw [List.length_set]
  exact h3
theorem pput_new {w w1 w2 : World} {B h : Nat} {v v' : Value} {wo ga : Int} {S : List Rd} {r : Rd} {low : Nat} (hb : Below w.heap.size w w1) (hp : PSer w1 B h v wo ga S)
    (ho : w2.ownsRow B 37 3 v' (S.length + 1) ((S.take low ++ r :: S.drop low).flatMap rcells)) (hlow : low ≤ S.length)
    (ht : Turn (fun k => v.ownBlock = some k) (w1.alloc (.cells #[.int .i64 r.min, .int .i64 r.seq, .int .i64 r.ten] 37)).drew w2) (hv : v'.ownBlock = v.ownBlock ∨ v'.ownBlock = some (w1.heap.size + 1)) :
    PPut w B h v wo ga (S.take low ++ r :: S.drop low) (w2.setCell ⟨h, 2, none⟩ v') := by
  have hsz := hb.size
  have hl : (S.take low ++ r :: S.drop low).length = S.length + 1 := by
    rw [List.length_append, List.length_cons, List.length_take, List.length_drop]
    omega
  have hne : v.ownBlock ≠ some h := own_blk_ne hp.2.2 hp.2.1 (by decide)
  have hB2 : Lies w2 h 63 #[.int .i64 wo, .int .i64 ga, v] := ((hp.2.1.alloc _).drewN 1).turn ht hne
  have hne2 : v'.ownBlock ≠ some h := own_blk_ne ho hB2 (by decide)
  have T1 : Turn (Feet h v) w w2 := (((Turn.of_below (S := Feet h v) hb).alloc (.cells #[.int .i64 r.min, .int .i64 r.seq, .int .i64 r.ten] 37)).drew).trans ht (fun i hi => .inl (.inr hi))
  refine ⟨v', ⟨hp.1, ?_, ?_⟩, T1.setCell (p := ⟨h, 2, none⟩) (.inl (.inl rfl)) _, fun k hk => ?_⟩
  · simpa using hB2.set_ 2 v'
  · rw [hl]
    exact own_turn ho ((Turn.refl (fun k => k = h) w2).setCell (p := ⟨h, 2, none⟩) (.inl rfl) _) (fun k hk e => by
      subst e
      exact hne2 hk)
  · rcases hv with h1 | h1
    · exact .inl (h1 ▸ hk)
    · rw [h1] at hk
      cases hk
      exact .inr (by omega)
set_option maxRecDepth 100000 in
set_option maxHeartbeats 8000000 in
theorem pput_yes (B h : Nat) (v : Value) (wo ga : Int) (S : List Rd) (r : Rd) (w : World) (hp : PSer w B h v wo ga S) (hs : Sorted S) (hr : rightB r = true) (hL : S.length ≤ 100000) :
    Calls Try.prog 22 #[.pointer (some ⟨h, 0, none⟩), rval r] w fun e w' => e = .returned (.tuple #[.bool (put S r).1, .int .i64 0]) ∧ PPut w B h v wo ga (sortL (put S r).2) w' := by
  have M := Lib.hid (fun W => maybe_any r W)
  rw [hr] at M
  have HP := Lib.hid hp
  have HS := Lib.hid hs
  have B0 := Lib.hid (alloc_below w (.cells #[.int .i64 r.min, .int .i64 r.seq, .int .i64 r.ten] 37))
  have X0 := Lib.hid (Lies.new w 37 #[.int .i64 r.min, .int .i64 r.seq, .int .i64 r.ten])
  have PL := Lib.hid (fun W (hb : Below w.heap.size w W) (hx : Lies W w.heap.size 37 #[.int .i64 r.min, .int .i64 r.seq, .int .i64 r.ten]) => place_any 40 ⟨w.heap.size, 0, none⟩ enter_put B h v wo ga S (putS r) W (hp.below hb) (by omega) (sides_put S hs r)
    (fun x W' hb' => side_any r x w.heap.size W' ((hx.below hb' hx.lt).cell 0) ((hx.below hb' hx.lt).cell 1) (hx.below hb' hx.lt).lt))
  clear hp hs hr
  have QS := Lib.hid (fun x => putS_lt r x)
  have QG := Lib.hid (fun x => putS_gt r x)
  have QO := Lib.hid (fun x => putS_one r x)
  generalize putS r = f at *
  obtain ⟨m, s, t⟩ := r
  unfold rval at M ⊢
  simp only at M B0 X0 PL ⊢
  go_enter Try.func22, Try.ntmps22
  go_wp2_with fail
  refine (M.out _).mono ?_
  rintro e w1 ⟨rfl, hb⟩
  have B1 := Lib.hid (B0.out.trans (hb.mono B0.out.size))
  have X1 := Lib.hid (X0.out.below hb X0.out.lt)
  clear hb B0 X0 M
  go_wp2_with fail
  refine (PL.out _ B1.out X1.out).mono ?_
  rintro e w2 ⟨low, there, hpl, rfl, hb⟩
  have PC := Lib.hid hpl
  have B2 := Lib.hid (then_ B1.out hb)
  have X2 := Lib.hid (X1.out.below hb X1.out.lt)
  have P2 := Lib.hid (HP.out.below B2.out)
  clear hpl hb B1 X1 PL HP
  cases there with
  | false =>
    have hlow := PC.out.1
    have h2 := PC.out.2.2 rfl
    have SI := Lib.hid (sort_insert HS.out (r := ⟨m, s, t⟩) (i := low) (fun j x hx => ⟨fun hj => (QS.out x).1 ((h2 j x hx).1 hj), fun hj => (QG.out x).1 ((h2 j x hx).2 hj)⟩))
    have PN := Lib.hid (put_new (S := S) (r := ⟨m, s, t⟩) (fun x hx ho => by
      obtain ⟨j, hj⟩ := List.mem_iff_getElem?.1 hx
      have h0 := (QO.out x).2 ho
      have := h2 j x hj
      omega))
    have hB := P2.out.1
    have hbb := P2.out.2.1
    have k2 : w2.cell? ⟨h, 2, none⟩ = some v := hbb.cell 2
    have x0 : w2.cell? ⟨w.heap.size, 0, none⟩ = some (.int .i64 m) := X2.out.cell 0
    have x1 : w2.cell? ⟨w.heap.size, 1, none⟩ = some (.int .i64 s) := X2.out.cell 1
    have x2 : w2.cell? ⟨w.heap.size, 2, none⟩ = some (.int .i64 t) := X2.out.cell 2
    have hne : v.ownBlock ≠ some h := own_blk_ne P2.out.2.2 hbb (by decide)
    have lh := hbb.lt
    have INS := Lib.hid (Rd.ins_any rcells_len rcells_one B v S low ⟨m, s, t⟩ w2.heap.size ((w2.alloc (.cells #[.int .i64 m, .int .i64 s, .int .i64 t] 37)).drew) (P2.out.2.2.alloc _) (by omega) ((Lies.new w2 37 #[.int .i64 m, .int .i64 s, .int .i64 t]).drewN 1)
      (fun e => by have := own_lt P2.out.2.2 e; omega) (by simp; omega) hlow)
    obtain ⟨q, d, rfl⟩ := own_slice P2.out.2.2
    clear h2 QS QG QO X2 PC
    go_wp2_with fail
    go_region_law
      ((go_simp; go_at_call 43; refine INS.out.mono ?_; rintro e w3 ⟨v', rfl, ho, ht, hv⟩; obtain ⟨q', d', rfl⟩ := own_slice ho; have fb := (((hbb.alloc (.cells #[.int .i64 m, .int .i64 s, .int .i64 t] 37)).drewN 1).turn ht hne); have f2 := fb.frozen 2; have c2 : w3.cell? ⟨h, 2, none⟩ = some (.slice q S.length d) := fb.cell 2))
    all_goals
      have FIN := Lib.hid (pput_new (r := ⟨m, s, t⟩) B2.out P2.out ho hlow ht (by simpa using hv))
      clear ho ht hv INS B2 P2 fb f2 c2 hbb k2 x0 x1 x2
      go_wp2
      go_ret2
      rw [PN.out, SI.out]
      exact ⟨rfl, FIN.out⟩
  | true =>
    obtain ⟨x, hx, hx0⟩ := PC.out.2.1 rfl
    have ho := (QO.out x).1 hx0
    have hlt := (List.getElem?_eq_some_iff.1 hx).1
    have PT := Lib.hid (put_there HS.out hx ho)
    have hbb := P2.out.2.1
    obtain ⟨b, c, e, hBb, hbl, hnc⟩ := own_some P2.out.2.2 (by omega)
    subst e
    have k2 : w2.cell? ⟨h, 2, none⟩ = some (.slice (some ⟨b, 0, none⟩) S.length c) := hbb.cell 2
    have x0 : w2.cell? ⟨w.heap.size, 0, none⟩ = some (.int .i64 m) := X2.out.cell 0
    have x1 : w2.cell? ⟨w.heap.size, 1, none⟩ = some (.int .i64 s) := X2.out.cell 1
    have x2 : w2.cell? ⟨w.heap.size, 2, none⟩ = some (.int .i64 t) := X2.out.cell 2
    have e0 : w2.cell? ⟨b, low * 3, none⟩ = some (.int .i64 x.min) := row_cell rcells_len P2.out.2.2 rfl hx (i := 0) (by decide)
    have e1 : w2.cell? ⟨b, low * 3 + 1, none⟩ = some (.int .i64 x.seq) := row_cell rcells_len P2.out.2.2 rfl hx (i := 1) (by decide)
    have e2 : w2.cell? ⟨b, low * 3 + 2, none⟩ = some (.int .i64 x.ten) := row_cell rcells_len P2.out.2.2 rfl hx (i := 2) (by decide)
    have hlt' : (low : Int) < (S.length : Int) := by omega
    have hL' : (S.length : Int) ≤ 100000 := by omega
    clear QS QG QO PC hx0
    by_cases hle : t ≤ x.ten
    · have E := Lib.hid (show put S ⟨m, s, t⟩ = (false, S) by rw [PT.out, if_pos hle])
      have d1 : decide (x.ten < t) = false := by simp; omega
      clear hle PT hx ho
      go_wp2_with fail
      go_quiet (fail)
      go_wp2
      go_ret2
      rw [E.out]
      simp only
      rw [sort_self HS.out]
      exact ⟨rfl, pput_same B2.out P2.out _⟩
    · have E := Lib.hid (show put S ⟨m, s, t⟩ = (true, S.set low ⟨m, s, t⟩) by rw [PT.out, if_neg hle])
      have SE := Lib.hid (sort_set HS.out hx ho)
      have d1 : decide (x.ten < t) = true := by simp; omega
      have f0 := P2.out.2.2.frozenAt (low * 3)
      have f1 := P2.out.2.2.frozenAt (low * 3 + 1)
      have f2 := P2.out.2.2.frozenAt (low * 3 + 2)
      clear hle PT ho
      go_wp2_with fail
      go_quiet (fail)
      go_wp2_with fail
      go_region
      all_goals
        go_wp2
        go_ret2
        rw [E.out]
        simp only
        rw [SE.out]
        exact ⟨rfl, pput_set B2.out P2.out hx _⟩
theorem pput_any (B h : Nat) (v : Value) (wo ga : Int) (S : List Rd) (r : Rd) (w : World) (hp : PSer w B h v wo ga S) (hs : Sorted S) (hL : S.length ≤ 100000) :
    Calls Try.prog 22 #[.pointer (some ⟨h, 0, none⟩), rval r] w fun e w' => e = .returned (.tuple #[.bool (putR S r).1, .int .i64 ((putR S r).2.1 : Nat)]) ∧ PPut w B h v wo ga (sortL (putR S r).2.2) w' := by
  unfold putR
  by_cases hr : rightB r = true
  · rw [if_pos hr]
    exact pput_yes B h v wo ga S r w hp hs hr hL
  · rw [if_neg hr]
    simp only
    rw [sort_self hs]
    exact pput_no B h v wo ga S r w hp (by simpa using hr)
end Se
end Go.Proofs.Ytfmnbmjfkplieaa
