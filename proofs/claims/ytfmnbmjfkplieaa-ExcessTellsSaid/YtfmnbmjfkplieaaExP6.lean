/- The walk over package excess' Put. Conditions: an index whose parts reckon what they say. -/
import Derived.Test.YtfmnbmjfkplieaaExP5
namespace Go.Proofs.Ytfmnbmjfkplieaa
open Go.RowKit Se

namespace Ex
theorem last_part {S T : List Rd} {m : Int} (hS : Apart S) (h : ∀ x, x.min ≤ m → (x ∈ S ↔ x ∈ T)) : lastL S m = lastL T m := by
  rcases lastL_spec S m with ⟨h1, h2⟩ | ⟨y, h1, h2, h3, h4⟩
  · rcases lastL_spec T m with ⟨k1, _⟩ | ⟨z, _, k2, k3, _⟩
    · rw [h1, k1]
    · have := h2 z ((h z k3).2 k2)
      omega
  · rcases lastL_spec T m with ⟨_, k2⟩ | ⟨z, k1, k2, k3, k4⟩
    · have := k2 y ((h y h3).1 h2)
      omega
    · have hz := (h z k3).2 k2
      have g1 := h4 z hz k3
      have g2 := k4 y ((h y h3).1 h2) h3
      have ho : one y z := by
        unfold lt at g1 g2
        unfold one
        omega
      rw [h1, k1, apart_one hS h2 hz ho]
theorem exm_part {S : List Rd} (hs : Sorted S) {r : Rd} {t : Int} (ht : t < r.min) (wo ga li : Int) : exm wo ga li (sortL (put S r).2) t = exm wo ga li S t := by
  have ha := sorted_apart hs
  have e : lastL (sortL (put S r).2) t = lastL S t := by
    refine (last_part ha fun x hx => ?_).symm
    rw [mem_sort, put_mem ha]
    constructor
    · exact fun h => .inl ⟨h, fun ho => by
        have := ho.1
        omega⟩
    · rintro (h | ⟨y, _, _, rfl⟩ | h)
      · exact h.1
      · simp only at hx
        omega
      · have := h.2
        subst this
        omega
  unfold exm air cnt
  rw [e]
theorem put_same {S : List Rd} (hs : Sorted S) {r : Rd} (h : (putR S r).1 = false) : sortL (putR S r).2.2 = S := by
  unfold putR at *
  by_cases hr : rightB r = true
  · rw [if_pos hr] at h ⊢
    simp only at h ⊢
    by_cases he : ∃ x ∈ S, one x r
    · obtain ⟨x, hx, ho⟩ := he
      obtain ⟨i, hi⟩ := List.mem_iff_getElem?.1 hx
      rw [put_there hs hi ho] at h ⊢
      by_cases ht : r.ten ≤ x.ten
      · rw [if_pos ht]
        exact sort_self hs
      · rw [if_neg ht] at h
        cases h
    · rw [put_new fun x hx ho => he ⟨x, hx, ho⟩] at h
      cases h
  · rw [if_neg hr]
    exact sort_self hs
theorem putR_right {S : List Rd} {r : Rd} (h : (putR S r).1 = true) : rightB r = true := by
  unfold putR at h
  by_cases hr : rightB r = true
  · exact hr
  · rw [if_neg hr] at h
    cases h
/-- What putting makes of an index. -/
def PutX (w : World) (B h : Nat) (F : Nat → Prop) (wo ga li : Int) (S : List Rd) (w' : World) : Prop := ∃ F', IXF w' B h F' wo ga li S ∧ Turn F w w' ∧ ∀ k, F' k → F k ∨ w.heap.size ≤ k
set_option maxRecDepth 100000 in
set_option maxHeartbeats 4000000 in
theorem xput_any (B h h0 : Nat) (F0 : Nat → Prop) (v : Value) (P : List Pt) (kn wo ga li : Int) (S : List Rd) (r : Rd) (w : World) (hp : Idx w B h h0 F0 v P kn wo ga li S) (hs : Sorted S) (hr : ∀ x ∈ S, rightB x = true) (hL : S.length ≤ 1000) :
    Calls Try.prog 10 #[.pointer (some ⟨h, 0, none⟩), rval r] w fun e w' => e = .returned (.tuple #[.bool (putR S r).1, .int .i64 ((putR S r).2.1 : Nat)]) ∧ PutX w B h (Own3 h F0 v) wo ga li (sortL (putR S r).2.2) w' := by
  have PS := Lib.hid (putR_right (S := S) (r := r))
  have PM := Lib.hid (put_same hs (r := r))
  have PE := Lib.hid (fun (hh : rightB r = true) t (ht : t < r.min) => show exm wo ga li (sortL (putR S r).2.2) t = exm wo ga li S t by
    rw [putR_yes S hh]
    exact exm_part hs ht wo ga li)
  have B0 := Lib.hid (alloc_below w (.cells #[.int .i64 r.min, .int .i64 r.seq, .int .i64 r.ten] 37))
  have X0 := Lib.hid (Lies.new w 37 #[.int .i64 r.min, .int .i64 r.seq, .int .i64 r.ten])
  obtain ⟨w1, hw1⟩ : ∃ w1, w.alloc (.cells #[.int .i64 r.min, .int .i64 r.seq, .int .i64 r.ten] 37) = w1 := ⟨_, rfl⟩
  rw [hw1] at B0 X0
  have RI := Lib.hid (fun hh : rightB r = true => (right_of hh).2.2)
  have HP := Lib.hid (hp.keep (B0.out))
  have SP := Lib.hid (face.put B h0 F0 wo ga S r w1.drew (face.turn HP.out.ser (T := fun _ => False) ((Turn.refl _ w1).drew) (fun _ _ hf => hf)) hs hr hL)
  have HW := Lib.hid (fun k => hp.foot (k := k))
  have HL := Lib.hid hp.box.lt
  have FO := Lib.hid (show ∀ k, F0 k ∨ v.ownBlock = some k ∨ k = h → k ≠ w.heap.size from fun k hk e => by
    have : k < w.heap.size := by
      rcases hk with hk | hk | rfl
      · exact (hp.foot (.inr (.inl hk))).2
      · exact (hp.foot (.inr (.inr hk))).2
      · exact hp.box.lt
    omega)
  have d0 : w1.drew.cell? ⟨h, 0, none⟩ = some (.pointer (some ⟨h0, 0, none⟩)) := HP.out.box.cell 0
  have e0 : w1.drew.cell? ⟨w.heap.size, 0, none⟩ = some (.int .i64 r.min) := X0.out.cell 0
  have e1 : w1.drew.cell? ⟨w.heap.size, 1, none⟩ = some (.int .i64 r.seq) := X0.out.cell 1
  have e2 : w1.drew.cell? ⟨w.heap.size, 2, none⟩ = some (.int .i64 r.ten) := X0.out.cell 2
  generalize sortL (putR S r).2.2 = S' at *
  generalize (putR S r).2.1 = en at *
  generalize (putR S r).1 = ch at *
  obtain ⟨m, s, t⟩ := r
  unfold rval at SP ⊢
  simp only at SP e0 e1 e2 X0 PE RI hw1 ⊢
  clear hp hs hr hL
  go_enter Try.func10, Try.ntmps10
  go_wp2_with fail
  clear hw1
  refine region_T 5 (fun w' => w'.cell? ⟨h, 0, none⟩ = some (.pointer (some ⟨h0, 0, none⟩)) ∧ w'.cell? ⟨w.heap.size, 0, none⟩ = some (.int .i64 m) ∧ w'.cell? ⟨w.heap.size, 1, none⟩ = some (.int .i64 s) ∧ w'.cell? ⟨w.heap.size, 2, none⟩ = some (.int .i64 t)) (by kernel_rfl) ⟨d0, e0, e1, e2⟩ (fun hS => ?_)
  refine takeL (i := 0) (v := ?_) rfl (by kernel_rfl) (by kernel_rfl) (by kernel_rfl) (by kernel_rfl) (by kernel_rfl) (fun _ _ _ h => h) (Or.inl ⟨by rfl, ?_⟩) (by assumption) ?_
  rotate_left
  · (intro w' hSw; (try dsimp only at hSw); go_simp; with_reducible rfl)
  try simp only [Act.put, List.setIfInBounds_toArray, List.set_cons_zero, List.set_cons_succ]
  refine takeL (i := 1) (v := ?_) rfl (by kernel_rfl) (by kernel_rfl) (by kernel_rfl) (by kernel_rfl) (by kernel_rfl) (fun _ _ _ h => h) (Or.inl ⟨by rfl, ?_⟩) (by assumption) ?_
  rotate_left
  · (intro w' hSw; (try dsimp only at hSw); go_simp; with_reducible rfl)
  try simp only [Act.put, List.setIfInBounds_toArray, List.set_cons_zero, List.set_cons_succ]
  refine takeL (i := 2) (v := ?_) rfl (by kernel_rfl) (by kernel_rfl) (by kernel_rfl) (by kernel_rfl) (by kernel_rfl) (fun _ _ _ h => h) (Or.inl ⟨by rfl, ?_⟩) (by assumption) ?_
  rotate_left
  · (intro w' hSw; (try dsimp only at hSw); go_simp; with_reducible rfl)
  try simp only [Act.put, List.setIfInBounds_toArray, List.set_cons_zero, List.set_cons_succ]
  refine takeL (i := 3) (v := ?_) rfl (by kernel_rfl) (by kernel_rfl) (by kernel_rfl) (by kernel_rfl) (by kernel_rfl) (fun _ _ _ h => h) (Or.inl ⟨by rfl, ?_⟩) (by assumption) ?_
  rotate_left
  · (intro w' hSw; (try dsimp only at hSw); go_simp; with_reducible rfl)
  try simp only [Act.put, List.setIfInBounds_toArray, List.set_cons_zero, List.set_cons_succ]
  refine takeL (i := 4) (v := ?_) rfl (by kernel_rfl) (by kernel_rfl) (by kernel_rfl) (by kernel_rfl) (by kernel_rfl) (fun _ _ _ h => h) (Or.inl ⟨by rfl, ?_⟩) (by assumption) ?_
  rotate_left
  · (intro w' hSw; (try dsimp only at hSw); go_simp; with_reducible rfl)
  try simp only [Act.put, List.setIfInBounds_toArray, List.set_cons_zero, List.set_cons_succ]
  refine oneL (i := 5) (by kernel_rfl) rfl (fun K hK => ?_)
  go_simp
  refine SP.out.mono ?_
  rintro e w2 ⟨rfl, F1, hq, ht, hf⟩
  have Q2 := Lib.hid hq
  have T2 := Lib.hid (show Turn F0 w1 w2 from ((Turn.refl _ w1).drew).trans ht (fun i hi => .inl hi))
  have G2 := Lib.hid (show ∀ k, F1 k → F0 k ∨ w1.heap.size ≤ k from hf)
  clear hq ht hf SP hS d0 e0 e1 e2
  refine hK.out _ _ (fun h => absurd h (by decide)) ?_
  clear hK K
  try simp only [Act.put]
  refine laterT 11 _ _ _ _ (by kernel_rfl) ?_
  have hS : (fun _ : World => True) w2 := trivial
  refine takeL (i := 6) (v := ?_) rfl (by kernel_rfl) (by kernel_rfl) (by kernel_rfl) (by kernel_rfl) (by kernel_rfl) (fun _ _ _ h => h) (Or.inl ⟨by rfl, ?_⟩) (by assumption) ?_
  rotate_left
  · (intro w' hSw; (try dsimp only at hSw); go_simp; with_reducible rfl)
  try simp only [Act.put, List.setIfInBounds_toArray, List.set_cons_zero, List.set_cons_succ]
  refine takeL (i := 7) (v := ?_) rfl (by kernel_rfl) (by kernel_rfl) (by kernel_rfl) (by kernel_rfl) (by kernel_rfl) (fun _ _ _ h => h) (Or.inl ⟨by rfl, ?_⟩) (by assumption) ?_
  rotate_left
  · (intro w' hSw; (try dsimp only at hSw); go_simp; with_reducible rfl)
  try simp only [Act.put, List.setIfInBounds_toArray, List.set_cons_zero, List.set_cons_succ]
  refine takeL (i := 8) (v := ?_) rfl (by kernel_rfl) (by kernel_rfl) (by kernel_rfl) (by kernel_rfl) (by kernel_rfl) (fun _ _ _ h => h) (Or.inl ⟨by rfl, ?_⟩) (by assumption) ?_
  rotate_left
  · (intro w' hSw; (try dsimp only at hSw); go_simp; with_reducible rfl)
  try simp only [Act.put, List.setIfInBounds_toArray, List.set_cons_zero, List.set_cons_succ]
  refine takeL (i := 9) (v := ?_) rfl (by kernel_rfl) (by kernel_rfl) (by kernel_rfl) (by kernel_rfl) (by kernel_rfl) (fun _ _ _ h => h) (Or.inl ⟨by rfl, ?_⟩) (by assumption) ?_
  rotate_left
  · (intro w' hSw; (try dsimp only at hSw); go_simp; with_reducible rfl)
  try simp only [Act.put, List.setIfInBounds_toArray, List.set_cons_zero, List.set_cons_succ]
  refine takeL (i := 10) (v := ?_) rfl (by kernel_rfl) (by kernel_rfl) (by kernel_rfl) (by kernel_rfl) (by kernel_rfl) (fun _ _ _ h => h) (Or.inl ⟨by rfl, ?_⟩) (by assumption) ?_
  rotate_left
  · (intro w' hSw; (try dsimp only at hSw); go_simp; with_reducible rfl)
  try simp only [Act.put, List.setIfInBounds_toArray, List.set_cons_zero, List.set_cons_succ]
  refine doneO (by kernel_rfl) ?_ _
  have TB := Lib.hid (show Turn (Own3 h F0 v) w w2 from (Turn.of_below (S := Own3 h F0 v) B0.out).trans T2.out (fun i hi => .inl (.inr (.inl hi))))
  have X2 := Lib.hid (X0.out.turn T2.out (fun hf => FO.out _ (.inl hf) rfl))
  have NH := Lib.hid (show ∀ k, F1 k → k ≠ h ∧ v.ownBlock ≠ some k from fun k hk => by
    rcases G2.out k hk with h1 | h1
    · exact ⟨fun e => HP.out.out (e ▸ h1), fun e => (HP.out.far k e).2 h1⟩
    · have := B0.out.size
      refine ⟨fun e => ?_, fun e => ?_⟩
      · have := HL.out
        omega
      · have := (HW.out k (.inr (.inr e))).2
        omega)
  have FG := Lib.hid (show ∀ (v' : Value), (∀ k, v'.ownBlock = some k → v.ownBlock = some k) → ∀ k, Own3 h F1 v' k → Own3 h F0 v k ∨ w.heap.size ≤ k from fun v' hv k hk => by
    rcases hk with h1 | h1 | h1
    · exact .inl (.inl h1)
    · rcases G2.out k h1 with h2 | h2
      · exact .inl (.inr (.inl h2))
      · exact .inr (Nat.le_trans B0.out.size h2)
    · exact .inl (.inr (.inr (hv k h1))))
  cases ch with
  | false =>
    have ES := PM.out rfl
    subst ES
    go_wp2
    go_ret2
    refine ⟨rfl, Own3 h F1 v, ⟨h0, F1, v, P, kn, ⟨HP.out.low, HP.out.box.turn T2.out HP.out.out, Q2.out, own_turn HP.out.row T2.out (fun k hk => (HP.out.far k hk).2), fun hf => (NH.out _ hf).1 rfl, fun k hk => ⟨(HP.out.far k hk).1, fun hf => (NH.out _ hf).2 hk⟩, HP.out.rk⟩, rfl⟩, TB.out, FG.out v (fun _ h => h)⟩
  | true =>
    have RR := PS.out rfl
    have RM := RI.out RR
    have x0 : w2.cell? ⟨w.heap.size, 0, none⟩ = some (.int .i64 m) := X2.out.cell 0
    have FA := Lib.hid (forget_any B h h0 F1 v P kn wo ga li S S' m w2 ⟨HP.out.low, HP.out.box.turn T2.out HP.out.out, Q2.out, own_turn HP.out.row T2.out (fun k hk => (HP.out.far k hk).2), fun hf => (NH.out _ hf).1 rfl, fun k hk => ⟨(HP.out.far k hk).1, fun hf => (NH.out _ hf).2 hk⟩, HP.out.rk⟩ (PE.out RR) RM.1 (by omega))
    clear RR RM
    go_wp2_with fail
    refine FA.out.mono ?_
    rintro e w3 ⟨⟨u, rfl⟩, v', P', kn', hi, ht, hv⟩
    have I3 := Lib.hid hi
    have T3 := Lib.hid (TB.out.trans ht (fun i hi => .inl (.inl hi)))
    have V3 := Lib.hid hv
    clear hi ht hv FA x0
    go_wp2
    go_ret2
    exact ⟨rfl, Own3 h F1 v', ⟨h0, F1, v', P', kn', I3.out, rfl⟩, T3.out, FG.out v' V3.out⟩
end Ex
end Go.Proofs.Ytfmnbmjfkplieaa
