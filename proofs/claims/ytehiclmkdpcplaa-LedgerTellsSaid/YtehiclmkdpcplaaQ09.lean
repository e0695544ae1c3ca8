/- Walks over package ledger: a zone's index over a limit. No condition but those written. Walks over package ledger: what tells a stay's sum. No condition but those written. Walks over the document's answer of layer 13: a zone's place; a reading is put; a zone's air, its readings. No condition but those written. Walks over the document's answer of layer 13: a zone's air, its readings. No condition but those written. -/
import Derived.Test.YtehiclmkdpcplaaQ08
import Derived.Test.YtehiclmkdpcplaaQ04
import Derived.Deep.RegionHeld3
import Derived.StillTailTactics
namespace Go.Proofs.Ytehiclmkdpcplaa
open Go.RowKit Go.Maps Se

namespace Lg
theorem rd_at {w : World} {p : Option Addr} {n : Nat} {S : List Rd} (h : Rw 3 rcells w p n S) {k : Nat} {x : Rd} (hx : S[k]? = some x) :
    ∃ b o, p = some ⟨b, o, none⟩ ∧ w.cell? ⟨b, o + k * 3, none⟩ = some (.int .i64 x.min) ∧ w.cell? ⟨b, o + k * 3 + 1, none⟩ = some (.int .i64 x.seq) ∧ w.cell? ⟨b, o + k * 3 + 2, none⟩ = some (.int .i64 x.ten) := by
  have hk : k < S.length := (List.getElem?_eq_some_iff.1 hx).1
  obtain ⟨b, o, e, hc⟩ := h.2 (by rw [← h.1]; omega)
  exact ⟨b, o, e, hc k x hx 0 (by decide), hc k x hx 1 (by decide), hc k x hx 2 (by decide)⟩
theorem own_rw {α : Type} {enc : α → List Value} (hk : ∀ x, (enc x).length = 3) {w : World} {B n c : Nat} {p : Option Addr} {e : TypeId} {l : List α} (h : w.ownsRow B e 3 (.slice p n c) n (l.flatMap enc)) (hn : l.length = n) : Rw 3 enc w p n l := by
  subst hn
  obtain ⟨q, c', e1, _, h2⟩ := rw_own hk h
  injection e1 with e1 _ _
  rw [e1]
  exact h2
theorem take_one {S : List Rd} {k : Nat} {x : Rd} (hx : S[k]? = some x) : S.take (k + 1) = S.take k ++ [x] := by
  rw [List.take_add_one, hx]
  rfl
/-- Readings in order are put one by one. -/
theorem take_put {S : List Rd} (hs : Sorted S) (hr : ∀ x ∈ S, rightB x = true) {k : Nat} {x : Rd} (hx : S[k]? = some x) : sortL (putR (S.take k) x).2.2 = S.take (k + 1) := by
  have hx2 := hr x (List.mem_of_getElem? hx)
  have hs2 : Sorted (S.take (k + 1)) := List.Pairwise.sublist (List.take_sublist _ _) hs
  have ha : Apart (S.take (k + 1)) := sorted_apart hs2
  rw [putR_yes _ hx2, put_new (S := S.take k) (r := x) (fun z hz ho => ?_)]
  · rw [← take_one hx]
    exact sort_self hs2
  · rw [take_one hx] at ha
    have := (List.pairwise_append.1 ha).2.2 z hz x (by simp)
    exact this ho
theorem take_ok {S : List Rd} (hs : Sorted S) (hr : ∀ x ∈ S, rightB x = true) (hl : S.length ≤ 1000) (k : Nat) : Sorted (S.take k) ∧ (∀ x ∈ S.take k, rightB x = true) ∧ (S.take k).length ≤ 1000 :=
  ⟨List.Pairwise.sublist (List.take_sublist _ _) hs, fun x hx => hr x (List.mem_of_mem_take hx), by rw [List.length_take]; omega⟩
/-- What a zone's index is told in. -/
def ZIdx (J : Se.Face) (I : Ex.Face) (w : World) (B : Nat) (y : Pz) (lim : Int) (e : Ending) (w' : World) : Prop :=
  ∃ (x : Ik) (y' : Pz), e = .returned (.pointer (some ⟨x.x, 0, none⟩)) ∧ ZLeft J I w B y y.z y' w' ∧ x ∈ y'.X ∧ x.lim = lim
/-- An index more. -/
theorem zidx_end {J : Se.Face} {I : Ex.Face} {w w4 w5 : World} {B : Nat} {y : Pz} {lim : Int} {x n : Nat} {F : Nat → Prop} {D : DataW Unit} (hp : PZ J I w B y) (hb : Below w.heap.size w w4) (hl : tenB lim = true) (hf : fq lim (y.X.map ikq) = none)
    (hI : I.IX w4 w.heap.size x F y.z.wo y.z.ga lim y.z.S) (hg : w4.grownBy w5 (some y.m)) (hM : Mq D (y.X.map ikq)) (hT : Maps.Tidy D) (ho : w5.ownsMap Try.prog 3 (Ms.rdF Qf) y.m n (D.put (.int .i64 lim) (qdat (some x)))) :
    ∃ y', ZLeft J I w B y y.z y' w5 ∧ (⟨lim, x, w.heap.size, F⟩ : Ik) ∈ y'.X := by
  have hmt := tq_lt hp.tab rfl
  have hqt := hp.blk.lt
  have hT5 : Turn (fun k => k = y.m) w4 w5 := (Turn.refl _ w4).grown hg (fun k hk => .inl (Option.some.inj hk).symm)
  have hTT : Turn (fun k => k = y.m) w w5 := (Turn.of_below hb).trans hT5 (fun i hi => .inl hi)
  have hn : ∀ z ∈ y.X.map ikq, z.k ≠ (ikq ⟨lim, x, w.heap.size, F⟩).k := fun z hz => fq_none hf z hz
  have hB : B ≤ w.heap.size := by have := hp.base.1; omega
  have hX : XS I w4 B y.z.wo y.z.ga (y.X ++ [⟨lim, x, w.heap.size, F⟩]) (fun _ => y.z.S) := hp.idx.more hb hl hB (Nat.le_refl _) hI (fun z hz => hn (ikq z) (List.mem_map.2 ⟨z, hz, rfl⟩))
  have hFl : ∀ k, F k → w.heap.size ≤ k := fun k hk => (I.foot hI hk).1
  have hxm : ∀ z ∈ y.X ++ [(⟨lim, x, w.heap.size, F⟩ : Ik)], ∀ k, z.F k → k ≠ y.q ∧ k ≠ y.m ∧ ¬ y.A k := fun z hz k hk => by
    rcases List.mem_append.1 hz with hz | hz
    · exact hp.xq z hz k hk
    · rw [List.mem_singleton.1 hz] at hk
      have := hFl k hk
      exact ⟨by omega, by omega, fun hh => by have := (J.foot hp.air hh).2; omega⟩
  have hM' := mq_app hM hT (x := ikq ⟨lim, x, w.heap.size, F⟩) hn
  refine ⟨{ y with X := y.X ++ [⟨lim, x, w.heap.size, F⟩] }, ⟨rfl, rfl, ⟨hp.base, hp.blk.turn hTT (fun e => ?_), J.turn hp.air hTT (fun k hk e => (hp.aq k hk).2 e), .inr ⟨y.m, D.put (.int .i64 lim) (qdat (some x)), rfl, hmt.1, ?_, ?_⟩, hX.turn hT5 (fun z hz k hk => (hxm z hz k hk).2.1), hp.aq, hxm⟩, hTT.mono (fun k _ hk => .inr (.inl hk)), fun k hk => ?_⟩, by simp⟩
  · exact tq_ne hp.tab hp.blk (congrArg some e.symm)
  · have h1 := Ms.own_tight ho
    rw [show Maps.size (D.put (.int .i64 lim) (qdat (some x))) = ((y.X.map ikq) ++ [ikq ⟨lim, x, w.heap.size, F⟩]).length from hM'.size] at h1
    rw [List.map_append]
    exact h1
  · rw [List.map_append]
    exact hM'
  · rcases hk with hk | hk | hk | ⟨z, hz, hk⟩
    · exact .inl (.inl hk)
    · exact .inl (.inr (.inl hk))
    · exact .inl (.inr (.inr (.inl hk)))
    · rcases List.mem_append.1 hz with hz | hz
      · exact .inl (.inr (.inr (.inr ⟨z, hz, hk⟩)))
      · rw [List.mem_singleton.1 hz] at hk
        exact .inr (hFl k hk)
set_option maxRecDepth 100000 in
set_option maxHeartbeats 4000000 in
/-- One is there. -/
theorem zidx_has (J : Se.Face) (I : Ex.Face) (B : Nat) (y : Pz) (lim : Int) (q : Nat) (w : World) (hp : PZ J I w B y) (hl : I64 lim) (hf : fq lim (y.X.map ikq) = some q) :
    Calls Try.prog 41 #[.pointer (some ⟨y.q, 0, none⟩), .int .i64 lim] w fun e w' => e = .returned (.pointer (some ⟨q, 0, none⟩)) ∧ w = w' := by
  have K := tlook_q Try.underlying70 zeroPx hp.tab (in64_i hl) w (Below.refl _ _)
  rw [hf] at K
  simp only [qval, Option.isSome_some] at K
  have l3 : w.cell? ⟨y.q, 3, none⟩ = some (.map (some y.m)) := hp.blk.cell 3
  clear hp hl hf
  go_enter Try.func41, Try.ntmps41
  go_wp2
  go_ret
  exact ⟨rfl, rfl⟩
set_option maxRecDepth 100000 in
set_option maxHeartbeats 4000000 in
/-- There is none, and the limit is no tenth. -/
theorem zidx_bad (J : Se.Face) (I : Ex.Face) (B : Nat) (y : Pz) (lim : Int) (w : World) (hp : PZ J I w B y) (hl : I64 lim) (hf : fq lim (y.X.map ikq) = none) (ht : tenB lim = false) :
    Calls Try.prog 41 #[.pointer (some ⟨y.q, 0, none⟩), .int .i64 lim] w fun e w' => e = .returned (.pointer none) ∧ Below w.heap.size w w' := by
  have K := tlook_q Try.underlying70 zeroPx hp.tab (in64_i hl) w (Below.refl _ _)
  rw [hf] at K
  simp only [qval, Option.isSome_none] at K
  have l3 : w.cell? ⟨y.q, 3, none⟩ = some (.map (some y.m)) := hp.blk.cell 3
  have e0 : w.drew.cell? ⟨y.q, 0, none⟩ = some (.int .i64 y.z.wo) := hp.blk.cell 0
  have e1 : w.drew.cell? ⟨y.q, 1, none⟩ = some (.int .i64 y.z.ga) := hp.blk.cell 1
  have SP := Lib.hid (I.new_no y.z.wo y.z.ga lim w.drew (by rw [ht, Bool.and_false]))
  clear hp hl hf ht
  go_enter Try.func41, Try.ntmps41
  go_wp2_with fail
  clear K l3
  refine region_T 9 (fun w' => w'.cell? ⟨y.q, 0, none⟩ = some (.int .i64 y.z.wo) ∧ w'.cell? ⟨y.q, 1, none⟩ = some (.int .i64 y.z.ga)) (by kernel_rfl) ⟨e0, e1⟩ (fun hS => ?_)
  refine takeL (i := 0) (v := ?_) rfl (by kernel_rfl) (by kernel_rfl) (by kernel_rfl) (by kernel_rfl) (by kernel_rfl) (fun _ _ _ h => h) (Or.inl ⟨by rfl, ?_⟩) (by assumption) ?_
  rotate_left
  · (intro w' hSw; (try dsimp only at hSw); go_simp; with_reducible rfl)
  try simp only [Act.put, List.setIfInBounds_toArray, List.set_cons_zero, List.set_cons_succ]
  refine takeL (i := 1) (v := ?_) rfl (by kernel_rfl) (by kernel_rfl) (by kernel_rfl) (by kernel_rfl) (by kernel_rfl) (fun _ _ _ h => h) (Or.inl ⟨by rfl, ?_⟩) (by assumption) ?_
  rotate_left
  · (intro w' hSw; (try dsimp only at hSw); go_simp; with_reducible rfl)
  try simp only [Act.put, List.setIfInBounds_toArray, List.set_cons_zero, List.set_cons_succ]
  refine takeL (i := 2) (v := ?_) rfl (by kernel_rfl) (by kernel_rfl) (by kernel_rfl) (by kernel_rfl) (by kernel_rfl) (fun _ _ _ h => h) (Or.inl ⟨by rfl, ?_⟩) (by assumption) ?_
  rotate_left
  · (intro w' hSw; (try dsimp only at hSw); go_simp; with_reducible rfl)
  try simp only [Act.put, List.setIfInBounds_toArray, List.set_cons_zero, List.set_cons_succ]
  refine takeL (i := 3) (v := ?_) rfl (by kernel_rfl) (by kernel_rfl) (by kernel_rfl) (by kernel_rfl) (by kernel_rfl) (fun _ _ _ h => h) (Or.inl ⟨by rfl, ?_⟩) (by assumption) ?_
  rotate_left
  · (intro w' hSw; (try dsimp only at hSw); go_simp; with_reducible rfl)
  try simp only [Act.put, List.setIfInBounds_toArray, List.set_cons_zero, List.set_cons_succ]
  refine takeL (i := 4) (v := ?_) rfl (by kernel_rfl) (by kernel_rfl) (by kernel_rfl) (by kernel_rfl) (by kernel_rfl) (fun _ _ _ h => h) (Or.inl ⟨by rfl, ?_⟩) (by assumption) ?_
  rotate_left
  · (intro w' hSw; (try dsimp only at hSw); go_simp; with_reducible rfl)
  try simp only [Act.put, List.setIfInBounds_toArray, List.set_cons_zero, List.set_cons_succ]
  refine takeL (i := 5) (v := ?_) rfl (by kernel_rfl) (by kernel_rfl) (by kernel_rfl) (by kernel_rfl) (by kernel_rfl) (fun _ _ _ h => h) (Or.inl ⟨by rfl, ?_⟩) (by assumption) ?_
  rotate_left
  · (intro w' hSw; (try dsimp only at hSw); go_simp; with_reducible rfl)
  try simp only [Act.put, List.setIfInBounds_toArray, List.set_cons_zero, List.set_cons_succ]
  refine takeL (i := 6) (v := ?_) rfl (by kernel_rfl) (by kernel_rfl) (by kernel_rfl) (by kernel_rfl) (by kernel_rfl) (fun _ _ _ h => h) (Or.inl ⟨by rfl, ?_⟩) (by assumption) ?_
  rotate_left
  · (intro w' hSw; (try dsimp only at hSw); go_simp; with_reducible rfl)
  try simp only [Act.put, List.setIfInBounds_toArray, List.set_cons_zero, List.set_cons_succ]
  refine takeL (i := 7) (v := ?_) rfl (by kernel_rfl) (by kernel_rfl) (by kernel_rfl) (by kernel_rfl) (by kernel_rfl) (fun _ _ _ h => h) (Or.inl ⟨by rfl, ?_⟩) (by assumption) ?_
  rotate_left
  · (intro w' hSw; (try dsimp only at hSw); go_simp; with_reducible rfl)
  try simp only [Act.put, List.setIfInBounds_toArray, List.set_cons_zero, List.set_cons_succ]
  refine takeL (i := 8) (v := ?_) rfl (by kernel_rfl) (by kernel_rfl) (by kernel_rfl) (by kernel_rfl) (by kernel_rfl) (fun _ _ _ h => h) (Or.inl ⟨by rfl, ?_⟩) (by assumption) ?_
  rotate_left
  · (intro w' hSw; (try dsimp only at hSw); go_simp; with_reducible rfl)
  try simp only [Act.put, List.setIfInBounds_toArray, List.set_cons_zero, List.set_cons_succ]
  refine oneL (i := 9) (by kernel_rfl) rfl (fun K hK => ?_)
  go_simp
  refine SP.out.mono ?_
  rintro e w2 ⟨rfl, hb⟩
  have B2 := Lib.hid (show Below w.heap.size w w2 from ⟨hb.os, hb.tape, hb.output, hb.size, hb.block⟩)
  clear hb SP hS e0 e1
  refine hK.out _ _ (fun h => absurd h (by decide)) ?_
  clear hK K
  try simp only [Act.put]
  refine laterT 15 _ _ _ _ (by kernel_rfl) ?_
  have hS : (fun _ : World => True) w2 := trivial
  refine takeL (i := 10) (v := ?_) rfl (by kernel_rfl) (by kernel_rfl) (by kernel_rfl) (by kernel_rfl) (by kernel_rfl) (fun _ _ _ h => h) (Or.inl ⟨by rfl, ?_⟩) (by assumption) ?_
  rotate_left
  · (intro w' hSw; (try dsimp only at hSw); go_simp; with_reducible rfl)
  try simp only [Act.put, List.setIfInBounds_toArray, List.set_cons_zero, List.set_cons_succ]
  refine takeL (i := 11) (v := ?_) rfl (by kernel_rfl) (by kernel_rfl) (by kernel_rfl) (by kernel_rfl) (by kernel_rfl) (fun _ _ _ h => h) (Or.inl ⟨by rfl, ?_⟩) (by assumption) ?_
  rotate_left
  · (intro w' hSw; (try dsimp only at hSw); go_simp; with_reducible rfl)
  try simp only [Act.put, List.setIfInBounds_toArray, List.set_cons_zero, List.set_cons_succ]
  refine takeL (i := 12) (v := ?_) rfl (by kernel_rfl) (by kernel_rfl) (by kernel_rfl) (by kernel_rfl) (by kernel_rfl) (fun _ _ _ h => h) (Or.inl ⟨by rfl, ?_⟩) (by assumption) ?_
  rotate_left
  · (intro w' hSw; (try dsimp only at hSw); go_simp; with_reducible rfl)
  try simp only [Act.put, List.setIfInBounds_toArray, List.set_cons_zero, List.set_cons_succ]
  refine takeL (i := 13) (v := ?_) rfl (by kernel_rfl) (by kernel_rfl) (by kernel_rfl) (by kernel_rfl) (by kernel_rfl) (fun _ _ _ h => h) (Or.inl ⟨by rfl, ?_⟩) (by assumption) ?_
  rotate_left
  · (intro w' hSw; (try dsimp only at hSw); go_simp; with_reducible rfl)
  try simp only [Act.put, List.setIfInBounds_toArray, List.set_cons_zero, List.set_cons_succ]
  refine takeL (i := 14) (v := ?_) rfl (by kernel_rfl) (by kernel_rfl) (by kernel_rfl) (by kernel_rfl) (by kernel_rfl) (fun _ _ _ h => h) (Or.inl ⟨by rfl, ?_⟩) (by assumption) ?_
  rotate_left
  · (intro w' hSw; (try dsimp only at hSw); go_simp; with_reducible rfl)
  try simp only [Act.put, List.setIfInBounds_toArray, List.set_cons_zero, List.set_cons_succ]
  refine doneO (by kernel_rfl) ?_ _
  clear hS
  go_wp2
  go_ret
  exact ⟨rfl, B2.out⟩
set_option maxRecDepth 100000 in
set_option maxHeartbeats 8000000 in
/-- A new one. -/
theorem zidx_new (J : Se.Face) (I : Ex.Face) (B : Nat) (y : Pz) (lim : Int) (w : World) (hp : PZ J I w B y) (g : GoodZ y.z 1000) (hl : I64 lim) (hf : fq lim (y.X.map ikq) = none) (ht : tenB lim = true) :
    Calls Try.prog 41 #[.pointer (some ⟨y.q, 0, none⟩), .int .i64 lim] w (ZIdx J I w B y lim) := by
  have K := tlook_q Try.underlying70 zeroPx hp.tab (in64_i hl) w (Below.refl _ _)
  rw [hf] at K
  simp only [qval, Option.isSome_none] at K
  have l3 : w.cell? ⟨y.q, 3, none⟩ = some (.map (some y.m)) := hp.blk.cell 3
  have e0 : w.drew.cell? ⟨y.q, 0, none⟩ = some (.int .i64 y.z.wo) := hp.blk.cell 0
  have e1 : w.drew.cell? ⟨y.q, 1, none⟩ = some (.int .i64 y.z.ga) := hp.blk.cell 1
  have SP := Lib.hid (I.new_yes y.z.wo y.z.ga lim w.drew g.may ht)
  have HP := Lib.hid hp
  have HG := Lib.hid g
  have HF := Lib.hid hf
  have HT := Lib.hid ht
  have HKEY := Lib.hid (Ms.key_of (in64_i hl))
  have HTL := Lib.hid (fun W (hW : Below w.heap.size w W) => J.told y.ab y.a y.A y.z.wo y.z.ga y.z.S W (hp.keep hW).air g.sorted g.len)
  have IP := Lib.hid (fun (k x : Nat) (F : Nat → Prop) (r : Rd) (W : World) (hI : I.IX W w.heap.size x F y.z.wo y.z.ga lim (y.z.S.take k)) (hr : y.z.S[k]? = some r) => by
    have h := I.put w.heap.size x F y.z.wo y.z.ga lim (y.z.S.take k) r W hI (take_ok g.sorted g.right g.len k).1 (take_ok g.sorted g.right g.len k).2.1 g.may ht (take_ok g.sorted g.right g.len k).2.2
    rw [take_put g.sorted g.right hr] at h
    exact h)
  clear hp g hl hf ht
  go_enter Try.func41, Try.ntmps41
  go_wp2_with fail
  clear K l3
  refine region_T 9 (fun w' => w'.cell? ⟨y.q, 0, none⟩ = some (.int .i64 y.z.wo) ∧ w'.cell? ⟨y.q, 1, none⟩ = some (.int .i64 y.z.ga)) (by kernel_rfl) ⟨e0, e1⟩ (fun hS => ?_)
  refine takeL (i := 0) (v := ?_) rfl (by kernel_rfl) (by kernel_rfl) (by kernel_rfl) (by kernel_rfl) (by kernel_rfl) (fun _ _ _ h => h) (Or.inl ⟨by rfl, ?_⟩) (by assumption) ?_
  rotate_left
  · (intro w' hSw; (try dsimp only at hSw); go_simp; with_reducible rfl)
  try simp only [Act.put, List.setIfInBounds_toArray, List.set_cons_zero, List.set_cons_succ]
  refine takeL (i := 1) (v := ?_) rfl (by kernel_rfl) (by kernel_rfl) (by kernel_rfl) (by kernel_rfl) (by kernel_rfl) (fun _ _ _ h => h) (Or.inl ⟨by rfl, ?_⟩) (by assumption) ?_
  rotate_left
  · (intro w' hSw; (try dsimp only at hSw); go_simp; with_reducible rfl)
  try simp only [Act.put, List.setIfInBounds_toArray, List.set_cons_zero, List.set_cons_succ]
  refine takeL (i := 2) (v := ?_) rfl (by kernel_rfl) (by kernel_rfl) (by kernel_rfl) (by kernel_rfl) (by kernel_rfl) (fun _ _ _ h => h) (Or.inl ⟨by rfl, ?_⟩) (by assumption) ?_
  rotate_left
  · (intro w' hSw; (try dsimp only at hSw); go_simp; with_reducible rfl)
  try simp only [Act.put, List.setIfInBounds_toArray, List.set_cons_zero, List.set_cons_succ]
  refine takeL (i := 3) (v := ?_) rfl (by kernel_rfl) (by kernel_rfl) (by kernel_rfl) (by kernel_rfl) (by kernel_rfl) (fun _ _ _ h => h) (Or.inl ⟨by rfl, ?_⟩) (by assumption) ?_
  rotate_left
  · (intro w' hSw; (try dsimp only at hSw); go_simp; with_reducible rfl)
  try simp only [Act.put, List.setIfInBounds_toArray, List.set_cons_zero, List.set_cons_succ]
  refine takeL (i := 4) (v := ?_) rfl (by kernel_rfl) (by kernel_rfl) (by kernel_rfl) (by kernel_rfl) (by kernel_rfl) (fun _ _ _ h => h) (Or.inl ⟨by rfl, ?_⟩) (by assumption) ?_
  rotate_left
  · (intro w' hSw; (try dsimp only at hSw); go_simp; with_reducible rfl)
  try simp only [Act.put, List.setIfInBounds_toArray, List.set_cons_zero, List.set_cons_succ]
  refine takeL (i := 5) (v := ?_) rfl (by kernel_rfl) (by kernel_rfl) (by kernel_rfl) (by kernel_rfl) (by kernel_rfl) (fun _ _ _ h => h) (Or.inl ⟨by rfl, ?_⟩) (by assumption) ?_
  rotate_left
  · (intro w' hSw; (try dsimp only at hSw); go_simp; with_reducible rfl)
  try simp only [Act.put, List.setIfInBounds_toArray, List.set_cons_zero, List.set_cons_succ]
  refine takeL (i := 6) (v := ?_) rfl (by kernel_rfl) (by kernel_rfl) (by kernel_rfl) (by kernel_rfl) (by kernel_rfl) (fun _ _ _ h => h) (Or.inl ⟨by rfl, ?_⟩) (by assumption) ?_
  rotate_left
  · (intro w' hSw; (try dsimp only at hSw); go_simp; with_reducible rfl)
  try simp only [Act.put, List.setIfInBounds_toArray, List.set_cons_zero, List.set_cons_succ]
  refine takeL (i := 7) (v := ?_) rfl (by kernel_rfl) (by kernel_rfl) (by kernel_rfl) (by kernel_rfl) (by kernel_rfl) (fun _ _ _ h => h) (Or.inl ⟨by rfl, ?_⟩) (by assumption) ?_
  rotate_left
  · (intro w' hSw; (try dsimp only at hSw); go_simp; with_reducible rfl)
  try simp only [Act.put, List.setIfInBounds_toArray, List.set_cons_zero, List.set_cons_succ]
  refine takeL (i := 8) (v := ?_) rfl (by kernel_rfl) (by kernel_rfl) (by kernel_rfl) (by kernel_rfl) (by kernel_rfl) (fun _ _ _ h => h) (Or.inl ⟨by rfl, ?_⟩) (by assumption) ?_
  rotate_left
  · (intro w' hSw; (try dsimp only at hSw); go_simp; with_reducible rfl)
  try simp only [Act.put, List.setIfInBounds_toArray, List.set_cons_zero, List.set_cons_succ]
  refine oneL (i := 9) (by kernel_rfl) rfl (fun K hK => ?_)
  go_simp
  refine SP.out.mono ?_
  rintro e w2 ⟨x, F0, rfl, hI, hb⟩
  have B2 := Lib.hid (show Below w.heap.size w w2 from ⟨hb.os, hb.tape, hb.output, hb.size, hb.block⟩)
  have I2 := Lib.hid (show I.IX w2 w.heap.size x F0 y.z.wo y.z.ga lim [] from hI)
  clear hb hI SP hS e0 e1
  refine hK.out _ _ (fun h => absurd h (by decide)) ?_
  clear hK K
  try simp only [Act.put]
  refine laterT 15 _ _ _ _ (by kernel_rfl) ?_
  have hS : (fun _ : World => True) w2 := trivial
  refine takeL (i := 10) (v := ?_) rfl (by kernel_rfl) (by kernel_rfl) (by kernel_rfl) (by kernel_rfl) (by kernel_rfl) (fun _ _ _ h => h) (Or.inl ⟨by rfl, ?_⟩) (by assumption) ?_
  rotate_left
  · (intro w' hSw; (try dsimp only at hSw); go_simp; with_reducible rfl)
  try simp only [Act.put, List.setIfInBounds_toArray, List.set_cons_zero, List.set_cons_succ]
  refine takeL (i := 11) (v := ?_) rfl (by kernel_rfl) (by kernel_rfl) (by kernel_rfl) (by kernel_rfl) (by kernel_rfl) (fun _ _ _ h => h) (Or.inl ⟨by rfl, ?_⟩) (by assumption) ?_
  rotate_left
  · (intro w' hSw; (try dsimp only at hSw); go_simp; with_reducible rfl)
  try simp only [Act.put, List.setIfInBounds_toArray, List.set_cons_zero, List.set_cons_succ]
  refine takeL (i := 12) (v := ?_) rfl (by kernel_rfl) (by kernel_rfl) (by kernel_rfl) (by kernel_rfl) (by kernel_rfl) (fun _ _ _ h => h) (Or.inl ⟨by rfl, ?_⟩) (by assumption) ?_
  rotate_left
  · (intro w' hSw; (try dsimp only at hSw); go_simp; with_reducible rfl)
  try simp only [Act.put, List.setIfInBounds_toArray, List.set_cons_zero, List.set_cons_succ]
  refine takeL (i := 13) (v := ?_) rfl (by kernel_rfl) (by kernel_rfl) (by kernel_rfl) (by kernel_rfl) (by kernel_rfl) (fun _ _ _ h => h) (Or.inl ⟨by rfl, ?_⟩) (by assumption) ?_
  rotate_left
  · (intro w' hSw; (try dsimp only at hSw); go_simp; with_reducible rfl)
  try simp only [Act.put, List.setIfInBounds_toArray, List.set_cons_zero, List.set_cons_succ]
  refine takeL (i := 14) (v := ?_) rfl (by kernel_rfl) (by kernel_rfl) (by kernel_rfl) (by kernel_rfl) (by kernel_rfl) (fun _ _ _ h => h) (Or.inl ⟨by rfl, ?_⟩) (by assumption) ?_
  rotate_left
  · (intro w' hSw; (try dsimp only at hSw); go_simp; with_reducible rfl)
  try simp only [Act.put, List.setIfInBounds_toArray, List.set_cons_zero, List.set_cons_succ]
  refine doneO (by kernel_rfl) ?_ _
  clear hS
  have Z2 := Lib.hid (HP.out.keep B2.out)
  have l2 : w2.cell? ⟨y.q, 2, none⟩ = some (.pointer (some ⟨y.a, 0, none⟩)) := Z2.out.blk.cell 2
  go_wp2_with fail
  refine (HTL.out w2 B2.out).mono ?_
  rintro e w3 ⟨v, rfl, ho, hb⟩
  obtain ⟨p, d, rfl⟩ := own_slice ho
  have B3 := Lib.hid (B2.out.trans (hb.mono B2.out.size))
  have O3 := Lib.hid ho
  have I3 := Lib.hid (I.keep I2.out hb)
  have FL := Lib.hid (fun k hk => I.foot I2.out (k := k) hk)
  have S23 := Lib.hid hb.size
  clear hb ho l2 HTL I2 Z2
  have HL := Lib.hid HG.out.len
  obtain ⟨n, hn⟩ : ∃ n, y.z.S.length = n := ⟨_, rfl⟩
  rw [hn] at O3 HL ⊢
  have HN := Lib.hid hn
  clear hn
  have hn1 : (n : Int) ≤ 1000 := by have := HL.out; omega
  go_wp2_with fail
  go_loopw [10, 43] (fun _ i wr => ∃ (k : Nat) (F : Nat → Prop), k ≤ n ∧ i = .int .i64 k ∧ Hid (I.IX wr w.heap.size x F y.z.wo y.z.ga lim (y.z.S.take k)) ∧ Hid (Turn F0 w3 wr) ∧ Hid (∀ k, F k → F0 k ∨ w3.heap.size ≤ k)) (fun _ i _ => n - (RowKit.intOf i).toNat)
  case atStart => exact ⟨0, F0, Nat.zero_le _, rfl, Lib.hid (by rw [List.take_zero]; exact I3.out), Lib.hid (Turn.refl _ _), Lib.hid (fun _ h => .inl h)⟩
  case round =>
    obtain ⟨k, F, hk, rfl, IK, TK, FK⟩ := hrel
    clear I3
    have OK := Lib.hid (own_turn O3.out TK.out (fun b hb hf => by
      have h1 := own_lt O3.out hb
      have h2 := FL.out b hf
      omega))
    have BK := Lib.hid (TK.out.below B3.out B3.out.size (fun i hi => (FL.out i hi).1))
    have SK := Lib.hid TK.out.size
    by_cases hlt : k < n
    · obtain ⟨u, hu⟩ : ∃ u, y.z.S[k]? = some u := ⟨_, List.getElem?_eq_getElem (by rw [HN.out]; exact hlt)⟩
      obtain ⟨b, o, rfl, e0, e1, e2⟩ := rd_at (own_rw rcells_len OK.out HN.out) hu
      have hk3 : (k : Int) < (n : Int) := by omega
      have B4 := Lib.hid (alloc_below wr (.cells (rcells u).toArray 37))
      have X4 := Lib.hid (Lies.new wr 37 (rcells u).toArray)
      have CP := Lib.hid (IP.out k x F u _ (I.keep IK.out B4.out) hu)
      clear OK hu
      go_wp2_with fail
      refine CP.out.mono ?_
      rintro e w5 ⟨rfl, F5, h5, t5, f5⟩
      have I5 := Lib.hid h5
      have T5 := Lib.hid ((TK.out.alloc _).trans t5 FK.out)
      have F5K := Lib.hid (show ∀ k, F5 k → F0 k ∨ w3.heap.size ≤ k from fun i hi => (f5 i hi).elim (FK.out i) (fun h => .inr (by
        have := B4.out.size
        have := SK.out
        omega)))
      clear h5 t5 f5 e0 e1 e2 CP
      go_wp2
      go_roundw
      case rel => exact ⟨k + 1, F5, by omega, by go_num, I5, T5, F5K⟩
      case measure => simp [RowKit.intOf]; omega
    · have hk3 : ¬ (k : Int) < (n : Int) := by omega
      have ZK := Lib.hid (HP.out.keep BK.out)
      have l3 : wr.cell? ⟨y.q, 3, none⟩ = some (.map (some y.m)) := ZK.out.blk.cell 3
      obtain ⟨D, hown, hMq⟩ : ∃ D, wr.ownsMap Try.prog 3 (Ms.rdF Qf) y.m (y.X.map ikq).length D ∧ Mq D (y.X.map ikq) := by
        rcases ZK.out.tab with ⟨h1, _⟩ | ⟨b, D, h1, _, h2, h3⟩
        · cases h1
        · obtain rfl := Option.some.inj h1
          exact ⟨D, h2, h3⟩
      have HOW := Lib.hid hown
      have HMq := Lib.hid hMq
      have HLM : Hid ((y.X.map ikq).length < maxLen) := Lib.hid (by
        rw [List.length_map]
        have := HP.out.idx.few
        unfold maxLen
        omega)
      have IS := Lib.hid (show I.IX wr w.heap.size x F y.z.wo y.z.ga lim y.z.S from by
        have h := IK.out
        rwa [List.take_of_length_le (by rw [HN.out]; omega)] at h)
      have HD := Lib.hid (Ms.rd_mk (Fm := Qf) (some x))
      generalize (y.X.map ikq).length = N at *
      clear hown hMq IK ZK OK
      go_wp2_with (at_mapUpdate; refine wpList_mapUpdate_own _ rfl _ _ _ 70 rfl 3 84 Ms.lawI Try.underlying70 (Ms.rdF Qf) y.m N D rfl HOW.out HLM.out _ _ (.int .i64 lim) rfl rfl HKEY.out (qdat (some x)) [] HD.out ?_; intro w5 hown5 hg5)
      have ZE := Lib.hid (zidx_end HP.out BK.out HT.out HF.out IS.out hg5 HMq.out (HOW.out.tidy Ms.lawI) hown5)
      clear hown5 hg5 l3
      go_wp2
      go_ret
      obtain ⟨y', z1, z2⟩ := ZE.out
      exact ⟨_, y', rfl, z1, z2, rfl⟩
end Lg
end Go.Proofs.Ytehiclmkdpcplaa

namespace Go.Proofs.Ytehiclmkdpcplaa
open Go.RowKit Go.Maps Se

namespace Lg
theorem zleft_trans {J : Se.Face} {I : Ex.Face} {w w1 w2 : World} {B : Nat} {y y1 y2 : Pz} {z1 z2 : Zl} (h : ZLeft J I w B y z1 y1 w1) (k : ZLeft J I w1 B y1 z2 y2 w2) : ZLeft J I w B y z2 y2 w2 := by
  have hs := h.turn.size
  refine ⟨k.z, k.q.trans h.q, k.here, h.turn.trans k.turn h.foot, fun i hi => ?_⟩
  rcases k.foot i hi with h1 | h1
  · exact h.foot i h1
  · exact .inr (by omega)
theorem zleft_from {J : Se.Face} {I : Ex.Face} {w w1 w2 : World} {B : Nat} {y y' : Pz} {z' : Zl} (hb : Below w.heap.size w w1) (h : ZLeft J I w1 B y z' y' w2) : ZLeft J I w B y z' y' w2 := by
  have hs := hb.size
  exact ⟨h.z, h.q, h.here, (Turn.of_below hb).trans h.turn (fun _ hi => .inl hi), fun k hk => (h.foot k hk).imp id (fun h => by omega)⟩
/-- An index was asked. -/
theorem zleft_sum {J : Se.Face} {I : Ex.Face} {w w' : World} {B : Nat} {y : Pz} (hp : PZ J I w B y) {x : Ik} (hx : x ∈ y.X) {F' : Nat → Prop} (hn : I.IX w' x.b x.x F' y.z.wo y.z.ga x.lim y.z.S) (ht : Turn x.F w w') (hF : ∀ k, F' k → x.F k ∨ w.heap.size ≤ k) :
    ∃ y', ZLeft J I w B y y.z y' w' := by
  obtain ⟨i, hi⟩ := List.mem_iff_getElem?.1 hx
  have hl := (List.getElem?_eq_some_iff.1 hi).1
  have hxx := hp.xq x hx
  have hlt := hp.blk.lt
  have hmt := (tq_lt hp.tab rfl).2
  have hone := hp.idx.one hi hn ht hF
  have e : (y.X.set i { x with F := F' }).map ikq = y.X.map ikq := by
    rw [List.map_set]
    refine set_same ?_
    rw [List.getElem?_map, hi]
    rfl
  refine ⟨{ y with X := y.X.set i { x with F := F' } }, rfl, rfl, ⟨hp.base, hp.blk.turn ht (fun hh => (hxx _ hh).1 rfl), J.turn hp.air ht (fun k hk hh => (hxx k hh).2.2 hk), ?_, ?_, hp.aq, fun z hz k hk => ?_⟩, ht.mono (fun k _ hk => .inr (.inr (.inr ⟨x, hx, hk⟩))), fun k hk => ?_⟩
  · show Tq w' B (some y.m) ((y.X.set i { x with F := F' }).map ikq)
    rw [e]
    exact tq_turn hp.tab ht (fun k hk hh => (hxx k hh).2.1 (Option.some.inj hk).symm)
  · exact hone.cong (fun z hz => by
      by_cases e : z.lim = x.lim
      · rw [if_pos e]
      · rw [if_neg e])
  · rcases mem_set_at hl hz with rfl | ⟨j, hj, hz2⟩
    · rcases hF k hk with hk | hk
      · exact hxx k hk
      · refine ⟨by show k ≠ y.q; omega, by show k ≠ y.m; omega, fun hh => ?_⟩
        have := (J.foot hp.air hh).2
        omega
    · exact hp.xq z (List.mem_of_getElem? hz2) k hk
  · rcases hk with hk | hk | hk | ⟨z, hz, hk⟩
    · exact .inl (.inl hk)
    · exact .inl (.inr (.inl hk))
    · exact .inl (.inr (.inr (.inl hk)))
    · rcases mem_set_at hl hz with rfl | ⟨j, hj, hz2⟩
      · exact (hF k hk).imp (fun hk => .inr (.inr (.inr ⟨x, hx, hk⟩))) id
      · exact .inl (.inr (.inr (.inr ⟨z, List.mem_of_getElem? hz2, hk⟩)))
theorem cellT {T : Nat → Prop} {w w' : World} (ht : Turn T w w') {k i : Nat} (hk : k < w.heap.size) (hn : ¬ T k) : w'.cell? ⟨k, i, none⟩ = w.cell? ⟨k, i, none⟩ := World.cell?_of_block (w := w) (ht.block k hk hn)
/-- What an index is told in: it, or none. -/
structure Told (y' : Pz) (lim : Int) (p : Option Nat) : Prop where
  no : p = none → tenB lim = false
  yes : ∀ q, p = some q → ∃ x ∈ y'.X, x.x = q ∧ x.lim = lim
def ZAny (J : Se.Face) (I : Ex.Face) (w : World) (B : Nat) (y : Pz) (lim : Int) (e : Ending) (w' : World) : Prop :=
  ∃ (p : Option Nat) (y' : Pz), e = .returned (qval p) ∧ ZLeft J I w B y y.z y' w' ∧ Told y' lim p
theorem zidx_any (J : Se.Face) (I : Ex.Face) (B : Nat) (y : Pz) (lim : Int) (w : World) (hp : PZ J I w B y) (g : GoodZ y.z 1000) (hl : I64 lim) :
    Calls Try.prog 41 #[.pointer (some ⟨y.q, 0, none⟩), .int .i64 lim] w (ZAny J I w B y lim) := by
  cases hf : fq lim (y.X.map ikq) with
  | some q =>
    refine (zidx_has J I B y lim q w hp hl hf).mono ?_
    rintro e w' ⟨rfl, rfl⟩
    obtain ⟨k, hk, e1, e2⟩ := fq_some hf
    obtain ⟨x, hx, rfl⟩ := List.mem_map.1 hk
    exact ⟨some q, y, rfl, zleft_same hp (Below.refl _ _), ⟨(fun h => by cases h), fun r hr => ⟨x, hx, e2.trans (Option.some.inj hr), e1⟩⟩⟩
  | none =>
    cases ht : tenB lim with
    | true =>
      refine (zidx_new J I B y lim w hp g hl hf ht).mono ?_
      rintro e w' ⟨x, y', rfl, hz, hx, rfl⟩
      exact ⟨some x.x, y', rfl, hz, ⟨(fun h => by cases h), fun r hr => ⟨x, hx, Option.some.inj hr, rfl⟩⟩⟩
    | false =>
      refine (zidx_bad J I B y lim w hp hl hf ht).mono ?_
      rintro e w' ⟨rfl, hb⟩
      exact ⟨none, y, rfl, zleft_same hp hb, ⟨(fun _ => ht), (fun r hr => by cases hr)⟩⟩
set_option maxRecDepth 100000 in
theorem zsum_any (J : Se.Face) (I : Ex.Face) (B : Nat) (y : Pz) (lim : Int) (p : Option Nat) (a b : Int) (w : World) (hp : PZ J I w B y) (g : GoodZ y.z 1000) (ht : Told y lim p) (ha : I64 a) (hb : I64 b) :
    Calls Try.prog 42 #[qval p, .int .i64 a, .int .i64 b] w fun e w' => e = .returned (.int .i64 (totV lim y.z a b)) ∧ ∃ y', ZLeft J I w B y y.z y' w' := by
  cases p with
  | none =>
    refine (I.nil_sum a b w).mono ?_
    rintro e w' ⟨rfl, hb'⟩
    refine ⟨?_, y, zleft_same hp hb'⟩
    unfold totV
    rw [ht.no rfl, if_neg Bool.false_ne_true]
  | some q =>
    obtain ⟨x, hx, rfl, rfl⟩ := ht.yes q rfl
    obtain ⟨h1, _, h2⟩ := hp.idx.each x hx
    refine (I.sum x.b x.x x.F y.z.wo y.z.ga x.lim y.z.S a b w h2 g.sorted g.right g.may h1 g.len ha.1 ha.2 hb.1 hb.2).mono ?_
    rintro e w' ⟨rfl, F', h3, h4, h5⟩
    refine ⟨?_, zleft_sum hp hx h3 h4 h5⟩
    unfold totV
    rw [h1, if_pos rfl]
/-- A stay's sum. -/
def sumE (st : List Zl) (lim : Int) (t : Sy.Sy) : Int := match atZ t.zone st with
  | none => 0
  | some i => match st[i]? with
    | none => 0
    | some x => totV lim x t.frm t.to
theorem sum_none {st : List Zl} {lim : Int} {t : Sy.Sy} (h : atZ t.zone st = none) : sumE st lim t = 0 := by unfold sumE; rw [h]
theorem sum_some {st : List Zl} {lim : Int} {t : Sy.Sy} {i : Nat} {x : Zl} (h : atZ t.zone st = some i) (hx : st[i]? = some x) : sumE st lim t = totV lim x t.frm t.to := by unfold sumE; rw [h]; simp only [hx]
/-- What a stay's sum is told in. -/
def Summed (J : Se.Face) (I : Ex.Face) (w : World) (B h : Nat) (F : Nat → Prop) (st : List Zl) (lim : Int) (t : Sy.Sy) (e : Ending) (w' : World) : Prop :=
  e = .returned (.int .i64 (sumE st lim t)) ∧ Left (DBl J I) w B h F st w'
theorem left_from {DB : World → Nat → Nat → (Nat → Prop) → List Zl → Prop} {w w1 w' : World} {B h : Nat} {F : Nat → Prop} {s : List Zl} (hb : Below w.heap.size w w1) (hl : Left DB w1 B h F s w') : Left DB w B h F s w' := by
  obtain ⟨F', h1, h2, h3⟩ := hl
  have hs := hb.size
  exact ⟨F', h1, (Turn.of_below hb).trans h2 (fun _ hi => .inl hi), fun k hk => (h3 k hk).imp id (fun h => by omega)⟩
set_option maxRecDepth 100000 in
set_option maxHeartbeats 4000000 in
theorem tell_nil (a b : Nat) (t : Sy.Sy) (w : World) (ha : w.cell? ⟨a, 0, none⟩ = some (.pointer none)) :
    Calls Try.prog 40 #[.agg #[.int .i64 t.zone, .int .i64 t.frm, .int .i64 t.to], .pointer (some ⟨a, 0, none⟩), .pointer (some ⟨b, 0, none⟩)] w fun e w' => e = .returned (.int .i64 0) ∧ Below w.heap.size w w' := by
  have B1 := Lib.hid (alloc_below w (.cells #[.int .i64 t.zone, .int .i64 t.frm, .int .i64 t.to] 52))
  have X1 := Lib.hid (Lies.new w 52 #[.int .i64 t.zone, .int .i64 t.frm, .int .i64 t.to])
  have hlt := World.block_lt_of_cell? w _ ha
  obtain ⟨w1, hw1⟩ : ∃ w1, w.alloc (.cells #[.int .i64 t.zone, .int .i64 t.frm, .int .i64 t.to] 52) = w1 := ⟨_, rfl⟩
  rw [hw1] at B1 X1
  have a1 : w1.cell? ⟨a, 0, none⟩ = some (.pointer none) := by rw [B1.out.cell hlt, ha]
  have x0 : w1.cell? ⟨w.heap.size, 0, none⟩ = some (.int .i64 t.zone) := X1.out.cell 0
  clear ha hlt X1
  go_enter Try.func40, Try.ntmps40
  go_wp2_with fail
  refine (pfind_nil t.zone _).mono ?_
  rintro e w' ⟨rfl, rfl⟩
  clear hw1 a1 x0
  go_wp2
  go_ret
  exact ⟨rfl, B1.out⟩
set_option maxRecDepth 100000 in
set_option maxHeartbeats 4000000 in
theorem tell_any (J : Se.Face) (I : Ex.Face) (B h : Nat) (F : Nat → Prop) (st : List Zl) (lim : Int) (a b : Nat) (t : Sy.Sy) (w : World) (hp : DBl J I w B h F st) (hg : Good st 1000) (hl : I64 lim) (hz : I64 t.zone ∧ I64 t.frm ∧ I64 t.to)
    (ha : w.cell? ⟨a, 0, none⟩ = some (.pointer (some ⟨h, 0, none⟩))) (hb : w.cell? ⟨b, 0, none⟩ = some (.int .i64 lim)) (hbF : ¬ F b) :
    Calls Try.prog 40 #[.agg #[.int .i64 t.zone, .int .i64 t.frm, .int .i64 t.to], .pointer (some ⟨a, 0, none⟩), .pointer (some ⟨b, 0, none⟩)] w (Summed J I w B h F st lim t) := by
  have B1 := Lib.hid (alloc_below w (.cells #[.int .i64 t.zone, .int .i64 t.frm, .int .i64 t.to] 52))
  have X1 := Lib.hid (Lies.new w 52 #[.int .i64 t.zone, .int .i64 t.frm, .int .i64 t.to])
  have hlt := World.block_lt_of_cell? w _ ha
  have hltb := World.block_lt_of_cell? w _ hb
  obtain ⟨w1, hw1⟩ : ∃ w1, w.alloc (.cells #[.int .i64 t.zone, .int .i64 t.frm, .int .i64 t.to] 52) = w1 := ⟨_, rfl⟩
  rw [hw1] at B1 X1
  have a1 : w1.cell? ⟨a, 0, none⟩ = some (.pointer (some ⟨h, 0, none⟩)) := by rw [B1.out.cell hlt, ha]
  have b1 : w1.cell? ⟨b, 0, none⟩ = some (.int .i64 lim) := by rw [B1.out.cell hltb, hb]
  have x0 : w1.cell? ⟨w.heap.size, 0, none⟩ = some (.int .i64 t.zone) := X1.out.cell 0
  have x1 : w1.cell? ⟨w.heap.size, 1, none⟩ = some (.int .i64 t.frm) := X1.out.cell 1
  have x2 : w1.cell? ⟨w.heap.size, 2, none⟩ = some (.int .i64 t.to) := X1.out.cell 2
  have hFw : ¬ F w.heap.size := fun hh => by have := (dbl_foot hp hh).2; omega
  have HFW := Lib.hid hFw
  have HFB := Lib.hid hbF
  have HLB := Lib.hid hltb
  obtain ⟨mo, L, hP, e, hF⟩ := hp
  have HP := Lib.hid (hP.keep B1.out)
  have HF := Lib.hid hF
  unfold Summed
  cases hat : atZ t.zone st with
  | none =>
    have K := Lib.hid (pfind_no t.zone w1 HP.out.blk HP.out.tab (in64_i hz.1) (no_zone (by rw [e]; exact hat)))
    have RL := Lib.hid (show Left (DBl J I) w B h F st w1 from left_keep ⟨mo, L, HP.out, e, hF⟩ B1.out)
    rw [sum_none hat]
    clear ha hb hlt hltb hP hF hg hat hFw hbF X1
    go_enter Try.func40, Try.ntmps40
    go_wp2_with fail
    refine K.out.mono ?_
    rintro e' w' ⟨rfl, rfl⟩
    clear hw1 a1 x0 x1 x2 b1
    go_wp2
    go_ret
    exact ⟨rfl, RL.out⟩
  | some i =>
    subst e
    obtain ⟨y, hy, hy2, hq, _⟩ := one_zone hat
    have g := hg y.z (List.mem_of_getElem? hy2)
    have K := Lib.hid (pfind_yes t.zone w1 HP.out.blk HP.out.tab (in64_i hz.1) hq)
    have hym := List.mem_of_getElem? hy
    have CI := Lib.hid (zidx_any J I B y lim w1.drew ((HP.out.zones y hym).turn (T := fun _ => False) ((Turn.refl _ w1).drew) (fun _ _ hf => hf)) g hl)
    have CS := Lib.hid (fun (y1 : Pz) (p : Option Nat) (W : World) (h1 : PZ J I W B y1) (h2 : y1.z = y.z) (h3 : Told y1 lim p) => by
      have h := zsum_any J I B y1 lim p t.frm t.to W h1 (by rw [h2]; exact g) h3 hz.2.1 hz.2.2
      rw [h2] at h
      exact h)
    have HY := Lib.hid hy
    have FY := Lib.hid (show ∀ k, ZF y k → F k from fun k hk => (hF k).2 (.inr (.inr ⟨y, hym, hk⟩)))
    rw [sum_some hat hy2]
    have RS : (L.map Pz.z).set i y.z = L.map Pz.z := set_same hy2
    have HRS := Lib.hid RS
    clear ha hb hlt hltb hP hF hg hat hFw hbF g hz hl hy hy2 hq hym RS
    obtain ⟨tz, tf, tt⟩ := t
    simp only at x0 x1 x2 K CS hw1 ⊢
    generalize totV lim y.z tf tt = v at *
    go_enter Try.func40, Try.ntmps40
    go_wp2_with fail
    refine K.out.mono ?_
    rintro e' w' ⟨rfl, rfl⟩
    go_wp2_with fail
    clear hw1
    have y0 : w1.drew.cell? ⟨b, 0, none⟩ = some (.int .i64 lim) := b1
    have y1 : w1.drew.cell? ⟨w.heap.size, 1, none⟩ = some (.int .i64 tf) := x1
    have y2 : w1.drew.cell? ⟨w.heap.size, 2, none⟩ = some (.int .i64 tt) := x2
    clear a1 b1 x0 x1 x2
    refine region_T 7 (fun w' => w'.cell? ⟨b, 0, none⟩ = some (.int .i64 lim) ∧ w'.cell? ⟨w.heap.size, 1, none⟩ = some (.int .i64 tf) ∧ w'.cell? ⟨w.heap.size, 2, none⟩ = some (.int .i64 tt)) (by kernel_rfl) ⟨y0, y1, y2⟩ (fun hS => ?_)
    refine takeL (i := 0) (v := ?_) rfl (by kernel_rfl) (by kernel_rfl) (by kernel_rfl) (by kernel_rfl) (by kernel_rfl) (fun _ _ _ h => h) (Or.inl ⟨by rfl, ?_⟩) (by assumption) ?_
    rotate_left
    · (intro w' hSw; (try dsimp only at hSw); go_simp; with_reducible rfl)
    try simp only [Act.put, List.setIfInBounds_toArray, List.set_cons_zero, List.set_cons_succ]
    refine takeL (i := 1) (v := ?_) rfl (by kernel_rfl) (by kernel_rfl) (by kernel_rfl) (by kernel_rfl) (by kernel_rfl) (fun _ _ _ h => h) (Or.inl ⟨by rfl, ?_⟩) (by assumption) ?_
    rotate_left
    · (intro w' hSw; (try dsimp only at hSw); go_simp; with_reducible rfl)
    try simp only [Act.put, List.setIfInBounds_toArray, List.set_cons_zero, List.set_cons_succ]
    refine takeL (i := 3) (v := ?_) rfl (by kernel_rfl) (by kernel_rfl) (by kernel_rfl) (by kernel_rfl) (by kernel_rfl) (fun _ _ _ h => h) (Or.inl ⟨by rfl, ?_⟩) (by assumption) ?_
    rotate_left
    · (intro w' hSw; (try dsimp only at hSw); go_simp; with_reducible rfl)
    try simp only [Act.put, List.setIfInBounds_toArray, List.set_cons_zero, List.set_cons_succ]
    refine takeL (i := 4) (v := ?_) rfl (by kernel_rfl) (by kernel_rfl) (by kernel_rfl) (by kernel_rfl) (by kernel_rfl) (fun _ _ _ h => h) (Or.inl ⟨by rfl, ?_⟩) (by assumption) ?_
    rotate_left
    · (intro w' hSw; (try dsimp only at hSw); go_simp; with_reducible rfl)
    try simp only [Act.put, List.setIfInBounds_toArray, List.set_cons_zero, List.set_cons_succ]
    refine takeL (i := 5) (v := ?_) rfl (by kernel_rfl) (by kernel_rfl) (by kernel_rfl) (by kernel_rfl) (by kernel_rfl) (fun _ _ _ h => h) (Or.inl ⟨by rfl, ?_⟩) (by assumption) ?_
    rotate_left
    · (intro w' hSw; (try dsimp only at hSw); go_simp; with_reducible rfl)
    try simp only [Act.put, List.setIfInBounds_toArray, List.set_cons_zero, List.set_cons_succ]
    refine takeL (i := 6) (v := ?_) rfl (by kernel_rfl) (by kernel_rfl) (by kernel_rfl) (by kernel_rfl) (by kernel_rfl) (fun _ _ _ h => h) (Or.inl ⟨by rfl, ?_⟩) (by assumption) ?_
    rotate_left
    · (intro w' hSw; (try dsimp only at hSw); go_simp; with_reducible rfl)
    try simp only [Act.put, List.setIfInBounds_toArray, List.set_cons_zero, List.set_cons_succ]
    refine oneL (i := 2) (by kernel_rfl) rfl (fun K hK => ?_)
    go_simp
    refine CI.out.mono ?_
    rintro e' w4 ⟨p, y4, rfl, hz4, ht4⟩
    have hb1 : b < w1.drew.heap.size := by
      have h1 := HLB.out
      have h2 := B1.out.size
      show b < w1.heap.size
      omega
    have hw1 : w.heap.size < w1.drew.heap.size := World.block_lt_of_cell? _ _ y1
    have z0 : w4.cell? ⟨b, 0, none⟩ = some (.int .i64 lim) := by rw [cellT hz4.turn hb1 (fun hh => HFB.out (FY.out _ hh)), y0]
    have z1 : w4.cell? ⟨w.heap.size, 1, none⟩ = some (.int .i64 tf) := by rw [cellT hz4.turn hw1 (fun hh => HFW.out (FY.out _ hh)), y1]
    have z2 : w4.cell? ⟨w.heap.size, 2, none⟩ = some (.int .i64 tt) := by rw [cellT hz4.turn hw1 (fun hh => HFW.out (FY.out _ hh)), y2]
    have Z4 := Lib.hid (zleft_from (w := w1) (w1 := w1.drew) ⟨rfl, rfl, rfl, Nat.le_refl _, fun _ _ => rfl⟩ hz4)
    have T4 := Lib.hid ht4
    clear hz4 ht4 hb1 hw1 hS y0 y1 y2
    refine hK.out _ _ (fun _ => ⟨z0, z1, z2⟩) ?_
    clear hK K
    try simp only [Act.put, List.setIfInBounds_toArray, List.set_cons_zero, List.set_cons_succ]
    refine oneL (i := 7) (by kernel_rfl) rfl (fun K hK => ?_)
    go_simp
    refine (CS.out y4 p w4 Z4.out.here Z4.out.z T4.out).mono ?_
    rintro e' w5 ⟨rfl, y5, hz5⟩
    have Z5 := Lib.hid (zleft_trans Z4.out hz5)
    clear hz5 Z4 T4 z0 z1 z2
    refine hK.out _ _ (fun h => absurd h (by decide)) ?_
    clear hK K
    try simp only [Act.put]
    refine laterT 9 _ _ _ _ (by kernel_rfl) ?_
    have hS : (fun _ : World => True) w5 := trivial
    refine takeL (i := 8) (v := ?_) rfl (by kernel_rfl) (by kernel_rfl) (by kernel_rfl) (by kernel_rfl) (by kernel_rfl) (fun _ _ _ h => h) (Or.inl ⟨by rfl, ?_⟩) (by assumption) ?_
    rotate_left
    · (intro w' hSw; (try dsimp only at hSw); go_simp; with_reducible rfl)
    try simp only [Act.put, List.setIfInBounds_toArray, List.set_cons_zero, List.set_cons_succ]
    refine doneO (by kernel_rfl) ?_ _
    clear hS
    have RL := Lib.hid (show Left (DBl J I) w B h F (L.map Pz.z) w5 from by
      have h1 := left_from B1.out (left_one HP.out HF.out HY.out Z5.out rfl)
      rwa [HRS.out] at h1)
    go_wp2
    go_ret
    exact ⟨rfl, RL.out⟩
end Lg
end Go.Proofs.Ytehiclmkdpcplaa

namespace Go.Proofs.Ytehiclmkdpcplaa
open Go.RowKit

namespace Lg
open Se
set_option maxRecDepth 100000 in
set_option maxHeartbeats 4000000 in
theorem r13at_any (B g : Nat) (vI vS : Value) (l : List Rz) (id : Int) (w : World) (h : RLg w B g vI vS l) (hL : l.length ≤ 1000000) :
    Calls Try.prog 23 #[.pointer (some ⟨g, 0, none⟩), .int .i64 id] w fun e w' => e = .returned (.int .i64 (atI id (zls l))) ∧ w = w' := by
  obtain ⟨p, c, q, d, rfl, rfl, hnc, _⟩ := rlg_slices h
  obtain ⟨n, hn⟩ : ∃ n, l.length = n := ⟨_, rfl⟩
  have h' := h
  rw [hn] at hL h' hnc
  have H := Lib.hid h'
  have HN := Lib.hid hn
  have m0 : w.cell? ⟨g, 0, none⟩ = some (.slice p n c) := h'.blk.cell 0
  have hL' : (n : Int) ≤ 1000000 := by omega
  have hnc' : (n : Int) ≤ (c : Int) := by omega
  clear h h' hn hnc
  go_enter Try.func23, Try.ntmps23
  go_wp2
  go_loop [5] (fun i => ∃ k : Nat, k ≤ n ∧ i = .int .i64 k ∧ Hid (∀ y ∈ (zls l).take k, y.id ≠ id)) (fun i => n - (RowKit.intOf i).toNat)
  case atStart => exact ⟨0, Nat.zero_le _, rfl, Lib.hid (by simp)⟩
  case round =>
    obtain ⟨k, hk, rfl, HH⟩ := hrel
    by_cases hlt : k < n
    · have hk3 : (k : Int) < (n : Int) := by omega
      obtain ⟨y, hy⟩ : ∃ y, l[k]? = some y := ⟨_, List.getElem?_eq_getElem (by rw [HN.out]; exact hlt)⟩
      obtain ⟨b, b2, e, _, e0, _, _, _⟩ := rlg_at H.out HN.out hy
      subst e
      have hyl : (zls l)[k]? = some y.z := by rw [zls_at, hy]; rfl
      have HY := Lib.hid hyl
      clear hy hyl
      by_cases ha : y.z.id = id
      · have ha1 : (y.z.id == id) = true := by simp [ha]
        have HE := Lib.hid (atI_some (at_first HY.out ha HH.out))
        clear ha
        generalize y.z.id = yi at *
        go_wp2
        go_ret
        exact ⟨by rw [HE.out]; rfl, rfl⟩
      · have ha1 : (y.z.id == id) = false := by simp [ha]
        have HH2 := Lib.hid (show ∀ z ∈ (zls l).take (k + 1), z.id ≠ id from fun z hz => by
          rw [List.take_add_one, HY.out] at hz
          rcases List.mem_append.1 hz with hz | hz
          · exact HH.out z hz
          · simp at hz
            rw [hz]
            exact ha)
        clear ha
        generalize y.z.id = yi at *
        go_wp2
        go_round
        case rel => exact ⟨k + 1, by omega, by go_num, HH2⟩
        case measure => simp [RowKit.intOf]; omega
    · obtain rfl : k = n := by omega
      have HE := Lib.hid (atI_none (at_none.2 (fun y hy => HH.out y (by
        rw [List.take_of_length_le (by unfold zls; rw [List.length_map, HN.out]; exact Nat.le_refl _)]
        exact hy))))
      go_wp2
      go_ret
      exact ⟨by rw [HE.out]; rfl, rfl⟩
/-- There is a zone, or none. -/
theorem at_cases (id : Int) (l : List Rz) : (atZ id (zls l) = none ∧ atI id (zls l) = -1) ∨ ∃ (i : Nat) (y : Rz), atZ id (zls l) = some i ∧ atI id (zls l) = (i : Nat) ∧ l[i]? = some y ∧ (zls l)[i]? = some y.z := by
  cases h : atZ id (zls l) with
  | none => exact .inl ⟨rfl, atI_none h⟩
  | some i =>
    obtain ⟨x, hx, _⟩ := at_some h
    have hx2 := hx
    rw [zls_at, Option.map_eq_some_iff] at hx2
    obtain ⟨y, hy, rfl⟩ := hx2
    exact .inr ⟨i, y, rfl, atI_some h, hy, hx⟩
theorem turn_cell {S : Nat → Prop} {w w' : World} (h : Turn S w w') {p : Addr} (hp : p.block < w.heap.size) (hs : ¬ S p.block) : w'.cell? p = w.cell? p := by
  have := h.block p.block hp hs
  simp only [World.cell?, this]
theorem put_none {l : List Zl} {zone : Int} {r : Rd} (h : atZ zone l = none) : putZ l zone r = ((false, 5), l) := by unfold putZ; rw [h]
theorem put_some {l : List Zl} {zone : Int} {r : Rd} {i : Nat} {x : Zl} (h : atZ zone l = some i) (hx : l[i]? = some x) : putZ l zone r = (((putR x.S r).1, (putR x.S r).2.1), l.set i { x with S := sortL (putR x.S r).2.2 }) := by unfold putZ; rw [h]; simp only [hx]
set_option maxRecDepth 100000 in
set_option maxHeartbeats 8000000 in
theorem r13put_any (B g : Nat) (F : Nat → Prop) (st : List Zl) (zone : Int) (r : Rd) (w : World) (h : Rg w B g F st) (hL : st.length ≤ 1000000) (hG : Good st 100000) :
    Calls Try.prog 9 #[.pointer (some ⟨g, 0, none⟩), .int .i64 zone, rval r] w fun e w' => e = .returned (.tuple #[.bool (putZ st zone r).1.1, .int .i64 ((putZ st zone r).1.2 : Nat)]) ∧ Left Rg w B g F (putZ st zone r).2 w' := by
  obtain ⟨vI, vS, l, hr, rfl, rfl⟩ := h
  have hLl : l.length ≤ 1000000 := by have : (zls l).length = l.length := List.length_map ..; omega
  obtain ⟨w1, hw1⟩ : ∃ w1, w.alloc (.cells #[.int .i64 r.min, .int .i64 r.seq, .int .i64 r.ten] 37) = w1 := ⟨_, rfl⟩
  have b1 : Below w.heap.size w w1 := by rw [← hw1]; exact alloc_below w _
  have x1 : Lies w1 w.heap.size 37 #[.int .i64 r.min, .int .i64 r.seq, .int .i64 r.ten] := by rw [← hw1]; exact Lies.new w _ _
  have h1 := hr.keep b1
  have AT := Lib.hid (r13at_any B g vI vS l zone w1 h1 hLl)
  rcases at_cases zone l with ⟨hz, hi⟩ | ⟨i, y, hz, hi, hy, hyz⟩
  · have E := Lib.hid (put_none (r := r) hz)
    rw [hi] at AT
    have FIN := Lib.hid (show Left Rg w B g (RFt g vI vS l) (zls l) w1 from left_keep ⟨vI, vS, l, h1, rfl, rfl⟩ b1)
    obtain ⟨rm, rs, rt⟩ := r
    unfold rval
    simp only at hw1 x1
    clear h1 hr x1 hz hi hLl hL b1
    go_enter Try.func9, Try.ntmps9
    go_wp2_with fail
    refine AT.out.mono ?_
    rintro e w2 ⟨rfl, rfl⟩
    go_wp2
    go_ret2
    exact ⟨by rw [E.out]; rfl, by rw [E.out]; exact FIN.out⟩
  · have E := Lib.hid (put_some (r := r) hz hyz)
    rw [hi] at AT
    obtain ⟨p, c, q, d, rfl, rfl, _, hnd⟩ := rlg_slices h1
    obtain ⟨n, hn⟩ : ∃ n, l.length = n := ⟨_, rfl⟩
    rw [hn] at h1 hr hnd ⊢
    obtain ⟨bI, bS, e, e2, _, c2, _, l2⟩ := rlg_at h1 hn hy
    subst e e2
    have hin : (i : Int) < (n : Int) := by have := (List.getElem?_eq_some_iff.1 hy).1; omega
    have hnd' : (n : Int) ≤ (d : Int) := by omega
    have m1 : w1.cell? ⟨g, 1, none⟩ = some (.slice (some ⟨bS, 0, none⟩) n d) := h1.blk.cell 1
    have hgl := h1.blk.lt
    have hym := List.mem_of_getElem? hy
    obtain ⟨s1, s2, s3⟩ := h1.ser y hym
    have hgz := hG y.z (List.mem_of_getElem? hyz)
    have hyl : y.L.length ≤ 1000000 := by
      have hp : y.z.S.length = y.L.length := by
        have e := like_sort (sorted_apart hgz.sorted) s3 s2
        have := congrArg List.length e
        rwa [len_sort, len_sort] at this
      have := hgz.len
      omega
    have PUT := Lib.hid (fun W (hb : Below w1.heap.size w1 W) => rput_any B y.g y.v y.z.wo y.z.ga y.L r W (s1.below hb) hyl)
    obtain ⟨q1, q2, q3, q4⟩ := putR_like (sorted_apart hgz.sorted) s3 s2 r
    have FIN := Lib.hid (fun W w' (hb : Below w1.heap.size w1 W) (hp : RPut W B y.g y.v y.z.wo y.z.ga (putR y.L r).2.2 w') => show Left Rg w B g (RFt g (.slice (some ⟨bI, 0, none⟩) n c) (.slice (some ⟨bS, 0, none⟩) n d) l) ((zls l).set i { y.z with S := sortL (putR y.z.S r).2.2 }) w' from by
      obtain ⟨v', hp1, hp2, hp3⟩ := hp
      obtain ⟨hA, hB⟩ := rlg_put (h1.keep hb) hy hp1 hp2 hp3 q3 q4
      refine ⟨_, ⟨_, _, _, hA, zls_set, rfl⟩, ?_, fun k hk => (hB k hk).imp id (fun hk => by have := b1.size; have := hb.size; omega)⟩
      exact (Turn.of_below (then_ b1 hb)).trans hp2 (fun k hk => .inl (.inr (.inr (.inr ⟨y, hym, hk⟩)))))
    rw [q1, q2] at E
    have c0 : w1.cell? ⟨w.heap.size, 0, none⟩ = some (.int .i64 r.min) := x1.cell 0
    have c1 : w1.cell? ⟨w.heap.size, 1, none⟩ = some (.int .i64 r.seq) := x1.cell 1
    have c3 : w1.cell? ⟨w.heap.size, 2, none⟩ = some (.int .i64 r.ten) := x1.cell 2
    have SD : Hid (Below w1.heap.size w1 w1.drew) := Lib.hid ((Below.refl _ w1).drew)
    have hrow := rlg_at h1 hn hy
    have HC := Lib.hid (fun W (hW : Turn (Feet y.g y.v) w1 W) => show W.cell? ⟨g, 1, none⟩ = some (.slice (some ⟨bS, 0, none⟩) n d) ∧ W.cell? ⟨bS, i, none⟩ = some (.pointer (some ⟨y.g, 0, none⟩)) ∧ W.cell? ⟨w.heap.size, 0, none⟩ = some (.int .i64 r.min) ∧ W.cell? ⟨w.heap.size, 1, none⟩ = some (.int .i64 r.seq) ∧ W.cell? ⟨w.heap.size, 2, none⟩ = some (.int .i64 r.ten) from by
      have hxl := x1.lt
      have hnx : ¬ Feet y.g y.v w.heap.size := fun hh => by have := (((hr.ser y hym).1).foot hh).2; omega
      exact ⟨(turn_cell hW hgl (fun hh => (h1.apart y hym g hh).1 rfl)).trans m1, (turn_cell hW l2 (fun hh => (h1.apart y hym bS hh).2.2 rfl)).trans c2, (turn_cell hW hxl hnx).trans c0, (turn_cell hW hxl hnx).trans c1, (turn_cell hW hxl hnx).trans c3⟩)
    have HT := Lib.hid (fun w' (hp : RPut w1.drew B y.g y.v y.z.wo y.z.ga (putR y.L r).2.2 w') => show Turn (Feet y.g y.v) w1 w' from by
      obtain ⟨v', _, hp2, _⟩ := hp
      exact ((Turn.refl (Feet y.g y.v) w1).drew).trans hp2 (fun k hk => .inl hk))
    generalize (putR y.L r).1 = er at E PUT
    generalize (putR y.L r).2.1 = en at E PUT
    generalize (putR y.L r).2.2 = L' at PUT FIN HT
    obtain ⟨rm, rs, rt⟩ := r
    generalize y.g = yg at *
    unfold rval at *
    simp only at hw1 x1 c0 c1 c3
    clear h1 hr x1 hz hi hLl hL b1 hn hy hyz hgl hym s1 s2 s3 hgz hyl q1 q2 q3 q4 l2 hG
    go_enter Try.func9, Try.ntmps9
    go_wp2_with fail
    clear hw1
    refine AT.out.mono ?_
    rintro e w2 ⟨rfl, rfl⟩
    go_wp2_with fail
    have P0 := HC.out w1.drew ((Turn.refl _ w1).drew)
    go_region_held3 (fun w' => w'.cell? ⟨g, 1, none⟩ = some (.slice (some ⟨bS, 0, none⟩) n d) ∧ w'.cell? ⟨bS, i, none⟩ = some (.pointer (some ⟨yg, 0, none⟩)) ∧ w'.cell? ⟨w.heap.size, 0, none⟩ = some (.int .i64 rm) ∧ w'.cell? ⟨w.heap.size, 1, none⟩ = some (.int .i64 rs) ∧ w'.cell? ⟨w.heap.size, 2, none⟩ = some (.int .i64 rt))
      (first | go_keep | exact P1 | exact P0)
      ((go_at_call 24; (with_reducible refine (PUT.out _ SD.out).mono ?_); rintro e w2 ⟨rfl, hp⟩; have HP := Lib.hid hp; have P1 := HC.out w2 (HT.out w2 hp)))
    all_goals
      have FF := FIN.out _ _ SD.out HP.out
      clear P0 P1 hp
      go_wp2
      go_ret2
      exact ⟨by rw [E.out]; rfl, by rw [E.out]; exact FF⟩
end Lg
end Go.Proofs.Ytehiclmkdpcplaa

namespace Go.Proofs.Ytehiclmkdpcplaa
open Go.RowKit

namespace Lg
open Se
theorem air_none {l : List Zl} {zone m : Int} (h : atZ zone l = none) : airZ l zone m = (0, 5) := by unfold airZ; rw [h]
theorem air_some {l : List Zl} {zone m : Int} {i : Nat} {x : Zl} (h : atZ zone l = some i) (hx : l[i]? = some x) : airZ l zone m = (air x.wo x.ga x.S m, 0) := by unfold airZ; rw [h]; simp only [hx]
theorem read_none {l : List Zl} {zone : Int} (h : atZ zone l = none) : readZ l zone = [] := by unfold readZ; rw [h]
theorem read_some {l : List Zl} {zone : Int} {i : Nat} {x : Zl} (h : atZ zone l = some i) (hx : l[i]? = some x) : readZ l zone = x.S := by unfold readZ; rw [h]; simp only [hx]
theorem may_gap {wo ga : Int} (h : mayB wo ga = true) : 0 ≤ ga ∧ ga ≤ 1048575 := by
  unfold mayB at h
  simp only [decide_eq_true_eq] at h
  omega
/-- What is known of a zone that is there. -/
theorem zone_here {W : World} {B g n : Nat} {p q : Option Addr} {c d : Nat} {l : List Rz} {M : Nat} (h : RLg W B g (.slice p n c) (.slice q n d) l) (hn : l.length = n) {i : Nat} {y : Rz} (hy : l[i]? = some y) (hG : Good (zls l) M) (hM : M ≤ 1000000) :
    ∃ bS, q = some ⟨bS, 0, none⟩ ∧ (i : Int) < (n : Int) ∧ W.cell? ⟨g, 1, none⟩ = some (.slice (some ⟨bS, 0, none⟩) n d) ∧ W.cell? ⟨bS, i, none⟩ = some (.pointer (some ⟨y.g, 0, none⟩)) ∧ bS < W.heap.size ∧ RSer W B y.g y.v y.z.wo y.z.ga y.L ∧
      Like y.z.S y.L ∧ Apart y.L ∧ y.L.length ≤ 1000000 ∧ (∀ x ∈ y.L, rightB x = true) ∧ mayB y.z.wo y.z.ga = true ∧ Sorted y.z.S ∧ (n : Int) ≤ (d : Int) := by
  obtain ⟨bI, bS, e, e2, _, c2, _, l2⟩ := rlg_at h hn hy
  subst e e2
  have hm := h.blk.cell 1
  obtain ⟨s1, s2, s3⟩ := h.ser y (List.mem_of_getElem? hy)
  have hyz : (zls l)[i]? = some y.z := by rw [zls_at, hy]; rfl
  have hgz := hG y.z (List.mem_of_getElem? hyz)
  have hlen : y.z.S.length = y.L.length := by
    have e := like_sort (sorted_apart hgz.sorted) s3 s2
    have := congrArg List.length e
    rwa [len_sort, len_sort] at this
  have hi := (List.getElem?_eq_some_iff.1 hy).1
  obtain ⟨_, _, _, _, _, e4, _, hd⟩ := rlg_slices h
  injection e4 with _ _ e4
  have := hgz.len
  exact ⟨bS, rfl, by omega, hm, c2, l2, s1, s2, s3, by omega, fun x hx => hgz.right x ((s2 x).2 hx), hgz.may, hgz.sorted, by omega⟩
set_option maxRecDepth 100000 in
set_option maxHeartbeats 4000000 in
theorem r13air_any (B g : Nat) (F : Nat → Prop) (st : List Zl) (zone m : Int) (w : World) (h : Rg w B g F st) (hL : st.length ≤ 1000000) (hG : Good st 100000) (hm : m ≤ 9223372036854775807) :
    Calls Try.prog 13 #[.pointer (some ⟨g, 0, none⟩), .int .i64 zone, .int .i64 m] w fun e w' => e = .returned (.tuple #[.int .i64 (airZ st zone m).1, .int .i64 ((airZ st zone m).2 : Nat)]) ∧ Below w.heap.size w w' := by
  obtain ⟨vI, vS, l, hr, rfl, rfl⟩ := h
  have hLl : l.length ≤ 1000000 := by have : (zls l).length = l.length := List.length_map ..; omega
  have AT := Lib.hid (r13at_any B g vI vS l zone w hr hLl)
  rcases at_cases zone l with ⟨hz, hi⟩ | ⟨i, y, hz, hi, hy, hyz⟩
  · rw [air_none hz]
    rw [hi] at AT
    clear hr hz hi hLl hL hG
    go_enter Try.func13, Try.ntmps13
    go_wp2_with fail
    refine AT.out.mono ?_
    rintro e w2 ⟨rfl, rfl⟩
    go_wp2
    go_ret2
    exact ⟨rfl, Below.refl _ _⟩
  · rw [air_some hz hyz]
    rw [hi] at AT
    obtain ⟨p, c, q, d, rfl, rfl, _, _⟩ := rlg_slices hr
    obtain ⟨n, hn⟩ : ∃ n, l.length = n := ⟨_, rfl⟩
    rw [hn] at hr
    obtain ⟨bS, rfl, hin, m1, c2, _, s1, s2, s3, hyl, hR, hmay, _, hnd⟩ := zone_here hr hn hy hG (by decide)
    have CA := Lib.hid (rat_any B y.g y.v y.z.wo y.z.ga y.L m w s1 hR (may_gap hmay) hm hyl)
    rw [← like_air s3 s2] at CA
    generalize air y.z.wo y.z.ga y.z.S m = a at *
    generalize y.g = yg at *
    clear hr hz hi hLl hL hG hn hy hyz s1 s2 s3 hyl hR hmay
    go_enter Try.func13, Try.ntmps13
    go_wp2_with fail
    refine AT.out.mono ?_
    rintro e w2 ⟨rfl, rfl⟩
    go_wp2_with fail
    refine CA.out.mono ?_
    rintro e w2 ⟨rfl, hb⟩
    go_wp2
    go_ret2
    exact ⟨rfl, hb⟩
set_option maxRecDepth 100000 in
set_option maxHeartbeats 4000000 in
theorem r13told_any (B g : Nat) (F : Nat → Prop) (st : List Zl) (zone : Int) (w : World) (h : Rg w B g F st) (hL : st.length ≤ 1000000) (hG : Good st 100000) :
    Calls Try.prog 16 #[.pointer (some ⟨g, 0, none⟩), .int .i64 zone] w fun e w' => ∃ v, e = .returned v ∧ w'.ownsRow w.heap.size 37 3 v (readZ st zone).length ((readZ st zone).flatMap rcells) ∧ Below w.heap.size w w' := by
  obtain ⟨vI, vS, l, hr, rfl, rfl⟩ := h
  have hLl : l.length ≤ 1000000 := by have : (zls l).length = l.length := List.length_map ..; omega
  have AT := Lib.hid (r13at_any B g vI vS l zone w hr hLl)
  rcases at_cases zone l with ⟨hz, hi⟩ | ⟨i, y, hz, hi, hy, hyz⟩
  · rw [read_none hz]
    rw [hi] at AT
    clear hr hz hi hLl hL hG
    go_enter Try.func16, Try.ntmps16
    go_wp2_with fail
    refine AT.out.mono ?_
    rintro e w2 ⟨rfl, rfl⟩
    go_wp2
    go_ret
    exact ⟨_, rfl, World.ownsRow_nil _ _ _ _, Below.refl _ _⟩
  · rw [read_some hz hyz]
    rw [hi] at AT
    obtain ⟨p, c, q, d, rfl, rfl, _, _⟩ := rlg_slices hr
    obtain ⟨n, hn⟩ : ∃ n, l.length = n := ⟨_, rfl⟩
    rw [hn] at hr
    obtain ⟨bS, rfl, hin, m1, c2, _, s1, s2, s3, hyl, hR, hmay, hso, hnd⟩ := zone_here hr hn hy hG (by decide)
    have CA := Lib.hid (rall_any B y.g y.v y.z.wo y.z.ga y.L w s1 s3 hyl)
    rw [← like_sort (sorted_apart hso) s3 s2, sort_self hso] at CA
    generalize y.z.S = S at *
    generalize y.g = yg at *
    clear hr hz hi hLl hL hG hn hy hyz s1 s2 s3 hyl hR hmay
    go_enter Try.func16, Try.ntmps16
    go_wp2_with fail
    refine AT.out.mono ?_
    rintro e w2 ⟨rfl, rfl⟩
    go_wp2_with fail
    refine CA.out.mono ?_
    rintro e w2 ⟨v, rfl, ho, hb⟩
    go_wp2
    go_ret
    exact ⟨v, rfl, ho, hb⟩
end Lg
end Go.Proofs.Ytehiclmkdpcplaa
