/- Walks over package master: what it does with Products. No condition but those written. -/
import Derived.Test.YtpceoklacpcfkaaMsLP
import Derived.Test.YtpceoklacpcfkaaMsPM
namespace Go.Proofs.Ytpceoklacpcfkaa
open Go.RowKit Go.Maps

namespace Ms
/-- What the table holds then. -/
def TaddP (w : World) (B h : Nat) (mz mp : Option Nat) (S : List Pd) (x : Pd) (e : Ending) (w' : World) : Prop :=
  e = .returned (.int .i64 ((addL Pd.id S x).1 : Nat)) ∧ ∃ mo, Lies w' h 54 #[.map mz, .map mo] ∧ Tab Pf Pd.id w' B mo (addL Pd.id S x).2 ∧ Turn (fun k => k = h ∨ mp = some k) w w' ∧ ∀ k, mo = some k → mp = some k ∨ w.heap.size ≤ k
theorem taddP_any (B h : Nat) (mz mp : Option Nat) (S : List Pd) (x : Pd) (w : World) (hl : Lies w h 54 #[.map mz, .map mp]) (ht : Tab Pf Pd.id w B mp S) (hm : In64 x.id) (hB : B ≤ w.heap.size) (hL : S.length ≤ 1000) :
    Calls Try.prog 23 #[.pointer (some ⟨h, 1, none⟩), .int .i64 x.id, pval x] w (TaddP w B h mz mp S x) := by
  cases hf : findK Pd.id x.id S with
  | some y =>
    refine (taddP_twice B h mz mp S x w hl ht hm (by rw [hf]; simp)).mono fun e w' ⟨he, hb⟩ => ?_
    have E : addL Pd.id S x = (6, S) := by unfold addL; rw [hf]
    unfold TaddP
    rw [E]
    have ht2 := Turn.of_below (S := fun _ => False) hb
    exact ⟨he, mp, hl.turn ht2 (fun hh => hh), tab_turn ht ht2 (fun _ _ hh => hh), Turn.of_below hb, fun k hk => .inl hk⟩
  | none =>
    have E : addL Pd.id S x = (0, ins Pd.id x S) := by unfold addL; rw [hf]
    unfold TaddP
    rw [E]
    have ht0 := ht
    rcases ht with ⟨e0, rfl⟩ | ⟨b, D, e0, hBb, hown, hM⟩
    · refine (taddP_first h mz mp x w hl e0 hm).mono fun e w' ⟨he, q, hq, hl2, ho, hT⟩ => ?_
      refine ⟨he, some q, hl2, .inr ⟨q, _, rfl, by omega, ho, mp_put mp_nil Maps.tidy_empty rfl⟩, hT.mono (fun i _ hi => .inl hi), fun k hk => .inr (by have := Option.some.inj hk; omega)⟩
    · have hne : b ≠ h := fun e => tab_ne ht0 hl (by rw [e0, e])
      refine (taddP_more B h b S.length D mz mp S x w hl e0 hown (by unfold maxLen; omega) ht0 hm hf).mono fun e w' ⟨he, ho, hT⟩ => ?_
      have hM2 := mp_put hM (hown.tidy lawI) hf
      have ho2 := own_tight ho
      refine ⟨he, mp, hl.turn hT (fun e => hne e.symm), .inr ⟨b, _, e0, hBb, ?_, hM2⟩, hT.mono (fun i _ hi => .inr (by rw [e0, hi])), fun k hk => .inl hk⟩
      have h3 : Maps.size (D.put (.int .i64 x.id) (pdat x)) = (ins Pd.id x S).length := hM2.size
      rw [h3] at ho2
      exact ho2
theorem pm_addP {w wi w' : World} {B h : Nat} {F : Nat → Prop} {mz mp : Option Nat} {Z : List Zn} {P : List Pd} {x : Pd} {e : Ending} (hB : B ≤ h) (hF : ∀ k, F k ↔ k = h ∨ mz = some k ∨ mp = some k) (hl : Lies wi h 54 #[.map mz, .map mp]) (ho : Tab Zf Zn.id wi B mz Z) (hd : ∀ k, mz = some k → mp ≠ some k)
    (hT : Turn F w wi) (hn : w.heap.size ≤ wi.heap.size) (hlo : ∀ k, mz = some k → k < wi.heap.size) (h2 : TaddP wi B h mz mp P x e w') :
    e = .returned (.int .i64 ((addL Pd.id P x).1 : Nat)) ∧ ∃ F', PM w' B h F' Z (addL Pd.id P x).2 ∧ Turn F w w' ∧ ∀ k, F' k → F k ∨ w.heap.size ≤ k := by
  obtain ⟨he, mo, hl2, ht2, hT2, hk2⟩ := h2
  refine ⟨he, fun k => k = h ∨ mz = some k ∨ mo = some k, ⟨mz, mo, hl2, hB, fun k => Iff.rfl, tab_turn ho hT2 (fun k hk hh => hh.elim (fun e => tab_ne ho hl (by rw [hk, e])) (fun e => hd k hk e)), ht2, ?_⟩, hT.trans hT2 (fun i hi => .inl ((hF i).2 ?_)), fun k hk => ?_⟩
  · intro k hk hk'
    rcases hk2 k hk' with e | e
    · exact hd k hk e
    · have := hlo k hk
      omega
  · rcases hi with rfl | hi
    · exact .inl rfl
    · exact .inr (.inr hi)
  · rcases hk with rfl | hk | hk
    · exact .inl ((hF _).2 (.inl rfl))
    · exact .inl ((hF k).2 (.inr (.inl hk)))
    · exact (hk2 k hk).elim (fun e => .inl ((hF k).2 (.inr (.inr e)))) (fun e => .inr (Nat.le_trans hn e))
set_option maxRecDepth 100000 in
set_option maxHeartbeats 4000000 in
theorem paddP_any (B h : Nat) (F : Nat → Prop) (Z : List Zn) (P : List Pd) (x : Pd) (w : World) (hp : PM w B h F Z P) (hL : P.length ≤ 1000) :
    Calls Try.prog 9 #[.pointer (some ⟨h, 0, none⟩), pval x] w fun e w' =>
      e = .returned (.int .i64 ((addP P x).1 : Nat)) ∧ ∃ F', PM w' B h F' Z (addP P x).2 ∧ Turn F w w' ∧ ∀ k, F' k → F k ∨ w.heap.size ≤ k := by
  have M := Lib.hid (fun W => maybeP_any x W)
  have HP := Lib.hid hp
  by_cases hr : rightP x = true
  case neg =>
    have hr' : rightP x = false := by simpa using hr
    unfold addP
    rw [if_neg hr]
    have HS := Lib.hid (fun W (hW : Below w.heap.size w W) => pm_same hp hW)
    have B0 := Lib.hid (alloc_below w (.cells #[.int .i64 x.id, .int .i64 x.limit, .int .i64 x.budget] 36))
    rw [hr'] at M
    clear hr hr' hp HP
    obtain ⟨a, b, c⟩ := x
    unfold pval at *
    simp only at M B0 ⊢
    go_enter Try.func9, Try.ntmps9
    go_wp2_with fail
    refine (M.out _).mono ?_
    rintro e w1 ⟨rfl, hb⟩
    have B1 := Lib.hid (B0.out.trans (hb.mono B0.out.size))
    clear hb
    go_wp2
    go_ret
    exact ⟨rfl, HS.out _ B1.out⟩
  unfold addP
  rw [if_pos hr]
  have hid := rightP_id hr
  have h64 := in64_of (m := x.id) (by omega) (by omega)
  obtain ⟨mz, mp, hl, hB, hF, hz, hpp, hd⟩ := hp
  have CA := Lib.hid (fun (W : World) (hW : Below w.heap.size w W) => taddP_any B h mz mp P x W (hl.below hW hl.lt) (tab_turn hpp (Turn.of_below (S := fun _ => False) hW) (fun _ _ hh => hh)) h64 (Nat.le_trans hB (Nat.le_of_lt (Nat.lt_of_lt_of_le hl.lt hW.size))) hL)
  have CE := Lib.hid (fun (W : World) (hW : Below w.heap.size w W) e (w' : World) (h2 : TaddP W B h mz mp P x e w') => pm_addP (w := w) (F := F) (Z := Z) (P := P) hB hF (hl.below hW hl.lt) (tab_turn hz (Turn.of_below (S := fun _ => False) hW) (fun _ _ hh => hh)) hd (Turn.of_below hW) hW.size (fun k hk => Nat.lt_of_lt_of_le (tab_lt hz hk).2 hW.size) h2)
  have HL := Lib.hid hl.lt
  have B0 := Lib.hid (alloc_below w (.cells #[.int .i64 x.id, .int .i64 x.limit, .int .i64 x.budget] 36))
  have X0 := Lib.hid (Lies.new w 36 #[.int .i64 x.id, .int .i64 x.limit, .int .i64 x.budget])
  rw [hr] at M
  clear hr hid h64 hl hB hF hz hpp hd HP
  obtain ⟨a, b, c⟩ := x
  unfold pval at *
  simp only at M CA CE B0 X0 ⊢
  go_enter Try.func9, Try.ntmps9
  go_wp2_with fail
  refine (M.out _).mono ?_
  rintro e w1 ⟨rfl, hb⟩
  have B1 := Lib.hid (B0.out.trans (hb.mono B0.out.size))
  have X1 := Lib.hid (X0.out.below hb X0.out.lt)
  clear hb B0 X0 M
  have x0 : w1.cell? ⟨w.heap.size, 0, none⟩ = some (.int .i64 a) := X1.out.cell 0
  have x1 : w1.cell? ⟨w.heap.size, 1, none⟩ = some (.int .i64 b) := X1.out.cell 1
  have x2 : w1.cell? ⟨w.heap.size, 2, none⟩ = some (.int .i64 c) := X1.out.cell 2
  go_wp2_with fail
  go_still_tail 6, (by kernel_rfl)
  repeat still_step
  have BD : Hid (Below w.heap.size w w1.drew) := Lib.hid (below_drewN B1.out 1)
  clear x0 x1 x2
  obtain ⟨w2, hw2⟩ : ∃ w2, w1.drew = w2 := ⟨_, rfl⟩
  rw [hw2] at BD
  rw [show ({ heap := w1.heap, tape := w1.tape, drawn := w1.drawn + 1, os := w1.os, output := w1.output } : World) = w2 from hw2]
  go_wp2_with fail
  refine (CA.out _ BD.out).mono ?_
  intro e w3 he
  have HE := Lib.hid (CE.out _ BD.out _ _ he)
  obtain ⟨rfl, _⟩ := he
  go_wp2
  go_ret
  exact ⟨rfl, HE.out.2⟩
set_option maxRecDepth 100000 in
set_option maxHeartbeats 4000000 in
theorem prowP_any (B h : Nat) (F : Nat → Prop) (Z : List Zn) (P : List Pd) (m : Int) (w : World) (hp : PM w B h F Z P) (h0 : -9223372036854775808 ≤ m) (h1 : m ≤ 9223372036854775807) :
    Calls Try.prog 13 #[.pointer (some ⟨h, 0, none⟩), .int .i64 m] w fun e w' =>
      e = .returned (.tuple #[pval (getK (findK Pd.id m P) pd0).1, .int .i64 ((getK (findK Pd.id m P) pd0).2 : Nat)]) ∧ Below w.heap.size w w' := by
  obtain ⟨mz, mp, hl, hB, hF, hz, hpp, hd⟩ := hp
  have h64 := in64_of h0 h1
  have CA := Lib.hid (fun (W : World) (hW : Below w.heap.size w W) => trowP B h mz mp P m W (hl.below hW hl.lt) (tab_turn hpp (Turn.of_below (S := fun _ => False) hW) (fun _ _ hh => hh)) h64)
  have B0 := Lib.hid (alloc_below w (.cells #[.int .i64 0, .int .i64 0, .int .i64 0] 36))
  have X0 := Lib.hid (Lies.new w 36 #[.int .i64 0, .int .i64 0, .int .i64 0])
  clear hl hB hF hz hpp hd h64 h0 h1
  generalize getK (findK Pd.id m P) pd0 = g at *
  obtain ⟨⟨a, b, c⟩, er⟩ := g
  unfold pval at *
  simp only at CA ⊢
  go_enter Try.func13, Try.ntmps13
  go_wp2_with fail
  refine (CA.out _ B0.out).mono ?_
  rintro e w1 ⟨rfl, hb⟩
  have B1 := Lib.hid (B0.out.trans (hb.mono B0.out.size))
  have X1 := Lib.hid (X0.out.below hb X0.out.lt)
  clear hb B0 X0 CA
  have r0 : w1.cell? ⟨w.heap.size, 0, none⟩ = some (.int .i64 0) := X1.out.cell 0
  have g0 := X1.out.frozen 0
  have r1 : w1.cell? ⟨w.heap.size, 1, none⟩ = some (.int .i64 0) := X1.out.cell 1
  have g1 := X1.out.frozen 1
  have r2 : w1.cell? ⟨w.heap.size, 2, none⟩ = some (.int .i64 0) := X1.out.cell 2
  have g2 := X1.out.frozen 2
  go_wp2
  refine bodyPost_ret (v := .tuple #[.agg #[.int .i64 a, .int .i64 b, .int .i64 c], .int .i64 er]) (by simp [results, Try.results13, go_sem, r0, r1, r2]) rfl ⟨rfl, ?_⟩
  iterate 3 refine Below.setCell ?_ (show w.heap.size ≤ _ from Nat.le_refl _) _
  exact B1.out
theorem pallP_any (B h : Nat) (F : Nat → Prop) (Z : List Zn) (P : List Pd) (w : World) (hp : PM w B h F Z P) (hG : GoodP P) (hL : P.length ≤ 1000) :
    Calls Try.prog 18 #[.pointer (some ⟨h, 0, none⟩)] w (PsEnd P w) := by
  obtain ⟨mz, mp, hl, hB, hF, hz, hpp, hd⟩ := hp
  have CA := Lib.hid (tallP B h mz mp P w hl hpp hG.ord hL (fun x hx => by have := rightP_id (hG.right x hx); exact in64_of (by omega) (by omega)))
  clear hl hB hF hz hpp hd
  go_enter Try.func18, Try.ntmps18
  go_wp2_with fail
  refine CA.out.mono ?_
  intro e w1 he
  obtain ⟨v, rfl, ho, hb⟩ := he
  have HE := Lib.hid (show PsEnd P w (.returned v) w1 from ⟨v, rfl, ho, hb⟩)
  clear ho hb
  go_wp2
  go_ret
  exact HE.out
theorem nil_addP (x : Pd) (w : World) : Calls Try.prog 9 #[.pointer none, pval x] w fun e w' => e = .returned (.int .i64 1) ∧ Below w.heap.size w w' := by
  obtain ⟨a, b, c⟩ := x
  unfold pval
  go_enter Try.func9, Try.ntmps9
  go_wp2
  go_ret
  exact ⟨rfl, alloc_below w _⟩
theorem nil_rowP (m : Int) (w : World) : Calls Try.prog 13 #[.pointer none, .int .i64 m] w fun e w' => e = .returned (.tuple #[pval pd0, .int .i64 1]) ∧ Below w.heap.size w w' := by
  go_enter Try.func13, Try.ntmps13
  go_wp2
  refine bodyPost_ret (v := .tuple #[pval pd0, .int .i64 1]) (by simp [results, Try.results13, go_sem, pval, pd0]) rfl ⟨rfl, alloc_below w _⟩
theorem nil_allP (w : World) : Calls Try.prog 18 #[.pointer none] w fun e w' => e = .returned (.slice none 0 0) ∧ Below w.heap.size w w' := by
  go_enter Try.func18, Try.ntmps18
  go_wp2
  go_ret
  exact ⟨rfl, Below.refl _ _⟩
end Ms
end Go.Proofs.Ytpceoklacpcfkaa
