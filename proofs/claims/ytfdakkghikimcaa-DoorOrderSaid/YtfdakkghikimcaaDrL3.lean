/- The walk over the law that holds package door against the document's answer. Conditions: the contracts of package door; the list reads as marks. -/
import Derived.Test.YtfdakkghikimcaaDrL1
import Derived.Test.YtfdakkghikimcaaDrOrd
import Derived.Test.YtfdakkghikimcaaRng
namespace Go.Proofs.Ytfdakkghikimcaa
open Go.RowKit

namespace Dr
open Se
/-- The document's answer to a mark, and where it lies. -/
theorem dputs_at (p : Option Addr) (n c : Nat) (S : List Rd) (r : Rd) (w : World) (hn : n ≤ 1000000) (h : Rw 3 mcells w p n S) (hS : Good S) (hr : binB r = true) :
    Calls Try.prog 9 #[.slice p n c, mval r] w fun e w' => ∃ p' n' c', e = .returned (.tuple #[.slice p' n' c', .bool (putM S r).1, .int .i64 ((putM S r).2.1 : Nat)]) ∧ Rw 3 mcells w' p' n' (putM S r).2.2 ∧ Below w.heap.size w w' ∧ (p' = p ∧ n' = n ∨ ∀ a, p' = some a → w.heap.size ≤ a.block) := by
  unfold putM
  by_cases hm : rightM r = true
  · rw [if_pos hm]
    refine (dput_yes p n c S r w hn h hm hr hS.bin).mono ?_
    rintro e w' ⟨v, rfl, hown, hb⟩
    rw [putF_put hS.sorted hr hS.bin] at hown ⊢
    obtain ⟨q, cap, e, _, hq⟩ := rw_own mcells_len hown
    subst e
    refine ⟨q, _, cap, rfl, hq, hb, .inr (fun a ha => (hown.lt a.block ?_).1)⟩
    rw [ha]
    rfl
  · rw [if_neg hm]
    refine (dput_no p n c r w (by simpa using hm)).mono ?_
    rintro e w' ⟨rfl, hb⟩
    exact ⟨p, n, c, rfl, h.keep mcells_len hb, hb, .inl ⟨rfl, rfl⟩⟩
/-- The document's marks, beside a book. -/
def MRow (w : World) (F : Nat → Prop) (q : Option Addr) (n : Nat) (S : List Rd) : Prop := Rw 3 mcells w q n S ∧ (0 < n → ∀ a, q = some a → ¬ F a.block)
theorem mrow_put {w w' : World} {F F' : Nat → Prop} {q : Option Addr} {n : Nat} {S : List Rd} (h : MRow w F q n S) (ht : Turn F w w') (hF : ∀ k, F' k → F k ∨ w.heap.size ≤ k) : MRow w' F' q n S := by
  by_cases h0 : 0 < n
  · obtain ⟨b, o, rfl, hc⟩ := h.1.2 h0
    have hl : 0 < S.length := by rw [h.1.1]; exact h0
    have hlt : b < w.heap.size := by
      have := hc 0 S[0] (List.getElem?_eq_getElem hl) 0 (by decide)
      exact World.block_lt_of_cell? w _ this
    have hn := h.2 h0 _ rfl
    refine ⟨h.1.turn mcells_len ht (fun a ha => by cases ha; exact hn) (by simp), fun _ a ha hf => ?_⟩
    cases ha
    rcases hF _ hf with h1 | h1
    · exact hn h1
    · simp only at h1
      omega
  · exact ⟨⟨h.1.1, fun h1 => absurd h1 h0⟩, fun h1 => absurd h1 h0⟩
theorem mrow_new {w w' : World} {F : Nat → Prop} {q q' : Option Addr} {n n' : Nat} {S S' : List Rd} (h : MRow w F q n S) (hF : ∀ k, F k → k < w.heap.size) (h' : Rw 3 mcells w' q' n' S') (hq : q' = q ∧ n' = n ∨ ∀ a, q' = some a → w.heap.size ≤ a.block) : MRow w' F q' n' S' := by
  refine ⟨h', fun h0 a ha hf => ?_⟩
  rcases hq with ⟨rfl, rfl⟩ | hq
  · exact h.2 h0 a ha hf
  · have := hq a ha
    have := hF _ hf
    omega
set_option maxRecDepth 100000 in
set_option maxHeartbeats 4000000 in
theorem dtells_long (I : Face) (p : Option Addr) (n c : Nat) (j a b : Int) (w : World) (hn : 100 < n) (hbig : n ≤ 9223372036854775807) :
    Calls Try.prog 3 #[.slice p n c, .int .i64 j, .agg #[.int .i64 a, .int .i64 b]] w fun e w' => e = .returned (.bool true) ∧ Below w.heap.size w w' := by
  have h1 : (100 : Int) < (n : Int) := by omega
  have AL := Lib.hid (fun W => alive_any I W)
  have B0 := Lib.hid (alloc_below w (.cells #[.int .i64 a, .int .i64 b] 23))
  go_enter Try.func3, Try.ntmps3
  go_wp2_with fail
  refine (AL.out _).mono ?_
  rintro e w3 ⟨rfl, hb⟩
  have B3 := Lib.hid (B0.out.trans (hb.mono B0.out.size))
  clear hb
  go_wp2
  go_ret
  exact ⟨rfl, B3.out⟩
set_option maxRecDepth 100000 in
set_option maxHeartbeats 32000000 in
theorem dtells_yes (I : Face) (p : Option Addr) (n c : Nat) (l : List Rd) (j a b : Int) (w : World) (hn : n ≤ 100) (hnc : n ≤ c) (hA : Rw 3 mcells w p n l) (hbin : ∀ x ∈ l, binB x = true)
    (j0 : -9223372036854775808 ≤ j) (j1 : j ≤ 9223372036854775807) (a0 : -9223372036854775808 ≤ a) (a1 : a ≤ 9223372036854775807) (b0 : -9223372036854775808 ≤ b) (b1 : b ≤ 9223372036854775807) :
    Calls Try.prog 3 #[.slice p n c, .int .i64 j, .agg #[.int .i64 a, .int .i64 b]] w fun e w' => e = .returned (.bool true) ∧ Below w.heap.size w w' := by
  have h1 : (n : Int) ≤ 100 := by omega
  have t100 : decide ((100 : Int) < (n : Int)) = false := by simp; omega
  have HJ := Lib.hid (And.intro j0 j1)
  have HAB := Lib.hid (And.intro (And.intro a0 a1) (And.intro b0 b1))
  have N := Lib.hid (fun W => I.new W)
  have B0 := Lib.hid (alloc_below w (.cells #[.int .i64 a, .int .i64 b] 23))
  have X0 := Lib.hid (Lies.new w 23 #[.int .i64 a, .int .i64 b])
  have A0 := Lib.hid (hA.keep mcells_len B0.out)
  have HL := Lib.hid hA.1
  have HBI := Lib.hid hbin
  clear hA hbin j0 j1 a0 a1 b0 b1
  go_enter Try.func3, Try.ntmps3
  go_wp2_with fail
  refine (N.out _).mono ?_
  rintro e w1 ⟨h, F1, rfl, hp, hb⟩
  generalize w.alloc (.cells #[.int .i64 a, .int .i64 b] 23) = w0 at *
  have P1 := Lib.hid hp
  have B1 := Lib.hid hb
  have M1 : Hid (MRow w1 F1 none 0 []) := Lib.hid ⟨rw_nil w1, fun h => absurd h (by decide)⟩
  clear hb hp N
  go_wp2_with fail
  go_loopw [8, 9] (fun v i wr => ∃ (k m : Nat) (F : Nat → Prop), k ≤ n ∧ i = .int .i64 k ∧ (∃ q d, v = .slice q m d ∧ Hid (MRow wr F q m (marks (l.take k)))) ∧ Hid (I.DB wr w0.heap.size h F (marks (l.take k))) ∧ Hid (Below w0.heap.size w0 wr)) (fun _ i _ => n - (intOf i).toNat)
  case atStart => exact ⟨0, 0, F1, Nat.zero_le _, rfl, ⟨none, 0, rfl, M1⟩, P1, B1⟩
  case round =>
    clear P1 B1 M1
    obtain ⟨k, m, F, hk, rfl, ⟨q, d, rfl, HM⟩, HP, HB⟩ := hrel
    by_cases hlt : k < n
    · obtain ⟨x, hx⟩ : ∃ x, l[k]? = some x := ⟨_, List.getElem?_eq_getElem (by rw [HL.out]; exact hlt)⟩
      obtain ⟨bk, o, rfl, hc⟩ := (A0.out.keep mcells_len HB.out).2 (Nat.lt_of_le_of_lt (Nat.zero_le _) hlt)
      have e0 : wr.cell? ⟨bk, o + k * 3, none⟩ = some (.int .i64 x.min) := hc k x hx 0 (by decide)
      have e1 : wr.cell? ⟨bk, o + k * 3 + 1, none⟩ = some (.int .i64 x.seq) := hc k x hx 1 (by decide)
      have e2 : wr.cell? ⟨bk, o + k * 3 + 2, none⟩ = some (.bool (opB x)) := hc k x hx 2 (by decide)
      have hk3 : (k : Int) < (n : Int) := by omega
      have hkc : (k : Int) < (c : Int) := by omega
      have gx := HBI.out x (List.mem_of_getElem? hx)
      have m1 := marks_take HBI.out k
      have hml : m = (marks (l.take k)).length := HM.out.1.1.symm
      have PP := Lib.hid (I.put _ h F _ x wr HP.out m1.1 (by omega) gx)
      have RR := Lib.hid (fun W (hq : Rw 3 mcells W q m (marks (l.take k))) => dputs_at q m d _ x W (by omega) hq m1.1 gx)
      rw [marks_next hx] at PP RR
      have HX := Lib.hid hx
      clear hx hc gx m1 hml
      unfold mval at PP RR
      generalize hox : opB x = ox at *
      have HOX := Lib.hid hox
      clear hox
      generalize (putM (marks (l.take k)) x).1 = u1 at *
      generalize (putM (marks (l.take k)) x).2.1 = u2 at *
      go_wp2_with fail
      refine PP.out.mono ?_
      rintro e w2 ⟨rfl, F2, hp2, ht2, hF2⟩
      have HM2 := Lib.hid (mrow_put HM.out ht2 hF2)
      have HB2 := Lib.hid (ht2.below HB.out HB.out.size (fun i hi => (I.foot HP.out hi).1))
      have HP2 := Lib.hid hp2
      clear hp2 ht2 hF2 e0 e1 e2 HM HP HB PP
      obtain ⟨_, _, e, hc⟩ := (A0.out.keep mcells_len HB2.out).2 (Nat.lt_of_le_of_lt (Nat.zero_le _) hlt)
      cases e
      have e0 : w2.cell? ⟨bk, o + k * 3, none⟩ = some (.int .i64 x.min) := hc k _ HX.out 0 (by decide)
      have e1 : w2.cell? ⟨bk, o + k * 3 + 1, none⟩ = some (.int .i64 x.seq) := hc k _ HX.out 1 (by decide)
      have e2 : w2.cell? ⟨bk, o + k * 3 + 2, none⟩ = some (.bool ox) := HOX.out ▸ hc k _ HX.out 2 (by decide)
      clear hc
      go_wp2_with fail
      refine (RR.out _ HM2.out.1).mono ?_
      rintro e w3 ⟨q3, n3, d3, rfl, hr3, hb3, hq3⟩
      have HM3 := Lib.hid (mrow_new HM2.out (fun k hk => (I.foot HP2.out hk).2) hr3 hq3)
      have HP3 := Lib.hid (I.keep HP2.out hb3)
      have HB3 := Lib.hid (HB2.out.trans (hb3.mono HB2.out.size))
      have q1 : (u1 != u1) = false := by cases u1 <;> rfl
      have q2 : (((u2 : Nat) : Int) != ((u2 : Nat) : Int)) = false := by simp
      clear hr3 hb3 hq3 e0 e1 e2 HM2 HP2 HB2 RR
      go_wp2
      go_roundw
      case rel => exact ⟨k + 1, n3, F2, by omega, by go_num, ⟨q3, d3, rfl, HM3⟩, HP3, HB3⟩
      case measure => simp [intOf]; omega
    · obtain rfl : k = n := by omega
      have hT : l.take k = l := List.take_of_length_le (by rw [HL.out]; exact Nat.le_refl _)
      rw [hT] at HM HP
      have hG := marks_all l HBI.out
      have hGood := hG.1
      have hsl : (marks l).length ≤ 100 := Nat.le_trans hG.2 (by rw [HL.out]; exact hn)
      generalize marks l = S at *
      have hml := HM.out.1.1
      subst hml
      have HR := Lib.hid HM.out.1
      have K1 := Lib.hid (fun W (hp : I.DB W w0.heap.size h F S) => I.told _ h F _ W hp hGood (by omega))
      have K2 := Lib.hid (fun q q2 d d2 W (h1 : Rw 3 mcells W q S.length S) (h2 : Rw 3 mcells W q2 S.length S) => dmarks_any q q2 _ _ d d2 _ _ W (by omega) ⟨hGood.bin, hGood.bin⟩ h1 h2)
      rw [show decide (S = S) = true by simp] at K2
      have K3 := Lib.hid (fun W (hp : I.DB W w0.heap.size h F S) => I.runs _ h F S a W hp hGood (by omega) HAB.out.1.1 HAB.out.1.2)
      have K4 := Lib.hid (fun W (hr : Rw 3 mcells W q S.length S) => druns_any q S.length d S a W (by omega) hr)
      have K5 := Lib.hid (fun q q2 d d2 (R : List Ru) W (h0 : R.length ≤ 1048576) (h1 : Rw 2 ucells W q R.length R) (h2 : Rw 2 ucells W q2 R.length R) => (dsame_any q q2 _ _ d d2 R R W (by omega) h1 h2).mono (fun e w' hh => (⟨hh.1.trans (by simp), hh.2⟩ : e = .returned (.bool true) ∧ ∃ m, w' = W.drewN m)))
      have K6 := Lib.hid (fun W (hp : I.DB W w0.heap.size h F S) => I.alarms _ h F S j a W hp hGood (by omega) HJ.out.1 HJ.out.2 HAB.out.1.1 HAB.out.1.2)
      have K7 := Lib.hid (fun W (hr : Rw 3 mcells W q S.length S) => dalarms_any q S.length d S j a W (by omega) hr)
      have K8 := Lib.hid (fun W (hp : I.DB W w0.heap.size h F S) => I.isOpen _ h F S b W hp hGood (by omega) HAB.out.2.1 HAB.out.2.2)
      have K9 := Lib.hid (fun W (hr : Rw 3 mcells W q S.length S) => dopens_any q S.length d S b W (by omega) hr hGood)
      have HGS := Lib.hid hGood
      generalize opn S b = ob at *
      have KN := Lib.hid (fun W => I.nil_put ⟨0, 0, 0⟩ W)
      rw [show mval ⟨0, 0, 0⟩ = .agg #[.int .i64 0, .int .i64 0, .bool false] from rfl] at KN
      have NO := Lib.hid (fun W => I.nil_open 1 W)
      have NT := Lib.hid (fun W => I.nil_told W)
      have NR := Lib.hid (fun W => I.nil_runs 9 W)
      have NA := Lib.hid (fun W => I.nil_alarms 0 9 W)
      have AL := Lib.hid (fun W => alive_any I W)
      clear hT hG hGood hsl HM
      go_wp2_with fail
      refine (K1.out _ HP.out).mono ?_
      rintro e w3 ⟨va, rfl, ho, hb⟩
      obtain ⟨qa, da, rfl, _, hra⟩ := rw_own mcells_len ho
      have B3 := Lib.hid (HB.out.trans (hb.mono HB.out.size))
      have P3 := Lib.hid (I.keep HP.out hb)
      have R3 := Lib.hid (HR.out.keep mcells_len hb)
      have RA := Lib.hid hra
      clear ho hb hra HP HR HB K1
      go_wp2_with fail
      refine (K2.out _ _ da d _ RA.out R3.out).mono ?_
      rintro e w4' ⟨rfl, m4, hw4⟩
      have hb : Below w3.heap.size w3 w4' := by rw [hw4]; exact below_drewN (Below.refl _ _) _
      have B4 := Lib.hid ((B3.out.trans (hb.mono B3.out.size)).drew)
      have P4 := Lib.hid (I.keep P3.out hb.drew)
      have R4 := Lib.hid (R3.out.keep mcells_len hb.drew)
      clear hb hw4 P3 R3 B3 RA K2
      go_wp2_with fail
      have z0 : w4'.drew.cell? ⟨w.heap.size, 0, none⟩ = some (.int .i64 a) := (X0.out.below B4.out X0.out.lt).cell 0
      have z1 : w4'.drew.cell? ⟨w.heap.size, 1, none⟩ = some (.int .i64 b) := (X0.out.below B4.out X0.out.lt).cell 1
      refine region_T 10 (fun w' => w'.cell? ⟨w.heap.size, 0, none⟩ = some (.int .i64 a) ∧ w'.cell? ⟨w.heap.size, 1, none⟩ = some (.int .i64 b)) (by kernel_rfl) ⟨z0, z1⟩ (fun hS => ?_)
      refine takeL (i := 0) (v := ?_) rfl (by kernel_rfl) (by kernel_rfl) (by kernel_rfl) (by kernel_rfl) (by kernel_rfl) (fun _ _ _ h => h) (Or.inl ⟨by rfl, ?_⟩) (by assumption) ?_
      rotate_left
      · (intro w' hSw; (try dsimp only at hSw); go_simp; with_reducible rfl)
      try simp only [Act.put, List.setIfInBounds_toArray, List.set_cons_zero, List.set_cons_succ]
      refine takeL (i := 1) (v := ?_) rfl (by kernel_rfl) (by kernel_rfl) (by kernel_rfl) (by kernel_rfl) (by kernel_rfl) (fun _ _ _ h => h) (Or.inl ⟨by rfl, ?_⟩) (by assumption) ?_
      rotate_left
      · (intro w' hSw; (try dsimp only at hSw); go_simp; with_reducible rfl)
      try simp only [Act.put, List.setIfInBounds_toArray, List.set_cons_zero, List.set_cons_succ]
      refine takeL (i := 2) (v := ?_) rfl (by kernel_rfl) (by kernel_rfl) (by kernel_rfl) (by kernel_rfl) (by kernel_rfl) (fun _ _ _ h => h) (Or.inl ⟨by rfl, ?_⟩) (by assumption) ?_
      rotate_left
      · (intro w' hSw; (try dsimp only at hSw); go_simp; with_reducible rfl)
      try simp only [Act.put, List.setIfInBounds_toArray, List.set_cons_zero, List.set_cons_succ]
      refine takeL (i := 4) (v := ?_) rfl (by kernel_rfl) (by kernel_rfl) (by kernel_rfl) (by kernel_rfl) (by kernel_rfl) (fun _ _ _ h => h) (Or.inl ⟨by rfl, ?_⟩) (by assumption) ?_
      rotate_left
      · (intro w' hSw; (try dsimp only at hSw); go_simp; with_reducible rfl)
      try simp only [Act.put, List.setIfInBounds_toArray, List.set_cons_zero, List.set_cons_succ]
      refine takeL (i := 5) (v := ?_) rfl (by kernel_rfl) (by kernel_rfl) (by kernel_rfl) (by kernel_rfl) (by kernel_rfl) (fun _ _ _ h => h) (Or.inl ⟨by rfl, ?_⟩) (by assumption) ?_
      rotate_left
      · (intro w' hSw; (try dsimp only at hSw); go_simp; with_reducible rfl)
      try simp only [Act.put, List.setIfInBounds_toArray, List.set_cons_zero, List.set_cons_succ]
      refine takeL (i := 6) (v := ?_) rfl (by kernel_rfl) (by kernel_rfl) (by kernel_rfl) (by kernel_rfl) (by kernel_rfl) (fun _ _ _ h => h) (Or.inl ⟨by rfl, ?_⟩) (by assumption) ?_
      rotate_left
      · (intro w' hSw; (try dsimp only at hSw); go_simp; with_reducible rfl)
      try simp only [Act.put, List.setIfInBounds_toArray, List.set_cons_zero, List.set_cons_succ]
      refine oneL (i := 3) (by kernel_rfl) rfl (fun K hK => ?_)
      go_simp
      refine (K3.out _ P4.out).mono ?_
      rintro e w5 ⟨vr, R, rfl, hr, hrl, ho, hb⟩
      obtain ⟨qr, dr, rfl, _, hrr⟩ := rw_own ucells_len ho
      have B5 := Lib.hid (B4.out.trans (hb.mono B4.out.size))
      have P5 := Lib.hid (I.keep P4.out hb)
      have R5 := Lib.hid (R4.out.keep mcells_len hb)
      have HR1 := Lib.hid hr
      have HRL := Lib.hid hrl
      have RR5 := Lib.hid hrr
      clear hr hrl ho hb hrr P4 R4 B4 K3 z0 z1 hS
      have z0 : w5.cell? ⟨w.heap.size, 0, none⟩ = some (.int .i64 a) := (X0.out.below B5.out X0.out.lt).cell 0
      have z1 : w5.cell? ⟨w.heap.size, 1, none⟩ = some (.int .i64 b) := (X0.out.below B5.out X0.out.lt).cell 1
      refine hK.out _ _ (fun _ => ⟨z0, z1⟩) ?_
      clear hK K
      try simp only [Act.put, List.setIfInBounds_toArray, List.set_cons_zero, List.set_cons_succ]
      refine oneL (i := 7) (by kernel_rfl) rfl (fun K hK => ?_)
      go_simp
      refine (K4.out _ R5.out).mono ?_
      rintro e w6 ⟨vs, R', rfl, hr, _, ho, hb⟩
      obtain rfl := runs_same HGS.out HR1.out hr
      obtain ⟨qs, ds, rfl, _, hss⟩ := rw_own ucells_len ho
      have B6 := Lib.hid (B5.out.trans (hb.mono B5.out.size))
      have P6 := Lib.hid (I.keep P5.out hb)
      have R6 := Lib.hid (R5.out.keep mcells_len hb)
      have RR6 := Lib.hid (RR5.out.keep ucells_len hb)
      have RS6 := Lib.hid hss
      have K5' := Lib.hid (K5.out qr qs dr ds _ w6 HRL.out RR6.out RS6.out)
      clear hr ho hb hss P5 R5 B5 RR5 K4 z0 z1
      have z0 : w6.cell? ⟨w.heap.size, 0, none⟩ = some (.int .i64 a) := (X0.out.below B6.out X0.out.lt).cell 0
      have z1 : w6.cell? ⟨w.heap.size, 1, none⟩ = some (.int .i64 b) := (X0.out.below B6.out X0.out.lt).cell 1
      refine hK.out _ _ (fun _ => ⟨z0, z1⟩) ?_
      clear hK K
      try simp only [Act.put, List.setIfInBounds_toArray, List.set_cons_zero, List.set_cons_succ]
      refine oneL (i := 8) (by kernel_rfl) rfl (fun K hK => ?_)
      go_simp
      refine K5'.out.mono ?_
      rintro e w7 ⟨rfl, m7, hw7⟩
      have hb : Below w6.heap.size w6 w7 := by rw [hw7]; exact below_drewN (Below.refl _ _) _
      have B7 := Lib.hid (B6.out.trans (hb.mono B6.out.size))
      have P7 := Lib.hid (I.keep P6.out hb)
      have R7 := Lib.hid (R6.out.keep mcells_len hb)
      clear hb hw7 P6 R6 B6 RR6 RS6 K5' HRL HR1 z0 z1
      have z0 : w7.cell? ⟨w.heap.size, 0, none⟩ = some (.int .i64 a) := (X0.out.below B7.out X0.out.lt).cell 0
      have z1 : w7.cell? ⟨w.heap.size, 1, none⟩ = some (.int .i64 b) := (X0.out.below B7.out X0.out.lt).cell 1
      refine hK.out _ _ (fun _ => ⟨z0, z1⟩) ?_
      clear hK K
      try simp only [Act.put, List.setIfInBounds_toArray, List.set_cons_zero, List.set_cons_succ]
      have hS := And.intro z0 z1
      refine takeL (i := 9) (v := ?_) rfl (by kernel_rfl) (by kernel_rfl) (by kernel_rfl) (by kernel_rfl) (by kernel_rfl) (fun _ _ _ h => h) (Or.inl ⟨by rfl, ?_⟩) (by assumption) ?_
      rotate_left
      · (intro w' hSw; (try dsimp only at hSw); go_simp; with_reducible rfl)
      try simp only [Act.put, List.setIfInBounds_toArray, List.set_cons_zero, List.set_cons_succ]
      refine doneO (by kernel_rfl) ?_ _
      clear hS z0 z1
      have B8 := Lib.hid (B7.out.drew)
      have P8 := Lib.hid (I.keep P7.out (Below.refl _ _).drew)
      have R8 := Lib.hid (R7.out.keep mcells_len (Below.refl _ _).drew)
      clear P7 R7 B7
      go_wp2_with fail
      have z0 : w7.drew.cell? ⟨w.heap.size, 0, none⟩ = some (.int .i64 a) := (X0.out.below B8.out X0.out.lt).cell 0
      have z1 : w7.drew.cell? ⟨w.heap.size, 1, none⟩ = some (.int .i64 b) := (X0.out.below B8.out X0.out.lt).cell 1
      refine region_T 12 (fun w' => w'.cell? ⟨w.heap.size, 0, none⟩ = some (.int .i64 a) ∧ w'.cell? ⟨w.heap.size, 1, none⟩ = some (.int .i64 b)) (by kernel_rfl) ⟨z0, z1⟩ (fun hS => ?_)
      refine takeL (i := 0) (v := ?_) rfl (by kernel_rfl) (by kernel_rfl) (by kernel_rfl) (by kernel_rfl) (by kernel_rfl) (fun _ _ _ h => h) (Or.inl ⟨by rfl, ?_⟩) (by assumption) ?_
      rotate_left
      · (intro w' hSw; (try dsimp only at hSw); go_simp; with_reducible rfl)
      try simp only [Act.put, List.setIfInBounds_toArray, List.set_cons_zero, List.set_cons_succ]
      refine takeL (i := 1) (v := ?_) rfl (by kernel_rfl) (by kernel_rfl) (by kernel_rfl) (by kernel_rfl) (by kernel_rfl) (fun _ _ _ h => h) (Or.inl ⟨by rfl, ?_⟩) (by assumption) ?_
      rotate_left
      · (intro w' hSw; (try dsimp only at hSw); go_simp; with_reducible rfl)
      try simp only [Act.put, List.setIfInBounds_toArray, List.set_cons_zero, List.set_cons_succ]
      refine takeL (i := 2) (v := ?_) rfl (by kernel_rfl) (by kernel_rfl) (by kernel_rfl) (by kernel_rfl) (by kernel_rfl) (fun _ _ _ h => h) (Or.inl ⟨by rfl, ?_⟩) (by assumption) ?_
      rotate_left
      · (intro w' hSw; (try dsimp only at hSw); go_simp; with_reducible rfl)
      try simp only [Act.put, List.setIfInBounds_toArray, List.set_cons_zero, List.set_cons_succ]
      refine takeL (i := 3) (v := ?_) rfl (by kernel_rfl) (by kernel_rfl) (by kernel_rfl) (by kernel_rfl) (by kernel_rfl) (fun _ _ _ h => h) (Or.inl ⟨by rfl, ?_⟩) (by assumption) ?_
      rotate_left
      · (intro w' hSw; (try dsimp only at hSw); go_simp; with_reducible rfl)
      try simp only [Act.put, List.setIfInBounds_toArray, List.set_cons_zero, List.set_cons_succ]
      refine takeL (i := 5) (v := ?_) rfl (by kernel_rfl) (by kernel_rfl) (by kernel_rfl) (by kernel_rfl) (by kernel_rfl) (fun _ _ _ h => h) (Or.inl ⟨by rfl, ?_⟩) (by assumption) ?_
      rotate_left
      · (intro w' hSw; (try dsimp only at hSw); go_simp; with_reducible rfl)
      try simp only [Act.put, List.setIfInBounds_toArray, List.set_cons_zero, List.set_cons_succ]
      refine takeL (i := 6) (v := ?_) rfl (by kernel_rfl) (by kernel_rfl) (by kernel_rfl) (by kernel_rfl) (by kernel_rfl) (fun _ _ _ h => h) (Or.inl ⟨by rfl, ?_⟩) (by assumption) ?_
      rotate_left
      · (intro w' hSw; (try dsimp only at hSw); go_simp; with_reducible rfl)
      try simp only [Act.put, List.setIfInBounds_toArray, List.set_cons_zero, List.set_cons_succ]
      refine takeL (i := 7) (v := ?_) rfl (by kernel_rfl) (by kernel_rfl) (by kernel_rfl) (by kernel_rfl) (by kernel_rfl) (fun _ _ _ h => h) (Or.inl ⟨by rfl, ?_⟩) (by assumption) ?_
      rotate_left
      · (intro w' hSw; (try dsimp only at hSw); go_simp; with_reducible rfl)
      try simp only [Act.put, List.setIfInBounds_toArray, List.set_cons_zero, List.set_cons_succ]
      refine takeL (i := 8) (v := ?_) rfl (by kernel_rfl) (by kernel_rfl) (by kernel_rfl) (by kernel_rfl) (by kernel_rfl) (fun _ _ _ h => h) (Or.inl ⟨by rfl, ?_⟩) (by assumption) ?_
      rotate_left
      · (intro w' hSw; (try dsimp only at hSw); go_simp; with_reducible rfl)
      try simp only [Act.put, List.setIfInBounds_toArray, List.set_cons_zero, List.set_cons_succ]
      refine oneL (i := 4) (by kernel_rfl) rfl (fun K hK => ?_)
      go_simp
      refine (K6.out _ P8.out).mono ?_
      rintro e w9 ⟨vr, R, rfl, hr, hrl, ho, hb⟩
      obtain ⟨qr, dr, rfl, _, hrr⟩ := rw_own ucells_len ho
      have B9 := Lib.hid (B8.out.trans (hb.mono B8.out.size))
      have P9 := Lib.hid (I.keep P8.out hb)
      have R9 := Lib.hid (R8.out.keep mcells_len hb)
      have HR1 := Lib.hid hr
      have HRL := Lib.hid hrl
      have RR9 := Lib.hid hrr
      clear hr hrl ho hb hrr P8 R8 B8 K6 z0 z1 hS
      have z0 : w9.cell? ⟨w.heap.size, 0, none⟩ = some (.int .i64 a) := (X0.out.below B9.out X0.out.lt).cell 0
      have z1 : w9.cell? ⟨w.heap.size, 1, none⟩ = some (.int .i64 b) := (X0.out.below B9.out X0.out.lt).cell 1
      refine hK.out _ _ (fun _ => ⟨z0, z1⟩) ?_
      clear hK K
      try simp only [Act.put, List.setIfInBounds_toArray, List.set_cons_zero, List.set_cons_succ]
      refine oneL (i := 9) (by kernel_rfl) rfl (fun K hK => ?_)
      go_simp
      refine (K7.out _ R9.out).mono ?_
      rintro e w10 ⟨vs, R', rfl, hr, _, ho, hb⟩
      obtain rfl := runs_same HGS.out HR1.out hr
      obtain ⟨qs, ds, rfl, _, hss⟩ := rw_own ucells_len ho
      have B10 := Lib.hid (B9.out.trans (hb.mono B9.out.size))
      have P10 := Lib.hid (I.keep P9.out hb)
      have R10 := Lib.hid (R9.out.keep mcells_len hb)
      have RR10 := Lib.hid (RR9.out.keep ucells_len hb)
      have RS10 := Lib.hid hss
      have K5' := Lib.hid (K5.out qr qs dr ds _ w10 (Nat.le_trans (List.length_filter_le _ _) HRL.out) RR10.out RS10.out)
      clear hr ho hb hss P9 R9 B9 RR9 K7 z0 z1
      have z0 : w10.cell? ⟨w.heap.size, 0, none⟩ = some (.int .i64 a) := (X0.out.below B10.out X0.out.lt).cell 0
      have z1 : w10.cell? ⟨w.heap.size, 1, none⟩ = some (.int .i64 b) := (X0.out.below B10.out X0.out.lt).cell 1
      refine hK.out _ _ (fun _ => ⟨z0, z1⟩) ?_
      clear hK K
      try simp only [Act.put, List.setIfInBounds_toArray, List.set_cons_zero, List.set_cons_succ]
      refine oneL (i := 10) (by kernel_rfl) rfl (fun K hK => ?_)
      go_simp
      refine K5'.out.mono ?_
      rintro e w11 ⟨rfl, m7, hw7⟩
      have hb : Below w10.heap.size w10 w11 := by rw [hw7]; exact below_drewN (Below.refl _ _) _
      have B11 := Lib.hid (B10.out.trans (hb.mono B10.out.size))
      have P11 := Lib.hid (I.keep P10.out hb)
      have R11 := Lib.hid (R10.out.keep mcells_len hb)
      clear hb hw7 P10 R10 B10 RR10 RS10 K5' HRL HR1 K5 z0 z1
      have z0 : w11.cell? ⟨w.heap.size, 0, none⟩ = some (.int .i64 a) := (X0.out.below B11.out X0.out.lt).cell 0
      have z1 : w11.cell? ⟨w.heap.size, 1, none⟩ = some (.int .i64 b) := (X0.out.below B11.out X0.out.lt).cell 1
      refine hK.out _ _ (fun _ => ⟨z0, z1⟩) ?_
      clear hK K
      try simp only [Act.put, List.setIfInBounds_toArray, List.set_cons_zero, List.set_cons_succ]
      have hS := And.intro z0 z1
      refine takeL (i := 11) (v := ?_) rfl (by kernel_rfl) (by kernel_rfl) (by kernel_rfl) (by kernel_rfl) (by kernel_rfl) (fun _ _ _ h => h) (Or.inl ⟨by rfl, ?_⟩) (by assumption) ?_
      rotate_left
      · (intro w' hSw; (try dsimp only at hSw); go_simp; with_reducible rfl)
      try simp only [Act.put, List.setIfInBounds_toArray, List.set_cons_zero, List.set_cons_succ]
      refine doneO (by kernel_rfl) ?_ _
      clear hS z0 z1
      go_wp2_with fail
      refine (KN.out _).mono ?_
      rintro e w12 ⟨rfl, hb⟩
      have hb := hb.drew
      have B12 := Lib.hid (B11.out.trans (hb.mono B11.out.size))
      have P12 := Lib.hid (I.keep P11.out hb)
      have R12 := Lib.hid (R11.out.keep mcells_len hb)
      clear hb P11 R11 B11 KN
      go_wp2_with fail
      have z0 : w12.drew.cell? ⟨w.heap.size, 0, none⟩ = some (.int .i64 a) := (X0.out.below B12.out X0.out.lt).cell 0
      have z1 : w12.drew.cell? ⟨w.heap.size, 1, none⟩ = some (.int .i64 b) := (X0.out.below B12.out X0.out.lt).cell 1
      refine region_T 45 (fun w' => w'.cell? ⟨w.heap.size, 0, none⟩ = some (.int .i64 a) ∧ w'.cell? ⟨w.heap.size, 1, none⟩ = some (.int .i64 b)) (by kernel_rfl) ⟨z0, z1⟩ (fun hS => ?_)
      refine oneL (i := 0) (by kernel_rfl) rfl (fun K hK => ?_)
      go_simp
      refine (AL.out _).mono ?_
      rintro e w13 ⟨rfl, hb⟩
      have B13 := Lib.hid (B12.out.trans (hb.mono B12.out.size))
      have P13 := Lib.hid (I.keep P12.out hb)
      have R13 := Lib.hid (R12.out.keep mcells_len hb)
      clear hb P12 R12 B12 z0 z1 hS
      have z0 : w13.cell? ⟨w.heap.size, 0, none⟩ = some (.int .i64 a) := (X0.out.below B13.out X0.out.lt).cell 0
      have z1 : w13.cell? ⟨w.heap.size, 1, none⟩ = some (.int .i64 b) := (X0.out.below B13.out X0.out.lt).cell 1
      refine hK.out _ _ (fun _ => ⟨z0, z1⟩) ?_
      clear hK K
      try simp only [Act.put, List.setIfInBounds_toArray, List.set_cons_zero, List.set_cons_succ]
      have hS := And.intro z0 z1
      refine takeL (i := 1) (v := ?_) rfl (by kernel_rfl) (by kernel_rfl) (by kernel_rfl) (by kernel_rfl) (by kernel_rfl) (fun _ _ _ h => h) (Or.inl ⟨by rfl, ?_⟩) (by assumption) ?_
      rotate_left
      · (intro w' hSw; (try dsimp only at hSw); go_simp; with_reducible rfl)
      try simp only [Act.put, List.setIfInBounds_toArray, List.set_cons_zero, List.set_cons_succ]
      refine takeL (i := 2) (v := ?_) rfl (by kernel_rfl) (by kernel_rfl) (by kernel_rfl) (by kernel_rfl) (by kernel_rfl) (fun _ _ _ h => h) (Or.inl ⟨by rfl, ?_⟩) (by assumption) ?_
      rotate_left
      · (intro w' hSw; (try dsimp only at hSw); go_simp; with_reducible rfl)
      try simp only [Act.put, List.setIfInBounds_toArray, List.set_cons_zero, List.set_cons_succ]
      refine takeL (i := 3) (v := ?_) rfl (by kernel_rfl) (by kernel_rfl) (by kernel_rfl) (by kernel_rfl) (by kernel_rfl) (fun _ _ _ h => h) (Or.inl ⟨by rfl, ?_⟩) (by assumption) ?_
      rotate_left
      · (intro w' hSw; (try dsimp only at hSw); go_simp; with_reducible rfl)
      try simp only [Act.put, List.setIfInBounds_toArray, List.set_cons_zero, List.set_cons_succ]
      refine takeL (i := 4) (v := ?_) rfl (by kernel_rfl) (by kernel_rfl) (by kernel_rfl) (by kernel_rfl) (by kernel_rfl) (fun _ _ _ h => h) (Or.inl ⟨by rfl, ?_⟩) (by assumption) ?_
      rotate_left
      · (intro w' hSw; (try dsimp only at hSw); go_simp; with_reducible rfl)
      try simp only [Act.put, List.setIfInBounds_toArray, List.set_cons_zero, List.set_cons_succ]
      refine takeL (i := 5) (v := ?_) rfl (by kernel_rfl) (by kernel_rfl) (by kernel_rfl) (by kernel_rfl) (by kernel_rfl) (fun _ _ _ h => h) (Or.inl ⟨by rfl, ?_⟩) (by assumption) ?_
      rotate_left
      · (intro w' hSw; (try dsimp only at hSw); go_simp; with_reducible rfl)
      try simp only [Act.put, List.setIfInBounds_toArray, List.set_cons_zero, List.set_cons_succ]
      refine takeL (i := 6) (v := ?_) rfl (by kernel_rfl) (by kernel_rfl) (by kernel_rfl) (by kernel_rfl) (by kernel_rfl) (fun _ _ _ h => h) (Or.inl ⟨by rfl, ?_⟩) (by assumption) ?_
      rotate_left
      · (intro w' hSw; (try dsimp only at hSw); go_simp; with_reducible rfl)
      try simp only [Act.put, List.setIfInBounds_toArray, List.set_cons_zero, List.set_cons_succ]
      refine takeL (i := 7) (v := ?_) rfl (by kernel_rfl) (by kernel_rfl) (by kernel_rfl) (by kernel_rfl) (by kernel_rfl) (fun _ _ _ h => h) (Or.inl ⟨by rfl, ?_⟩) (by assumption) ?_
      rotate_left
      · (intro w' hSw; (try dsimp only at hSw); go_simp; with_reducible rfl)
      try simp only [Act.put, List.setIfInBounds_toArray, List.set_cons_zero, List.set_cons_succ]
      refine takeL (i := 8) (v := ?_) rfl (by kernel_rfl) (by kernel_rfl) (by kernel_rfl) (by kernel_rfl) (by kernel_rfl) (fun _ _ _ h => h) (Or.inl ⟨by rfl, ?_⟩) (by assumption) ?_
      rotate_left
      · (intro w' hSw; (try dsimp only at hSw); go_simp; with_reducible rfl)
      try simp only [Act.put, List.setIfInBounds_toArray, List.set_cons_zero, List.set_cons_succ]
      refine takeL (i := 9) (v := ?_) rfl (by kernel_rfl) (by kernel_rfl) (by kernel_rfl) (by kernel_rfl) (by kernel_rfl) (fun _ _ _ h => h) (Or.inl ⟨by rfl, ?_⟩) (by assumption) ?_
      rotate_left
      · (intro w' hSw; (try dsimp only at hSw); go_simp; with_reducible rfl)
      try simp only [Act.put, List.setIfInBounds_toArray, List.set_cons_zero, List.set_cons_succ]
      refine takeL (i := 10) (v := ?_) rfl (by kernel_rfl) (by kernel_rfl) (by kernel_rfl) (by kernel_rfl) (by kernel_rfl) (fun _ _ _ h => h) (Or.inl ⟨by rfl, ?_⟩) (by assumption) ?_
      rotate_left
      · (intro w' hSw; (try dsimp only at hSw); go_simp; with_reducible rfl)
      try simp only [Act.put, List.setIfInBounds_toArray, List.set_cons_zero, List.set_cons_succ]
      refine takeL (i := 11) (v := ?_) rfl (by kernel_rfl) (by kernel_rfl) (by kernel_rfl) (by kernel_rfl) (by kernel_rfl) (fun _ _ _ h => h) (Or.inl ⟨by rfl, ?_⟩) (by assumption) ?_
      rotate_left
      · (intro w' hSw; (try dsimp only at hSw); go_simp; with_reducible rfl)
      try simp only [Act.put, List.setIfInBounds_toArray, List.set_cons_zero, List.set_cons_succ]
      refine takeL (i := 12) (v := ?_) rfl (by kernel_rfl) (by kernel_rfl) (by kernel_rfl) (by kernel_rfl) (by kernel_rfl) (fun _ _ _ h => h) (Or.inl ⟨by rfl, ?_⟩) (by assumption) ?_
      rotate_left
      · (intro w' hSw; (try dsimp only at hSw); go_simp; with_reducible rfl)
      try simp only [Act.put, List.setIfInBounds_toArray, List.set_cons_zero, List.set_cons_succ]
      refine takeL (i := 13) (v := ?_) rfl (by kernel_rfl) (by kernel_rfl) (by kernel_rfl) (by kernel_rfl) (by kernel_rfl) (fun _ _ _ h => h) (Or.inl ⟨by rfl, ?_⟩) (by assumption) ?_
      rotate_left
      · (intro w' hSw; (try dsimp only at hSw); go_simp; with_reducible rfl)
      try simp only [Act.put, List.setIfInBounds_toArray, List.set_cons_zero, List.set_cons_succ]
      refine takeL (i := 15) (v := ?_) rfl (by kernel_rfl) (by kernel_rfl) (by kernel_rfl) (by kernel_rfl) (by kernel_rfl) (fun _ _ _ h => h) (Or.inl ⟨by rfl, ?_⟩) (by assumption) ?_
      rotate_left
      · (intro w' hSw; (try dsimp only at hSw); go_simp; with_reducible rfl)
      try simp only [Act.put, List.setIfInBounds_toArray, List.set_cons_zero, List.set_cons_succ]
      refine takeL (i := 16) (v := ?_) rfl (by kernel_rfl) (by kernel_rfl) (by kernel_rfl) (by kernel_rfl) (by kernel_rfl) (fun _ _ _ h => h) (Or.inl ⟨by rfl, ?_⟩) (by assumption) ?_
      rotate_left
      · (intro w' hSw; (try dsimp only at hSw); go_simp; with_reducible rfl)
      try simp only [Act.put, List.setIfInBounds_toArray, List.set_cons_zero, List.set_cons_succ]
      refine takeL (i := 17) (v := ?_) rfl (by kernel_rfl) (by kernel_rfl) (by kernel_rfl) (by kernel_rfl) (by kernel_rfl) (fun _ _ _ h => h) (Or.inl ⟨by rfl, ?_⟩) (by assumption) ?_
      rotate_left
      · (intro w' hSw; (try dsimp only at hSw); go_simp; with_reducible rfl)
      try simp only [Act.put, List.setIfInBounds_toArray, List.set_cons_zero, List.set_cons_succ]
      refine oneL (i := 14) (by kernel_rfl) rfl (fun K hK => ?_)
      go_simp
      refine (K8.out _ P13.out).mono ?_
      rintro e w14 ⟨rfl, hb⟩
      have B14 := Lib.hid (B13.out.trans (hb.mono B13.out.size))
      have P14 := Lib.hid (I.keep P13.out hb)
      have R14 := Lib.hid (R13.out.keep mcells_len hb)
      clear hb P13 R13 B13 z0 z1 hS
      have z0 : w14.cell? ⟨w.heap.size, 0, none⟩ = some (.int .i64 a) := (X0.out.below B14.out X0.out.lt).cell 0
      have z1 : w14.cell? ⟨w.heap.size, 1, none⟩ = some (.int .i64 b) := (X0.out.below B14.out X0.out.lt).cell 1
      refine hK.out _ _ (fun _ => ⟨z0, z1⟩) ?_
      clear hK K
      try simp only [Act.put, List.setIfInBounds_toArray, List.set_cons_zero, List.set_cons_succ]
      have hS := And.intro z0 z1
      refine oneL (i := 18) (by kernel_rfl) rfl (fun K hK => ?_)
      go_simp
      refine (K9.out _ R14.out).mono ?_
      rintro e w14 ⟨rfl, rfl⟩
      have hb : Below w14.heap.size w14 w14 := Below.refl _ _
      have B15 := Lib.hid (B14.out.trans (hb.mono B14.out.size))
      have P15 := Lib.hid (I.keep P14.out hb)
      have R15 := Lib.hid (R14.out.keep mcells_len hb)
      clear hb P14 R14 B14 z0 z1 hS
      have z0 : w14.cell? ⟨w.heap.size, 0, none⟩ = some (.int .i64 a) := (X0.out.below B15.out X0.out.lt).cell 0
      have z1 : w14.cell? ⟨w.heap.size, 1, none⟩ = some (.int .i64 b) := (X0.out.below B15.out X0.out.lt).cell 1
      refine hK.out _ _ (fun _ => ⟨z0, z1⟩) ?_
      clear hK K
      try simp only [Act.put, List.setIfInBounds_toArray, List.set_cons_zero, List.set_cons_succ]
      have hS := And.intro z0 z1
      have tob : (ob == ob) = true := by cases ob <;> rfl
      refine takeL (i := 19) (v := ?_) rfl (by kernel_rfl) (by kernel_rfl) (by kernel_rfl) (by kernel_rfl) (by kernel_rfl) (fun _ _ _ h => h) (Or.inl ⟨by rfl, ?_⟩) (by assumption) ?_
      rotate_left
      · (intro w' hSw; (try dsimp only at hSw); go_simp; with_reducible rfl)
      try simp only [Act.put, List.setIfInBounds_toArray, List.set_cons_zero, List.set_cons_succ]
      refine takeL (i := 20) (v := ?_) rfl (by kernel_rfl) (by kernel_rfl) (by kernel_rfl) (by kernel_rfl) (by kernel_rfl) (fun _ _ _ h => h) (Or.inl ⟨by rfl, ?_⟩) (by assumption) ?_
      rotate_left
      · (intro w' hSw; (try dsimp only at hSw); go_simp; with_reducible rfl)
      try simp only [Act.put, List.setIfInBounds_toArray, List.set_cons_zero, List.set_cons_succ]
      refine takeL (i := 21) (v := ?_) rfl (by kernel_rfl) (by kernel_rfl) (by kernel_rfl) (by kernel_rfl) (by kernel_rfl) (fun _ _ _ h => h) (Or.inl ⟨by rfl, ?_⟩) (by assumption) ?_
      rotate_left
      · (intro w' hSw; (try dsimp only at hSw); go_simp; with_reducible rfl)
      try simp only [Act.put, List.setIfInBounds_toArray, List.set_cons_zero, List.set_cons_succ]
      refine takeL (i := 22) (v := ?_) rfl (by kernel_rfl) (by kernel_rfl) (by kernel_rfl) (by kernel_rfl) (by kernel_rfl) (fun _ _ _ h => h) (Or.inl ⟨by rfl, ?_⟩) (by assumption) ?_
      rotate_left
      · (intro w' hSw; (try dsimp only at hSw); go_simp; with_reducible rfl)
      try simp only [Act.put, List.setIfInBounds_toArray, List.set_cons_zero, List.set_cons_succ]
      refine takeL (i := 23) (v := ?_) rfl (by kernel_rfl) (by kernel_rfl) (by kernel_rfl) (by kernel_rfl) (by kernel_rfl) (fun _ _ _ h => h) (Or.inl ⟨by rfl, ?_⟩) (by assumption) ?_
      rotate_left
      · (intro w' hSw; (try dsimp only at hSw); go_simp; with_reducible rfl)
      try simp only [Act.put, List.setIfInBounds_toArray, List.set_cons_zero, List.set_cons_succ]
      refine takeL (i := 24) (v := ?_) rfl (by kernel_rfl) (by kernel_rfl) (by kernel_rfl) (by kernel_rfl) (by kernel_rfl) (fun _ _ _ h => h) (Or.inl ⟨by rfl, ?_⟩) (by assumption) ?_
      rotate_left
      · (intro w' hSw; (try dsimp only at hSw); go_simp; with_reducible rfl)
      try simp only [Act.put, List.setIfInBounds_toArray, List.set_cons_zero, List.set_cons_succ]
      refine takeL (i := 25) (v := ?_) rfl (by kernel_rfl) (by kernel_rfl) (by kernel_rfl) (by kernel_rfl) (by kernel_rfl) (fun _ _ _ h => h) (Or.inl ⟨by rfl, ?_⟩) (by assumption) ?_
      rotate_left
      · (intro w' hSw; (try dsimp only at hSw); go_simp; with_reducible rfl)
      try simp only [Act.put, List.setIfInBounds_toArray, List.set_cons_zero, List.set_cons_succ]
      refine takeL (i := 26) (v := ?_) rfl (by kernel_rfl) (by kernel_rfl) (by kernel_rfl) (by kernel_rfl) (by kernel_rfl) (fun _ _ _ h => h) (Or.inl ⟨by rfl, ?_⟩) (by assumption) ?_
      rotate_left
      · (intro w' hSw; (try dsimp only at hSw); go_simp; with_reducible rfl)
      try simp only [Act.put, List.setIfInBounds_toArray, List.set_cons_zero, List.set_cons_succ]
      refine oneL (i := 27) (by kernel_rfl) rfl (fun K hK => ?_)
      go_simp
      refine (NO.out _).mono ?_
      rintro e w16 ⟨rfl, hb⟩
      have B16 := Lib.hid (B15.out.trans (hb.mono B15.out.size))
      have P16 := Lib.hid (I.keep P15.out hb)
      have R16 := Lib.hid (R15.out.keep mcells_len hb)
      clear hb P15 R15 B15 z0 z1 hS
      have z0 : w16.cell? ⟨w.heap.size, 0, none⟩ = some (.int .i64 a) := (X0.out.below B16.out X0.out.lt).cell 0
      have z1 : w16.cell? ⟨w.heap.size, 1, none⟩ = some (.int .i64 b) := (X0.out.below B16.out X0.out.lt).cell 1
      refine hK.out _ _ (fun _ => ⟨z0, z1⟩) ?_
      clear hK K
      try simp only [Act.put, List.setIfInBounds_toArray, List.set_cons_zero, List.set_cons_succ]
      have hS := And.intro z0 z1
      refine takeL (i := 28) (v := ?_) rfl (by kernel_rfl) (by kernel_rfl) (by kernel_rfl) (by kernel_rfl) (by kernel_rfl) (fun _ _ _ h => h) (Or.inl ⟨by rfl, ?_⟩) (by assumption) ?_
      rotate_left
      · (intro w' hSw; (try dsimp only at hSw); go_simp; with_reducible rfl)
      try simp only [Act.put, List.setIfInBounds_toArray, List.set_cons_zero, List.set_cons_succ]
      refine takeL (i := 29) (v := ?_) rfl (by kernel_rfl) (by kernel_rfl) (by kernel_rfl) (by kernel_rfl) (by kernel_rfl) (fun _ _ _ h => h) (Or.inl ⟨by rfl, ?_⟩) (by assumption) ?_
      rotate_left
      · (intro w' hSw; (try dsimp only at hSw); go_simp; with_reducible rfl)
      try simp only [Act.put, List.setIfInBounds_toArray, List.set_cons_zero, List.set_cons_succ]
      refine takeL (i := 30) (v := ?_) rfl (by kernel_rfl) (by kernel_rfl) (by kernel_rfl) (by kernel_rfl) (by kernel_rfl) (fun _ _ _ h => h) (Or.inl ⟨by rfl, ?_⟩) (by assumption) ?_
      rotate_left
      · (intro w' hSw; (try dsimp only at hSw); go_simp; with_reducible rfl)
      try simp only [Act.put, List.setIfInBounds_toArray, List.set_cons_zero, List.set_cons_succ]
      refine takeL (i := 31) (v := ?_) rfl (by kernel_rfl) (by kernel_rfl) (by kernel_rfl) (by kernel_rfl) (by kernel_rfl) (fun _ _ _ h => h) (Or.inl ⟨by rfl, ?_⟩) (by assumption) ?_
      rotate_left
      · (intro w' hSw; (try dsimp only at hSw); go_simp; with_reducible rfl)
      try simp only [Act.put, List.setIfInBounds_toArray, List.set_cons_zero, List.set_cons_succ]
      refine takeL (i := 34) (v := ?_) rfl (by kernel_rfl) (by kernel_rfl) (by kernel_rfl) (by kernel_rfl) (by kernel_rfl) (fun _ _ _ h => h) (Or.inl ⟨by rfl, ?_⟩) (by assumption) ?_
      rotate_left
      · (intro w' hSw; (try dsimp only at hSw); go_simp; with_reducible rfl)
      try simp only [Act.put, List.setIfInBounds_toArray, List.set_cons_zero, List.set_cons_succ]
      refine takeL (i := 38) (v := ?_) rfl (by kernel_rfl) (by kernel_rfl) (by kernel_rfl) (by kernel_rfl) (by kernel_rfl) (fun _ _ _ h => h) (Or.inl ⟨by rfl, ?_⟩) (by assumption) ?_
      rotate_left
      · (intro w' hSw; (try dsimp only at hSw); go_simp; with_reducible rfl)
      try simp only [Act.put, List.setIfInBounds_toArray, List.set_cons_zero, List.set_cons_succ]
      refine oneL (i := 32) (by kernel_rfl) rfl (fun K hK => ?_)
      go_simp
      refine (NT.out _).mono ?_
      rintro e w17 ⟨px, cx, rfl, hb⟩
      have B17 := Lib.hid (B16.out.trans (hb.mono B16.out.size))
      have P17 := Lib.hid (I.keep P16.out hb)
      have R17 := Lib.hid (R16.out.keep mcells_len hb)
      clear hb P16 R16 B16 z0 z1 hS
      have z0 : w17.cell? ⟨w.heap.size, 0, none⟩ = some (.int .i64 a) := (X0.out.below B17.out X0.out.lt).cell 0
      have z1 : w17.cell? ⟨w.heap.size, 1, none⟩ = some (.int .i64 b) := (X0.out.below B17.out X0.out.lt).cell 1
      refine hK.out _ _ (fun _ => ⟨z0, z1⟩) ?_
      clear hK K
      try simp only [Act.put, List.setIfInBounds_toArray, List.set_cons_zero, List.set_cons_succ]
      have hS := And.intro z0 z1
      refine takeL (i := 33) (v := ?_) rfl (by kernel_rfl) (by kernel_rfl) (by kernel_rfl) (by kernel_rfl) (by kernel_rfl) (fun _ _ _ h => h) (Or.inl ⟨by rfl, ?_⟩) (by assumption) ?_
      rotate_left
      · (intro w' hSw; (try dsimp only at hSw); go_simp; with_reducible rfl)
      try simp only [Act.put, List.setIfInBounds_toArray, List.set_cons_zero, List.set_cons_succ]
      refine oneL (i := 35) (by kernel_rfl) rfl (fun K hK => ?_)
      go_simp
      refine (NR.out _).mono ?_
      rintro e w18 ⟨py, cy, rfl, hb⟩
      have B18 := Lib.hid (B17.out.trans (hb.mono B17.out.size))
      have P18 := Lib.hid (I.keep P17.out hb)
      have R18 := Lib.hid (R17.out.keep mcells_len hb)
      clear hb P17 R17 B17 z0 z1 hS
      have z0 : w18.cell? ⟨w.heap.size, 0, none⟩ = some (.int .i64 a) := (X0.out.below B18.out X0.out.lt).cell 0
      have z1 : w18.cell? ⟨w.heap.size, 1, none⟩ = some (.int .i64 b) := (X0.out.below B18.out X0.out.lt).cell 1
      refine hK.out _ _ (fun _ => ⟨z0, z1⟩) ?_
      clear hK K
      try simp only [Act.put, List.setIfInBounds_toArray, List.set_cons_zero, List.set_cons_succ]
      have hS := And.intro z0 z1
      refine takeL (i := 36) (v := ?_) rfl (by kernel_rfl) (by kernel_rfl) (by kernel_rfl) (by kernel_rfl) (by kernel_rfl) (fun _ _ _ h => h) (Or.inl ⟨by rfl, ?_⟩) (by assumption) ?_
      rotate_left
      · (intro w' hSw; (try dsimp only at hSw); go_simp; with_reducible rfl)
      try simp only [Act.put, List.setIfInBounds_toArray, List.set_cons_zero, List.set_cons_succ]
      refine takeL (i := 37) (v := ?_) rfl (by kernel_rfl) (by kernel_rfl) (by kernel_rfl) (by kernel_rfl) (by kernel_rfl) (fun _ _ _ h => h) (Or.inl ⟨by rfl, ?_⟩) (by assumption) ?_
      rotate_left
      · (intro w' hSw; (try dsimp only at hSw); go_simp; with_reducible rfl)
      try simp only [Act.put, List.setIfInBounds_toArray, List.set_cons_zero, List.set_cons_succ]
      refine oneL (i := 39) (by kernel_rfl) rfl (fun K hK => ?_)
      go_simp
      refine (NA.out _).mono ?_
      rintro e w19 ⟨pz, cz, rfl, hb⟩
      have B19 := Lib.hid (B18.out.trans (hb.mono B18.out.size))
      have P19 := Lib.hid (I.keep P18.out hb)
      have R19 := Lib.hid (R18.out.keep mcells_len hb)
      clear hb P18 R18 B18 z0 z1 hS
      have z0 : w19.cell? ⟨w.heap.size, 0, none⟩ = some (.int .i64 a) := (X0.out.below B19.out X0.out.lt).cell 0
      have z1 : w19.cell? ⟨w.heap.size, 1, none⟩ = some (.int .i64 b) := (X0.out.below B19.out X0.out.lt).cell 1
      refine hK.out _ _ (fun _ => ⟨z0, z1⟩) ?_
      clear hK K
      try simp only [Act.put, List.setIfInBounds_toArray, List.set_cons_zero, List.set_cons_succ]
      have hS := And.intro z0 z1
      refine takeL (i := 40) (v := ?_) rfl (by kernel_rfl) (by kernel_rfl) (by kernel_rfl) (by kernel_rfl) (by kernel_rfl) (fun _ _ _ h => h) (Or.inl ⟨by rfl, ?_⟩) (by assumption) ?_
      rotate_left
      · (intro w' hSw; (try dsimp only at hSw); go_simp; with_reducible rfl)
      try simp only [Act.put, List.setIfInBounds_toArray, List.set_cons_zero, List.set_cons_succ]
      refine takeL (i := 41) (v := ?_) rfl (by kernel_rfl) (by kernel_rfl) (by kernel_rfl) (by kernel_rfl) (by kernel_rfl) (fun _ _ _ h => h) (Or.inl ⟨by rfl, ?_⟩) (by assumption) ?_
      rotate_left
      · (intro w' hSw; (try dsimp only at hSw); go_simp; with_reducible rfl)
      try simp only [Act.put, List.setIfInBounds_toArray, List.set_cons_zero, List.set_cons_succ]
      refine takeL (i := 42) (v := ?_) rfl (by kernel_rfl) (by kernel_rfl) (by kernel_rfl) (by kernel_rfl) (by kernel_rfl) (fun _ _ _ h => h) (Or.inl ⟨by rfl, ?_⟩) (by assumption) ?_
      rotate_left
      · (intro w' hSw; (try dsimp only at hSw); go_simp; with_reducible rfl)
      try simp only [Act.put, List.setIfInBounds_toArray, List.set_cons_zero, List.set_cons_succ]
      refine takeL (i := 43) (v := ?_) rfl (by kernel_rfl) (by kernel_rfl) (by kernel_rfl) (by kernel_rfl) (by kernel_rfl) (fun _ _ _ h => h) (Or.inl ⟨by rfl, ?_⟩) (by assumption) ?_
      rotate_left
      · (intro w' hSw; (try dsimp only at hSw); go_simp; with_reducible rfl)
      try simp only [Act.put, List.setIfInBounds_toArray, List.set_cons_zero, List.set_cons_succ]
      refine takeL (i := 44) (v := ?_) rfl (by kernel_rfl) (by kernel_rfl) (by kernel_rfl) (by kernel_rfl) (by kernel_rfl) (fun _ _ _ h => h) (Or.inl ⟨by rfl, ?_⟩) (by assumption) ?_
      rotate_left
      · (intro w' hSw; (try dsimp only at hSw); go_simp; with_reducible rfl)
      try simp only [Act.put, List.setIfInBounds_toArray, List.set_cons_zero, List.set_cons_succ]
      refine doneO (by kernel_rfl) ?_ _
      clear hS z0 z1
      go_wp2
      go_ret
      exact ⟨rfl, B0.out.trans (B19.out.mono B0.out.size)⟩
end Dr
end Go.Proofs.Ytfdakkghikimcaa
