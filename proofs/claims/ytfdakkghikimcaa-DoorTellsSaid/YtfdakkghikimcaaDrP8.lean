/- Walks over package door: Runs. No condition but those written. -/
import Derived.Test.YtfdakkghikimcaaDrP7
namespace Go.Proofs.Ytfdakkghikimcaa
open Go.RowKit Go.Maps

namespace Dr
open Se
theorem runs_cong {P P' : Int → Bool} {e : Int} {R : List Ru} (h : RunsOf P e R) (hp : ∀ t, t < e → P t = P' t) : RunsOf P' e R :=
  ⟨fun r hr => by
    have h1 := h.each r hr
    exact ⟨h1.1, h1.2.1, h1.2.2.1, fun t ta tb => by rw [← hp t (by omega)]; exact h1.2.2.2 t ta tb⟩, h.rise, fun t t0 t1 ht => h.all t t0 t1 (by rw [hp t t1]; exact ht)⟩
/-- How far the runs are, behind some marks. -/
structure RJ (L : List Rd) (op : Bool) (fr : Int) (R : List Ru) : Prop where
  shut : op = false → (∀ q, (∀ y ∈ L, y.min ≤ q) → RunsOf (opnF L) q R) ∧ ∀ r ∈ R, ∃ y ∈ L, r.b ≤ y.min
  open_ : op = true → 0 ≤ fr ∧ (∃ y ∈ L, fr ≤ y.min) ∧ RunsOf (opnF L) fr R ∧ (∀ r ∈ R, r.b < fr) ∧ ∀ s, fr ≤ s → opnF L s = true
  few : R.length ≤ L.length
theorem rj_start : RJ [] false 0 [] :=
  ⟨fun _ => ⟨fun q _ => ⟨(fun r hr => by cases hr), List.Pairwise.nil, (fun t _ _ ht => by cases ht)⟩, (fun r hr => by cases hr)⟩, (fun h => by cases h), Nat.le_refl _⟩
section
variable {L : List Rd} {fr : Int} {R : List Ru} {x : Rd}
theorem cong_snoc {e : Int} (h : RunsOf (opnF L) e R) (he : e ≤ x.min) : RunsOf (opnF (L ++ [x])) e R :=
  runs_cong h (fun t ht => by rw [opnF_snoc, if_neg (by omega)])
theorem rj_shut_shut (h : RJ L false fr R) (hx : opB x = false) (hl : ∀ y ∈ L, y.min < x.min) : RJ (L ++ [x]) false fr R := by
  obtain ⟨h1, h2⟩ := h.shut rfl
  refine ⟨fun _ => ⟨fun q hq => ?_, fun r hr => ?_⟩, (fun h => by cases h), by have := h.few; simp; omega⟩
  · have h3 := cong_snoc (h1 x.min (fun y hy => Int.le_of_lt (hl y hy))) (Int.le_refl _)
    refine runs_skip h3 (hq x (by simp)) (fun s s0 _ => ?_)
    rw [opnF_snoc, if_pos s0, hx]
  · obtain ⟨y, hy, h3⟩ := h2 r hr
    exact ⟨y, by simp [hy], h3⟩
theorem rj_shut_open (h : RJ L false fr R) (hx : opB x = true) (hl : ∀ y ∈ L, y.min < x.min) (h0 : 0 ≤ x.min) : RJ (L ++ [x]) true x.min R := by
  obtain ⟨h1, h2⟩ := h.shut rfl
  refine ⟨(fun h => by cases h), fun _ => ⟨h0, ⟨x, by simp, Int.le_refl _⟩, cong_snoc (h1 x.min (fun y hy => Int.le_of_lt (hl y hy))) (Int.le_refl _), fun r hr => ?_, fun s hs => ?_⟩, by have := h.few; simp; omega⟩
  · obtain ⟨y, hy, h3⟩ := h2 r hr
    have := hl y hy
    omega
  · rw [opnF_snoc, if_pos hs, hx]
theorem rj_open_open (h : RJ L true fr R) (hx : opB x = true) (hl : ∀ y ∈ L, y.min < x.min) : RJ (L ++ [x]) true fr R := by
  obtain ⟨h1, ⟨y, hy, h2⟩, h3, h4, h5⟩ := h.open_ rfl
  have := hl y hy
  refine ⟨(fun h => by cases h), fun _ => ⟨h1, ⟨y, by simp [hy], h2⟩, cong_snoc h3 (by omega), h4, fun s hs => ?_⟩, by have := h.few; simp; omega⟩
  rw [opnF_snoc]
  split
  · exact hx
  · exact h5 s hs
theorem rj_open_shut (h : RJ L true fr R) (hx : opB x = false) (hl : ∀ y ∈ L, y.min < x.min) : RJ (L ++ [x]) false fr (R ++ [⟨fr, x.min⟩]) := by
  obtain ⟨h1, ⟨y, hy, h2⟩, h3, h4, h5⟩ := h.open_ rfl
  have h6 := hl y hy
  have h7 : RunsOf (opnF (L ++ [x])) x.min (R ++ [⟨fr, x.min⟩]) := runs_new (cong_snoc h3 (by omega)) h1 (by omega) (fun s s0 s1 => by rw [opnF_snoc, if_neg (by omega)]; exact h5 s s0) h4
  refine ⟨fun _ => ⟨fun q hq => ?_, fun r hr => ⟨x, by simp, ?_⟩⟩, (fun h => by cases h), by have := h.few; simp; omega⟩
  · refine runs_skip h7 (hq x (by simp)) (fun s s0 _ => ?_)
    rw [opnF_snoc, if_pos s0, hx]
  · exact (h7.each r hr).2.2.1
end
/-- What is left does not tell of minutes ahead of the end. -/
theorem opnF_take {S : List Rd} {k : Nat} {e : Int} (h : ∀ x ∈ S.drop k, e ≤ x.min) {t : Int} (ht : t < e) : opnF (S.take k) t = opnF S t := by
  have key : ∀ (l : List Rd) (A : List Rd), (∀ x ∈ l, e ≤ x.min) → opnF (A ++ l) t = opnF A t := by
    intro l
    induction l with
    | nil => intro A _; rw [List.append_nil]
    | cons x l ih =>
      intro A hl
      rw [show A ++ x :: l = (A ++ [x]) ++ l by simp, ih (A ++ [x]) (fun y hy => hl y (by simp [hy])), opnF_snoc, if_neg]
      have := hl x (by simp)
      omega
  have := key (S.drop k) (S.take k) h
  rw [List.take_append_drop] at this
  exact this.symm
/-- The end: what the runs are. -/
theorem rj_end {S : List Rd} {k : Nat} {e fr : Int} {op : Bool} {R : List Ru} (h : RJ (S.take k) op fr R) (hb : ∀ y ∈ S.take k, y.min < e) (ha : ∀ x ∈ S.drop k, e ≤ x.min) :
    RunsOf (opnF S) e (if op then R ++ [⟨fr, e⟩] else R) := by
  refine runs_cong (P := opnF (S.take k)) ?_ (fun t ht => opnF_take ha ht)
  cases op
  · exact (h.shut rfl).1 e (fun y hy => Int.le_of_lt (hb y hy))
  · obtain ⟨h1, ⟨y, hy, h2⟩, h3, h4, h5⟩ := h.open_ rfl
    have := hb y hy
    exact runs_new h3 h1 (by omega) (fun s s0 _ => h5 s s0) h4
theorem rises_drop {S : List Rd} (h : Rises S) {k : Nat} {x : Rd} (hx : S[k]? = some x) {e : Int} (he : e ≤ x.min) : ∀ y ∈ S.drop k, e ≤ y.min := by
  intro y hy
  obtain ⟨j, hj⟩ := List.mem_iff_getElem?.1 hy
  rw [List.getElem?_drop] at hj
  obtain ⟨hk, hx'⟩ := List.getElem?_eq_some_iff.1 hx
  obtain ⟨hkj, hy'⟩ := List.getElem?_eq_some_iff.1 hj
  cases j with
  | zero =>
    rw [Nat.add_zero] at hj
    rw [hx] at hj
    rw [← Option.some.inj hj]
    exact he
  | succ j =>
    have := List.pairwise_iff_getElem.1 h k (k + (j + 1)) hk hkj (by omega)
    rw [hx', hy'] at this
    omega
theorem rises_take {S : List Rd} (h : Rises S) {k : Nat} {x : Rd} (hx : S[k]? = some x) : ∀ y ∈ S.take k, y.min < x.min := by
  intro y hy
  obtain ⟨j, hj⟩ := List.mem_iff_getElem?.1 hy
  obtain ⟨hk, hx'⟩ := List.getElem?_eq_some_iff.1 hx
  have hjk : j < k := by
    have := (List.getElem?_eq_some_iff.1 hj).1
    simp at this
    omega
  rw [List.getElem?_take_of_lt hjk] at hj
  obtain ⟨hj', hy'⟩ := List.getElem?_eq_some_iff.1 hj
  have := List.pairwise_iff_getElem.1 h j k hj' hk hjk
  rw [hx', hy'] at this
  exact this
set_option maxRecDepth 100000 in
set_option maxHeartbeats 4000000 in
theorem plast_nil (w : World) : Calls Try.prog 25 #[.pointer none] w fun e w' => e = .returned (.slice none 0 0) ∧ Below w.heap.size w w' := by
  have A0 := Lib.hid (fun W => ptold_nil W)
  go_enter Try.func25, Try.ntmps25
  go_wp2_with fail
  refine (A0.out _).mono ?_
  rintro e w1 ⟨p, c, rfl, hb⟩
  go_wp2
  refine wp_loop_rounds 1 ?_
  rw [rounds_succ]
  go_wp2
  go_ret
  exact ⟨rfl, hb⟩
set_option maxRecDepth 100000 in
set_option maxHeartbeats 4000000 in
theorem pruns_nil (now : Int) (w : World) : Calls Try.prog 13 #[.pointer none, .int .i64 now] w fun e w' => ∃ p c, e = .returned (.slice p 0 c) ∧ Below w.heap.size w w' := by
  have A0 := Lib.hid (fun W => plast_nil W)
  by_cases hn : now < 1048576
  all_goals
    go_enter Try.func13, Try.ntmps13
    go_wp2_with fail
    refine (A0.out _).mono ?_
    rintro e w1 ⟨rfl, hb⟩
    go_wp2
    refine wp_loop_rounds 1 ?_
    rw [rounds_succ]
    go_wp2
    go_ret
    exact ⟨none, 0, rfl, hb⟩
/-- How Runs ends. -/
def RunsEnd (S : List Rd) (now : Int) (w : World) (e : Ending) (w' : World) : Prop :=
  ∃ v R, e = .returned v ∧ RunsOf (opn S) (min now 1048576) R ∧ R.length ≤ 1048576 ∧ w'.ownsRow w.heap.size 50 2 v R.length (R.flatMap ucells) ∧ Below w.heap.size w w'
set_option maxRecDepth 100000 in
set_option maxHeartbeats 8000000 in
theorem pruns_any (B h : Nat) (F : Nat → Prop) (S : List Rd) (now : Int) (w : World) (hp : PDoor w B h F S) (hS : Good S) (hL : S.length ≤ 1000) :
    Calls Try.prog 13 #[.pointer (some ⟨h, 0, none⟩), .int .i64 now] w fun e w' =>
      RunsEnd S now w e w' := by
  obtain ⟨i0, hi, hz0, hz1, hz2⟩ := info_parts infoU
  have A0 := Lib.hid (fun W (hW : PDoor W B h F S) => plast_any B h F S W hW hS hL)
  have HP := Lib.hid hp
  have hg := lasts_good hS
  have HG := Lib.hid hg.1
  have HO : Hid (opnF (lasts S) = opn S) := Lib.hid (by
    funext t
    rw [lasts_opn, opnF_sorted hS.sorted])
  have HL : Hid ((lasts S).length ≤ 1000) := Lib.hid (Nat.le_trans hg.2.2 hL)
  have H0 : Hid (∀ x ∈ lasts S, 0 ≤ x.min) := Lib.hid (fun x hx => by
    have := hS.right x (hg.2.1 x hx)
    simp only [rightM, Bool.and_eq_true, decide_eq_true_eq] at this
    omega)
  clear hp hS hL hg
  generalize lasts S = L at *
  obtain ⟨fin, he⟩ : ∃ fin, min now 1048576 = fin := ⟨_, rfl⟩
  have HE := Lib.hid he
  have hfin : fin ≤ 1048576 := by omega
  go_enter Try.func13, Try.ntmps13
  go_wp2_with fail
  clear he
  refine (A0.out _ HP.out).mono ?_
  rintro e w1 ⟨vs, rfl, hown1, hb1⟩
  have hn0 : L.length ≤ 1000 := HL.out
  obtain ⟨q, c, rfl, _, hrs⟩ := rw_own mcells_len hown1
  have RS := Lib.hid hrs
  have BW := Lib.hid hb1
  clear hown1 hb1 hrs HP A0
  obtain ⟨n, hn⟩ : ∃ n, L.length = n := ⟨_, rfl⟩
  rw [hn] at RS hn0
  have HN := Lib.hid hn
  rw [hn]
  clear hn
  go_wp2
  go_loopw [6, 7, 8, 16] (fun v o f i wr => ∃ (k m : Nat) (op : Bool) (fr : Int) (R : List Ru), k ≤ n ∧ m ≤ k ∧ i = .int .i64 k ∧ (∃ q2 d, v = .slice q2 m d) ∧ o = .bool op ∧ f = .int .i64 fr ∧ Hid (R.length = m) ∧ Hid (RJ (L.take k) op fr R) ∧ Hid (∀ y ∈ L.take k, y.min < fin) ∧ Hid (wr.ownsRow w1.heap.size 50 2 v m (R.flatMap ucells)) ∧ Hid (Below w1.heap.size w1 wr)) (fun _ _ _ i _ => n - (intOf i).toNat)
  case atStart => exact ⟨0, 0, false, 0, [], Nat.zero_le _, Nat.le_refl _, rfl, ⟨none, 0, rfl⟩, rfl, rfl, Lib.hid rfl, Lib.hid rj_start, Lib.hid (fun y hy => by simp at hy), Lib.hid (World.ownsRow_nil _ _ _ _), Lib.hid (Below.refl _ _)⟩
  case round =>
    obtain ⟨k, m, op, fr, R, hk, hmk, rfl, ⟨q2, d, rfl⟩, rfl, rfl, HR, HJ, HBe, RW, HB⟩ := hrel
    by_cases hlt : k < n
    · obtain ⟨x, hx⟩ : ∃ x, L[k]? = some x := ⟨_, List.getElem?_eq_getElem (by rw [HN.out]; exact hlt)⟩
      have RS2 := RS.out.keep mcells_len HB.out
      obtain ⟨b, o, rfl, hc⟩ := RS2.2 (by omega)
      have e0 : wr.cell? ⟨b, o + k * 3, none⟩ = some (.int .i64 x.min) := hc k x hx 0 (by decide)
      have e1 : wr.cell? ⟨b, o + k * 3 + 1, none⟩ = some (.int .i64 x.seq) := hc k x hx 1 (by decide)
      have e2 : wr.cell? ⟨b, o + k * 3 + 2, none⟩ = some (.bool (opB x)) := hc k x hx 2 (by decide)
      have hk3 : (k : Int) < (n : Int) := by omega
      have HLT := Lib.hid (rises_take HG.out hx)
      have HX0 := Lib.hid (H0.out x (List.mem_of_getElem? hx))
      have HK : Hid (L.take (k + 1) = L.take k ++ [x]) := Lib.hid (by rw [List.take_add_one, hx]; rfl)
      have HD := Lib.hid (fun (h : fin ≤ x.min) => rises_drop HG.out hx h)
      clear hc hx RS2
      have RWX := Lib.hid (RW.out.alloc (.cells #[.int .i64 x.min, .int .i64 x.seq, .bool (opB x)] 31))
      have BX := Lib.hid (HB.out.alloc HB.out.size (.cells #[.int .i64 x.min, .int .i64 x.seq, .bool (opB x)] 31))
      by_cases hbr : fin ≤ x.min
      · have HAf := Lib.hid (HD.out hbr)
        generalize opB x = xo at *
        cases op
        · have HT := Lib.hid (rj_end HJ.out HBe.out HAf.out)
          go_wp2
          go_ret
          unfold RunsEnd
          refine ⟨_, R, rfl, ?_, ?_, ?_, BW.out.trans (BX.out.mono BW.out.size)⟩
          · rw [HE.out, ← HO.out]
            exact HT.out
          · have := HR.out
            omega
          · rw [HR.out]
            exact own_base RWX.out BW.out.size
        · have HT := Lib.hid (rj_end HJ.out HBe.out HAf.out)
          have RW6 := Lib.hid (RWX.out.alloc (.cells #[.int .i64 fr, .int .i64 fin] 50))
          have B6 := Lib.hid (BX.out.alloc BX.out.size (.cells #[.int .i64 fr, .int .i64 fin] 50))
          have hz6 := HB.out.size
          go_wp2_with (at_builtin; refine wpList_append_own _ rfl _ _ 37 rfl w1.heap.size 50 i0 _ 2 16 Try.underlying37 hi hz0 hz1 hz2 rfl (by decide) _ _ _ rfl RW6.out ⟨wr.heap.size + 1, 0, none⟩ 1 1 [.int .i64 fr, .int .i64 fin] rfl rfl (by have h := World.news_of_block (cs := #[.int .i64 fr, .int .i64 fin]) (t := 50) (fr := (0, 0)) (heap_alloc_new (wr.alloc (.cells #[.int .i64 x.min, .int .i64 x.seq, .bool xo] 31)) _); simpa using h) (by simp [Value.oneCell']) (by unfold maxLen; omega) (by omega) (by simp; omega) ?_; intro v2 w7 hown7 hg7 _; have RW7 : Hid (w7.ownsRow w1.heap.size 50 2 v2 (m + 1) ((R ++ [(⟨fr, fin⟩ : Ru)]).flatMap ucells)) := Lib.hid (by rw [← flat_snoc]; exact hown7); have B7 := Lib.hid (B6.out.grown hg7 B6.out.size (fun j hj => (own_lt RW6.out hj).1)); clear hown7 hg7)
          go_wp2
          go_ret
          unfold RunsEnd
          refine ⟨_, R ++ [⟨fr, fin⟩], rfl, ?_, ?_, ?_, BW.out.trans (B7.out.mono BW.out.size)⟩
          · rw [HE.out, ← HO.out]
            exact HT.out
          · have := HR.out
            simp only [List.length_append, List.length_cons, List.length_nil]
            omega
          · rw [show (R ++ [(⟨fr, fin⟩ : Ru)]).length = m + 1 by rw [List.length_append, HR.out]; rfl]
            exact own_base RW7.out BW.out.size
      · have hbr' : x.min < fin := by omega
        have HBe2 : Hid (∀ y ∈ L.take (k + 1), y.min < fin) := Lib.hid (by
          rw [HK.out]
          intro y hy
          rcases List.mem_append.1 hy with hy | hy
          · exact HBe.out y hy
          · rw [List.mem_singleton.1 hy]
            exact hbr')
        clear hbr HD
        rcases hxo : opB x with _ | _
        · rw [hxo] at e2 RWX BX
          cases op
          · have HJ2 := Lib.hid (rj_shut_shut HJ.out hxo HLT.out)
            clear hxo
            go_wp2
            go_roundw
            case rel => exact ⟨k + 1, m, false, fr, R, by omega, by omega, by go_num, ⟨q2, d, rfl⟩, rfl, rfl, HR, Lib.hid (by rw [HK.out]; exact HJ2.out), HBe2, RWX, BX⟩
            case measure => simp [intOf]; omega
          · have HJ2 := Lib.hid (rj_open_shut HJ.out hxo HLT.out)
            clear hxo
            have X6 := Lib.hid ((Lies.new wr 31 #[.int .i64 x.min, .int .i64 x.seq, .bool false]).alloc (.cells #[.int .i64 fr, .int .i64 x.min] 50))
            have RW6 := Lib.hid (RWX.out.alloc (.cells #[.int .i64 fr, .int .i64 x.min] 50))
            have B6 := Lib.hid (BX.out.alloc BX.out.size (.cells #[.int .i64 fr, .int .i64 x.min] 50))
            have hz6 := HB.out.size
            go_wp2_with (at_builtin; refine wpList_append_own _ rfl _ _ 37 rfl w1.heap.size 50 i0 _ 2 16 Try.underlying37 hi hz0 hz1 hz2 rfl (by decide) _ _ _ rfl RW6.out ⟨wr.heap.size + 1, 0, none⟩ 1 1 [.int .i64 fr, .int .i64 x.min] rfl rfl (by have h := World.news_of_block (cs := #[.int .i64 fr, .int .i64 x.min]) (t := 50) (fr := (0, 0)) (heap_alloc_new (wr.alloc (.cells #[.int .i64 x.min, .int .i64 x.seq, .bool false] 31)) _); simpa using h) (by simp [Value.oneCell']) (by unfold maxLen; omega) (by omega) (by simp; omega) ?_; intro v2 w7 hown7 hg7 _; have RW7 : Hid (w7.ownsRow w1.heap.size 50 2 v2 (m + 1) ((R ++ [(⟨fr, x.min⟩ : Ru)]).flatMap ucells)) := Lib.hid (by rw [← flat_snoc]; exact hown7); have B7 := Lib.hid (B6.out.grown hg7 B6.out.size (fun j hj => (own_lt RW6.out hj).1)); have x7 : w7.cell? ⟨wr.heap.size, 2, none⟩ = some (.bool false) := (X6.out.grown hg7 (fun e => by have := (own_lt RW.out e.symm).2; omega)).cell 2; clear hown7 hg7)
            obtain ⟨q3, d3, rfl⟩ := own_slice RW7.out
            go_roundw
            case rel => exact ⟨k + 1, m + 1, false, fr, R ++ [⟨fr, x.min⟩], by omega, by omega, by go_num, ⟨q3, d3, rfl⟩, rfl, rfl, Lib.hid (by rw [List.length_append, HR.out]; rfl), Lib.hid (by rw [HK.out]; exact HJ2.out), HBe2, RW7, B7⟩
            case measure => simp [intOf]; omega
        · rw [hxo] at e2 RWX BX
          cases op
          · have HJ2 := Lib.hid (rj_shut_open HJ.out hxo HLT.out HX0.out)
            clear hxo
            go_wp2
            go_roundw
            case rel => exact ⟨k + 1, m, true, x.min, R, by omega, by omega, by go_num, ⟨q2, d, rfl⟩, rfl, rfl, HR, Lib.hid (by rw [HK.out]; exact HJ2.out), HBe2, RWX, BX⟩
            case measure => simp [intOf]; omega
          · have HJ2 := Lib.hid (rj_open_open HJ.out hxo HLT.out)
            clear hxo
            go_wp2
            go_roundw
            case rel => exact ⟨k + 1, m, true, fr, R, by omega, by omega, by go_num, ⟨q2, d, rfl⟩, rfl, rfl, HR, Lib.hid (by rw [HK.out]; exact HJ2.out), HBe2, RWX, BX⟩
            case measure => simp [intOf]; omega
    · obtain rfl : k = n := by omega
      have HAf : Hid (∀ y ∈ L.drop k, fin ≤ y.min) := Lib.hid (by
        rw [List.drop_of_length_le (by rw [HN.out]; exact Nat.le_refl _)]
        intro y hy
        cases hy)
      cases op
      · have HT := Lib.hid (rj_end HJ.out HBe.out HAf.out)
        go_wp2
        go_ret
        unfold RunsEnd
        refine ⟨_, R, rfl, ?_, ?_, ?_, BW.out.trans (HB.out.mono BW.out.size)⟩
        · rw [HE.out, ← HO.out]
          exact HT.out
        · have := HR.out
          omega
        · rw [HR.out]
          exact own_base RW.out BW.out.size
      · have HT := Lib.hid (rj_end HJ.out HBe.out HAf.out)
        have RW6 := Lib.hid (RW.out.alloc (.cells #[.int .i64 fr, .int .i64 fin] 50))
        have B6 := Lib.hid (HB.out.alloc HB.out.size (.cells #[.int .i64 fr, .int .i64 fin] 50))
        have hz6 := HB.out.size
        go_wp2_with (at_builtin; refine wpList_append_own _ rfl _ _ 37 rfl w1.heap.size 50 i0 _ 2 16 Try.underlying37 hi hz0 hz1 hz2 rfl (by decide) _ _ _ rfl RW6.out ⟨wr.heap.size, 0, none⟩ 1 1 [.int .i64 fr, .int .i64 fin] rfl rfl (World.news_of_block (cs := #[.int .i64 fr, .int .i64 fin]) (t := 50) (fr := (0, 0)) (heap_alloc_new wr _)) (by simp [Value.oneCell']) (by unfold maxLen; omega) (by omega) (by simp; omega) ?_; intro v2 w7 hown7 hg7 _; have RW7 : Hid (w7.ownsRow w1.heap.size 50 2 v2 (m + 1) ((R ++ [(⟨fr, fin⟩ : Ru)]).flatMap ucells)) := Lib.hid (by rw [← flat_snoc]; exact hown7); have B7 := Lib.hid (B6.out.grown hg7 B6.out.size (fun j hj => (own_lt RW6.out hj).1)); clear hown7 hg7)
        go_wp2
        go_ret
        unfold RunsEnd
        refine ⟨_, R ++ [⟨fr, fin⟩], rfl, ?_, ?_, ?_, BW.out.trans (B7.out.mono BW.out.size)⟩
        · rw [HE.out, ← HO.out]
          exact HT.out
        · have := HR.out
          simp only [List.length_append, List.length_cons, List.length_nil]
          omega
        · rw [show (R ++ [(⟨fr, fin⟩ : Ru)]).length = m + 1 by rw [List.length_append, HR.out]; rfl]
          exact own_base RW7.out BW.out.size
end Dr
end Go.Proofs.Ytfdakkghikimcaa
