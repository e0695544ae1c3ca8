/- Walks over package excess: a series' sum. Conditions: a series in order, that may be. -/
import Derived.Test.YtfmnbmjfkplieaaExP2
import Derived.StillTailTactics
namespace Go.Proofs.Ytfmnbmjfkplieaa
open Go.RowKit Se
attribute [local go_sem] Oper.semAt_some

namespace Ex
theorem tot_cou {wo ga lim : Int} {S : List Rd} {a b : Int} : tot wo ga lim S a b = run (exm wo ga lim S) (cou a) (max (cou a) (cou b) - cou a).toNat := by
  unfold tot
  by_cases h : a ≤ 1048576
  · rw [show max a 0 = cou a by unfold cou; omega, show (min b 1048576 - cou a).toNat = (max (cou a) (cou b) - cou a).toNat by unfold cou; omega]
    refine run_congr fun j hj => exm_exc ?_ ?_
    · have := cou_bd a
      omega
    · have := cou_bd a
      have := cou_bd b
      omega
  · rw [show (min b 1048576 - max a 0).toNat = 0 by omega, show (max (cou a) (cou b) - cou a).toNat = 0 by unfold cou; omega]
    rfl
theorem counted_still (m : Int) (w : World) : Calls Try.prog 27 #[.int .i64 m] w fun e w' => e = .returned (.int .i64 (cou m)) ∧ w' = w := (counted_any m w).mono fun _ _ h => ⟨h.1, h.2.symm⟩
set_option maxRecDepth 100000 in
set_option maxHeartbeats 4000000 in
theorem xsum_yes (B h : Nat) (F : Nat → Prop) (wo ga lim : Int) (S : List Rd) (a b : Int) (w : World) (hp : PSF w B h F wo ga S) (hs : Sorted S) (hr : ∀ x ∈ S, rightB x = true) (hm : mayB wo ga = true) (hl : tenB lim = true) (hL : S.length ≤ 1000) :
    Calls Try.prog 18 #[.pointer (some ⟨h, 0, none⟩), .int .i64 lim, .int .i64 a, .int .i64 b] w fun e w' => e = .returned (.int .i64 (tot wo ga lim S a b)) ∧ Below w.heap.size w w' := by
  have XT := Lib.hid (fun W => (xten_any lim W))
  rw [hl] at XT
  have CA := Lib.hid (fun W => counted_still a W)
  have CB := Lib.hid (fun W => counted_still b W)
  have E := Lib.hid (tot_cou (wo := wo) (ga := ga) (lim := lim) (S := S) (a := a) (b := b))
  obtain ⟨a0, a1⟩ := cou_bd a
  obtain ⟨b0, b1⟩ := cou_bd b
  generalize cou a = ca at *
  generalize cou b = cb at *
  have HF := Lib.hid (exm_mild hm hr hl)
  have XS := Lib.hid (fun W m (hq : PSF W B h F wo ga S) (h0 : 0 ≤ m) (h1 : m ≤ 1048576) => excess_any B h F wo ga lim S m W hq hs hr hm hl hL h0 h1)
  have HP := Lib.hid hp
  have HG := Lib.hid (And.intro hs (And.intro hr (And.intro hm hL)))
  clear hp hs hr hm hl hL
  refine (callsIn_wide (n := 8)).1 ?_
  refine callsIn_of_wp_marks Try.func18 rfl trivial ?_ rfl
  simp only [Try.ntmps18, List.size_toArray, List.length_cons, List.length_nil, Nat.reduceAdd, Nat.reduceSub, Array.replicate_succ, Array.replicate_zero, List.push_toArray, List.append_toArray, List.nil_append, List.cons_append]
  gi_wp2_with fail
  refine ⟨trivial, (callsIn_wide.2 (XT.out _)).mono ?_⟩
  rintro e w1 ⟨rfl, rfl⟩
  gi_wp2
  obtain ⟨w3, hw3⟩ : ∃ w3, ((w.alloc (.cells #[.pointer (some ⟨h, 0, none⟩)] 40)).alloc (.cells #[.int .i64 lim] 3)).alloc (.cells #[.int .i64 0] 3) = w3 := ⟨_, rfl⟩
  obtain ⟨B3, L4, L5, L9, Z3⟩ := three_made w (.pointer (some ⟨h, 0, none⟩)) (.int .i64 lim) (.int .i64 0) 40 3 3
  rw [hw3] at B3 L4 L5 L9 Z3
  rw [hw3]
  clear hw3
  have l4 : w3.cell? ⟨w.heap.size, 0, none⟩ = some (.pointer (some ⟨h, 0, none⟩)) := L4.cell 0
  have P3 := Lib.hid (face.keep HP.out B3)
  have HL4 := Lib.hid L4
  have HL5 := Lib.hid L5
  have HL9 := Lib.hid L9
  have HB3 := Lib.hid B3
  have HZ3 := Lib.hid Z3
  clear L4 L5 L9 B3 Z3
  refine wpIn_wide.2 ?_
  go_still_tail 5, (by kernel_rfl)
  still_call (CA.out _)
  repeat still_step
  still_call (CB.out _)
  repeat still_step
  refine wpStill_nil ?_
  go_wp2_with fail
  refine (runs_make ca cb h _).mono ?_
  rintro e w4 ⟨rfl, hb, C3, C1, C2, Z4⟩
  change Lies w4 w3.heap.size _ _ at C3
  change Lies w4 (w3.heap.size + 1) _ _ at C1
  change Lies w4 (w3.heap.size + 1 + 1) _ _ at C2
  have E4 : Below w3.heap.size w3 w4 := ((Below.refl _ w3).drew).trans hb
  have P4 := Lib.hid (face.keep P3.out E4)
  have M4 := Lib.hid ((HL4.out.below E4 HL4.out.lt))
  have M5 := Lib.hid ((HL5.out.below E4 HL5.out.lt))
  have M9 := Lib.hid ((HL9.out.below E4 HL9.out.lt))
  have HB4 := Lib.hid (HB3.out.trans (E4.mono HB3.out.size))
  have HC1 := Lib.hid C1
  have HC2 := Lib.hid C2
  have HC3 := Lib.hid C3
  have HZ4 := Lib.hid Z4
  clear hb C1 C2 C3 E4 Z4 HL4 HL5 HL9 P3 HB3 l4 CA CB XT
  gi_wp2
  refine wpList_nil ?_
  gi_wp2
  have RS := runs_stops 7 (by omega) (fun k => k = w.heap.size + 1 + 1) B h (w3.heap.size + 1) (w3.heap.size + 1 + 1) w3.heap.size F wo ga lim ca cb S w4 P4.out HG.out.1 HG.out.2.1 HG.out.2.2.1 HG.out.2.2.2 a0 a1 b0 b1 HC1.out HC2.out HC3.out
    (fun k hk => by
      have := HZ3.out
      subst hk
      exact ⟨fun hf => by have := (face.foot HP.out hf).2; omega, by omega, by omega, by omega⟩)
  generalize exm wo ga lim S = f at *
  refine wpIn_rangeFunc_ownG (w := w4) (n := 8) (encs := rcs) (ps := #[25, 26]) rfl (by omega) (gf := 49) (lb := #[.pointer (some ⟨w3.heap.size + 1, 0, none⟩), .pointer (some ⟨w3.heap.size + 1 + 1, 0, none⟩), .pointer (some ⟨w3.heap.size, 0, none⟩)]) rfl trivial (enters_of Try.func49 (by kernel_rfl) rfl)
    RS kept_t (fun W l o o' hl => kept_b W l o o' hl) (Below.refl _ _) (fun _ => rfl)
    (fun pre W => Lies W (w.heap.size + 1 + 1) 3 #[.int .i64 (fold f 0 pre)] ∧ Turn (fun k => k = w.heap.size + 1 + 1) w4 W)
    (fun _ _ _ => False)
    (fun s A B row hs hg hr => ⟨hs.1.own hg (fun r e => (hr r e).2), hs.2.grown hg (fun k e => .inr (hr k e).1)⟩)
    (fun _ _ _ _ _ hs _ _ => hs)
    ⟨M9.out, Turn.refl _ _⟩
    (fun x => { tmps := #[.pointer (some ⟨h, 0, none⟩), .int .i64 lim, .int .i64 a, .int .i64 b, .pointer (some ⟨w.heap.size, 0, none⟩), .pointer (some ⟨w.heap.size + 1, 0, none⟩), undef, undef, .int .i64 0, .pointer (some ⟨w.heap.size + 1 + 1, 0, none⟩), .int .i64 x.1.1, .int .i64 x.1.2, .pointer (some ⟨h, 0, none⟩), .bool false, .bool false, .int .i64 lim, .bool true, .bool false, .bool false, .pointer (some ⟨h, 0, none⟩), .int .i64 a, .int .i64 ca, .int .i64 b, .int .i64 cb, .func (.func 49) #[] #[.pointer (some ⟨w3.heap.size + 1, 0, none⟩), .pointer (some ⟨w3.heap.size + 1 + 1, 0, none⟩), .pointer (some ⟨w3.heap.size, 0, none⟩)], .int .i64 x.1.1, .int .i64 x.1.2, undef, undef, undef, undef, undef, undef, undef, undef, undef, undef], defers := [] }) ?assign ?body ?done ?stop
  case assign =>
    intro l x W K hK
    gi_wp2
    exact hK
  case body =>
    rintro l pre x W ⟨hL9, hT⟩ _
    have HX := Lib.hid (mild_mul HF.out x)
    have HXS := Lib.hid (fold_snoc f 0 pre x)
    obtain ⟨⟨s, e⟩, h0, h1, h2⟩ := x
    simp only at h0 h1 h2 HX HXS ⊢
    have q : IntKind.i64.wrap (e - s) = e - s := IntWalk.i64_in _ (by omega)
    have y4 : W.cell? ⟨w.heap.size, 0, none⟩ = some (.pointer (some ⟨h, 0, none⟩)) := (M4.out.turn hT (by omega)).cell 0
    have y5 : W.cell? ⟨w.heap.size + 1, 0, none⟩ = some (.int .i64 lim) := (M5.out.turn hT (by omega)).cell 0
    have y9 : W.cell? ⟨w.heap.size + 1 + 1, 0, none⟩ = some (.int .i64 (fold f 0 pre)) := hL9.cell 0
    have H9 := Lib.hid hL9
    have HT := Lib.hid hT
    clear hL9 hT RS
    have FI := Lib.hid (fun W6 (hb : Below W.heap.size W W6) => show KeepsFrom w4.heap.size W (W6.setCell ⟨w.heap.size + 1 + 1, 0, none⟩ (.int .i64 (St.St.cap (fold f 0 pre + f s * (e - s))))) ∧ Kept (fun k => k = w.heap.size + 1 + 1) w4.heap.size W (W6.setCell ⟨w.heap.size + 1 + 1, 0, none⟩ (.int .i64 (St.St.cap (fold f 0 pre + f s * (e - s))))) ∧
        Lies (W6.setCell ⟨w.heap.size + 1 + 1, 0, none⟩ (.int .i64 (St.St.cap (fold f 0 pre + f s * (e - s))))) (w.heap.size + 1 + 1) 3 #[.int .i64 (fold f 0 (pre ++ [⟨(s, e), h0, h1, h2⟩]))] ∧ Turn (fun k => k = w.heap.size + 1 + 1) w4 (W6.setCell ⟨w.heap.size + 1 + 1, 0, none⟩ (.int .i64 (St.St.cap (fold f 0 pre + f s * (e - s))))) by
      have hk : KeepsOthers W W6 := keeps_of_turn (Turn.of_below (S := fun _ => False) hb) (fun _ h _ => h.elim)
      refine ⟨(hk.trans (KeepsOthers.setCell _ _ _)).from _, (Turn.of_below hb).setCell (.inl (.inl rfl)) _, ?_, ((HT.out.trans (Turn.of_below (S := fun _ => False) hb) (fun _ h => h.elim)).setCell (.inl rfl) _)⟩
      rw [HXS.out]
      have := (H9.out.below hb H9.out.lt).set_ 0 (.int .i64 (St.St.cap (fold f 0 pre + f s * (e - s))))
      simpa using this)
    have FB := fold_bd HF.out (s0 := 0) (by omega) (by omega) pre
    have FM := HF.out s
    have LG := Lib.hid (fun W => longer_any (fold f 0 pre) (f s) (e - s) W FB.1 FB.2 FM.1 FM.2 (by omega) (by omega))
    have XC := Lib.hid (XS.out W.drew s (face.turn (P4.out) (HT.out.drew) (fun k hf hk => by have := (face.foot HP.out hf).2; omega)) h0 (by omega))
    have CE := Lib.hid (fun W6 (hb : Below W.heap.size W W6) => show W6.cell? ⟨w.heap.size, 0, none⟩ = some (.pointer (some ⟨h, 0, none⟩)) ∧ W6.cell? ⟨w.heap.size + 1, 0, none⟩ = some (.int .i64 lim) ∧ W6.cell? ⟨w.heap.size + 1 + 1, 0, none⟩ = some (.int .i64 (fold f 0 pre)) ∧ W6.frozen? ⟨w.heap.size + 1 + 1, 0, none⟩ = false from
      ⟨(hb.cell (World.block_lt_of_cell? W _ y4)).trans y4, (hb.cell (World.block_lt_of_cell? W _ y5)).trans y5, (hb.cell (World.block_lt_of_cell? W _ y9)).trans y9, (H9.out.below hb H9.out.lt).frozen 0⟩)
    clear FB FM HX HXS H9 HT
    gi_wp2
    refine round_held (fun w' => w'.cell? ⟨w.heap.size, 0, none⟩ = some (.pointer (some ⟨h, 0, none⟩)) ∧ w'.cell? ⟨w.heap.size + 1, 0, none⟩ = some (.int .i64 lim)) (by kernel_rfl) (by kernel_rfl) ⟨y4, y5⟩ (fun hS => ?_)
    refine wpAnyH_take (i := 1) (v := ?_) rfl (by kernel_rfl) (by kernel_rfl) (by kernel_rfl) (fun _ _ _ h => h) (Or.inl ⟨by rfl, ?_⟩) (by assumption) ?_
    rotate_left
    · (intro w' hSw; (try dsimp only at hSw); go_simp; with_reducible rfl)
    try simp only [Act.put]
    refine wpAnyH_take (i := 2) (v := ?_) rfl (by kernel_rfl) (by kernel_rfl) (by kernel_rfl) (fun _ _ _ h => h) (Or.inl ⟨by rfl, ?_⟩) (by assumption) ?_
    rotate_left
    · (intro w' hSw; (try dsimp only at hSw); go_simp; with_reducible rfl)
    try simp only [Act.put]
    refine wpAnyH_take (i := 3) (v := ?_) rfl (by kernel_rfl) (by kernel_rfl) (by kernel_rfl) (fun _ _ _ h => h) (Or.inl ⟨by rfl, ?_⟩) (by assumption) ?_
    rotate_left
    · (intro w' hSw; (try dsimp only at hSw); go_simp; with_reducible rfl)
    try simp only [Act.put]
    refine wpAnyH_take (i := 5) (v := ?_) rfl (by kernel_rfl) (by kernel_rfl) (by kernel_rfl) (fun _ _ _ h => h) (Or.inl ⟨by rfl, ?_⟩) (by assumption) ?_
    rotate_left
    · (intro w' hSw; (try dsimp only at hSw); go_simp; with_reducible rfl)
    try simp only [Act.put]
    refine wpAnyH_take (i := 6) (v := ?_) rfl (by kernel_rfl) (by kernel_rfl) (by kernel_rfl) (fun _ _ _ h => h) (Or.inl ⟨by rfl, ?_⟩) (by assumption) ?_
    rotate_left
    · (intro w' hSw; (try dsimp only at hSw); go_simp; with_reducible rfl)
    try simp only [Act.put]
    refine wpAnyH_take (i := 7) (v := ?_) rfl (by kernel_rfl) (by kernel_rfl) (by kernel_rfl) (fun _ _ _ h => h) (Or.inl ⟨by rfl, ?_⟩) (by assumption) ?_
    rotate_left
    · (intro w' hSw; (try dsimp only at hSw); go_simp; with_reducible rfl)
    try simp only [Act.put]
    refine held_two (i := 0) (j := 4) (by kernel_rfl) rfl rfl (fun K hK => ?_) (fun K hK => ?_)
    · go_simp
      refine hK.out _ _ hS (fun _ => ?_)
      clear hK K
      try simp only [Act.put]
      refine held_one (i := 4) (by kernel_rfl) rfl (fun K hK => ?_)
      go_simp
      refine XC.out.mono ?_
      rintro e' w5 ⟨rfl, hb⟩
      have B5 := Lib.hid (show Below W.heap.size W w5 from ((Below.refl _ W).drew).trans hb)
      obtain ⟨z4, z5, z9, _⟩ := CE.out _ B5.out
      clear hb y4 y5 y9 hS XC
      refine hK.out _ _ ⟨z4, z5⟩ (fun hS => ?_)
      clear hK K
      try simp only [Act.put]
      refine held_one (i := 8) (by kernel_rfl) rfl (fun K hK => ?_)
      go_simp
      refine (LG.out _).mono ?_
      rintro e' w6 ⟨rfl, hb⟩
      have B6 := Lib.hid (B5.out.trans (hb.mono B5.out.size))
      obtain ⟨x4, x5, x9, x9f⟩ := CE.out _ B6.out
      clear hb z4 z5 z9 B5 LG hS
      refine hK.out _ _ ⟨x4, x5⟩ (fun hS => ?_)
      clear hK K
      try simp only [Act.put]
      refine held_one (i := 9) (by kernel_rfl) rfl (fun K hK => ?_)
      go_simp
      refine hK.out _ _ ⟨(World.cell?_setCell_far _ _ _ _ (by simp only; omega)).trans x4, (World.cell?_setCell_far _ _ _ _ (by simp only; omega)).trans x5⟩ (fun hS => ?_)
      clear hK K
      refine held_done (by kernel_rfl) ?_
      gi_wp2
      exact FI.out _ B6.out
    · go_simp
      refine XC.out.mono ?_
      rintro e' w5 ⟨rfl, hb⟩
      have B5 := Lib.hid (show Below W.heap.size W w5 from ((Below.refl _ W).drew).trans hb)
      obtain ⟨z4, z5, z9, _⟩ := CE.out _ B5.out
      clear hb y4 y5 y9 hS XC
      refine hK.out _ _ ⟨z4, z5⟩ (fun hS => ?_)
      clear hK K
      try simp only [Act.put]
      refine held_one (i := 0) (by kernel_rfl) rfl (fun K hK => ?_)
      go_simp
      refine hK.out _ _ hS (fun _ => ?_)
      clear hK K
      try simp only [Act.put]
      refine held_one (i := 8) (by kernel_rfl) rfl (fun K hK => ?_)
      go_simp
      refine (LG.out _).mono ?_
      rintro e' w6 ⟨rfl, hb⟩
      have B6 := Lib.hid (B5.out.trans (hb.mono B5.out.size))
      obtain ⟨x4, x5, x9, x9f⟩ := CE.out _ B6.out
      clear hb z4 z5 z9 B5 LG hS
      refine hK.out _ _ ⟨x4, x5⟩ (fun hS => ?_)
      clear hK K
      try simp only [Act.put]
      refine held_one (i := 9) (by kernel_rfl) rfl (fun K hK => ?_)
      go_simp
      refine hK.out _ _ ⟨(World.cell?_setCell_far _ _ _ _ (by simp only; omega)).trans x4, (World.cell?_setCell_far _ _ _ _ (by simp only; omega)).trans x5⟩ (fun hS => ?_)
      clear hK K
      refine held_done (by kernel_rfl) ?_
      gi_wp2
      exact FI.out _ B6.out
  case done =>
    rintro D ys W hD hys ⟨hL9, hT⟩ hK
    have y9 : W.cell? ⟨w.heap.size + 1 + 1, 0, none⟩ = some (.int .i64 (fold f 0 ys)) := hL9.cell 0
    have HR := Lib.hid (run_nn (fun m => (HF.out m).1) ca (max ca cb - ca).toNat)
    have HR2 := Lib.hid (run_top HF.out ca (max ca cb - ca).toNat (by omega))
    have FE := Lib.hid ((fold_chn HF.out hys (s0 := 0) (by omega) (by have := HR2.out; omega)).trans (Int.zero_add _))
    have HB := Lib.hid (hT.below HB4.out HB4.out.size (fun i hi => by subst hi; omega))
    have HD := Lib.hid hD
    clear hL9 hys hT hD
    gi_wp2
    refine ⟨by simp, .inl ⟨_, _, rfl, run_takeDeferred hK, ?_⟩⟩
    exact ⟨_, results_tmp rfl _ _ _, by rw [E.out, ← FE.out]; rfl, HB.out.trans (belowK_b (w := w) (Nat.le_refl _) W D _ _ (Nat.le_trans HB4.out.size HD.out) hK rfl rfl)⟩
  case stop =>
    rintro D c pre W _ _ h _
    exact h.elim
theorem xsum_no (h : Nat) (li a b : Int) (w : World) (hl : tenB li = false) :
    Calls Try.prog 18 #[.pointer (some ⟨h, 0, none⟩), .int .i64 li, .int .i64 a, .int .i64 b] w fun e w' => e = .returned (.int .i64 0) ∧ Below w.heap.size w w' := by
  have XT := Lib.hid (fun W => xten_any li W)
  rw [hl] at XT
  have B0 := Lib.hid (((alloc_below w (.cells #[.pointer (some ⟨h, 0, none⟩)] 40)).alloc (by simp) (.cells #[.int .i64 li] 3)))
  clear hl
  go_enter Try.func18, Try.ntmps18
  go_wp2_with fail
  refine (XT.out _).mono ?_
  rintro e w1 ⟨rfl, rfl⟩
  go_wp2
  go_ret
  exact ⟨rfl, B0.out⟩
theorem xsum_nil (li a b : Int) (w : World) :
    Calls Try.prog 18 #[.pointer none, .int .i64 li, .int .i64 a, .int .i64 b] w fun e w' => e = .returned (.int .i64 0) ∧ Below w.heap.size w w' := by
  have B0 := Lib.hid (((alloc_below w (.cells #[.pointer none] 40)).alloc (by simp) (.cells #[.int .i64 li] 3)))
  go_enter Try.func18, Try.ntmps18
  go_wp2
  go_ret
  exact ⟨rfl, B0.out⟩
end Ex
end Go.Proofs.Ytfmnbmjfkplieaa
