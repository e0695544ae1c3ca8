/- Walks over the document's answer of layer 6: all readings, in order. No condition but those written. -/
import Derived.Test.YtfmnbmjfkplieaaSe5
namespace Go.Proofs.Ytfmnbmjfkplieaa
open Go.RowKit

namespace Se
/-- What is known of the best one so far, behind j of them. -/
def Best (S L : List Rd) (k j : Nat) (b : Int) : Prop :=
  (b = -1 ∧ ∀ i x, i < j → L[i]? = some x → ¬ Cand S k x) ∨ ∃ t y, b = ((t : Nat) : Int) ∧ t < j ∧ L[t]? = some y ∧ Cand S k y ∧ ∀ i x, i < j → L[i]? = some x → Cand S k x → ¬ lt x y
theorem best_start (S L : List Rd) (k : Nat) : Best S L k 0 (-1) := .inl ⟨rfl, fun i x h => by omega⟩
theorem best_skip {S L : List Rd} {k j : Nat} {b : Int} {x : Rd} (h : Best S L k j b) (hx : L[j]? = some x) (hc : ¬ Cand S k x) : Best S L k (j + 1) b := by
  rcases h with ⟨h1, h2⟩ | ⟨t, y, h1, h2, h3, h4, h5⟩
  · refine .inl ⟨h1, fun i z hi hz => ?_⟩
    by_cases hij : i < j
    · exact h2 i z hij hz
    · obtain rfl : i = j := by omega
      rw [hx] at hz
      cases hz
      exact hc
  · refine .inr ⟨t, y, h1, by omega, h3, h4, fun i z hi hz hcz => ?_⟩
    by_cases hij : i < j
    · exact h5 i z hij hz hcz
    · obtain rfl : i = j := by omega
      rw [hx] at hz
      cases hz
      exact absurd hcz hc
theorem best_first {S L : List Rd} {k j : Nat} {b : Int} {x : Rd} (h : Best S L k j b) (hb : b < 0) (hx : L[j]? = some x) (hc : Cand S k x) : Best S L k (j + 1) (j : Int) := by
  rcases h with ⟨_, h2⟩ | ⟨t, y, h1, _⟩
  · refine .inr ⟨j, x, rfl, by omega, hx, hc, fun i z hi hz hcz => ?_⟩
    by_cases hij : i < j
    · exact absurd hcz (h2 i z hij hz)
    · obtain rfl : i = j := by omega
      rw [hx] at hz
      cases hz
      exact lt_irrefl x
  · omega
theorem best_less {S L : List Rd} {k j t : Nat} {x y : Rd} (h : Best S L k j (t : Int)) (hx : L[j]? = some x) (hc : Cand S k x) (hy : L[t]? = some y) (hlt : lt x y) : Best S L k (j + 1) (j : Int) := by
  rcases h with ⟨h1, _⟩ | ⟨t', y', h1, h2, h3, h4, h5⟩
  · omega
  · obtain rfl : t = t' := by omega
    rw [hy] at h3
    cases h3
    refine .inr ⟨j, x, rfl, by omega, hx, hc, fun i z hi hz hcz => ?_⟩
    by_cases hij : i < j
    · exact fun hzx => h5 i z hij hz hcz (lt_trans hzx hlt)
    · obtain rfl : i = j := by omega
      rw [hx] at hz
      cases hz
      exact lt_irrefl x
theorem best_stay {S L : List Rd} {k j t : Nat} {x y : Rd} (h : Best S L k j (t : Int)) (hx : L[j]? = some x) (hy : L[t]? = some y) (hlt : ¬ lt x y) : Best S L k (j + 1) (t : Int) := by
  rcases h with ⟨h1, _⟩ | ⟨t', y', h1, h2, h3, h4, h5⟩
  · omega
  · obtain rfl : t = t' := by omega
    rw [hy] at h3
    cases h3
    refine .inr ⟨t, y, rfl, by omega, hy, h4, fun i z hi hz hcz => ?_⟩
    by_cases hij : i < j
    · exact h5 i z hij hz hcz
    · obtain rfl : i = j := by omega
      rw [hx] at hz
      cases hz
      exact hlt
theorem best_end {S L : List Rd} {k : Nat} {b : Int} (h : Best S L k L.length b) (hs : Sorted S) (hm : ∀ x, x ∈ S ↔ x ∈ L) (hk : k < S.length) : ∃ t y, b = ((t : Nat) : Int) ∧ L[t]? = some y ∧ S[k]? = some y := by
  have hg := List.getElem?_eq_getElem hk
  have hc := (cand_at hs hg (Nat.le_of_lt hk)).2 (Nat.le_refl _)
  obtain ⟨i, hi⟩ := List.mem_iff_getElem?.1 ((hm _).1 (List.getElem_mem hk))
  have hil := (List.getElem?_eq_some_iff.1 hi).1
  rcases h with ⟨_, h2⟩ | ⟨t, y, h1, h2, h3, h4, h5⟩
  · exact absurd hc (h2 i _ hil hi)
  · refine ⟨t, y, h1, h3, cand_first hs hk ((hm y).2 (List.mem_iff_getElem?.2 ⟨t, h3⟩)) h4 fun x hx hcx => ?_⟩
    obtain ⟨i, hi⟩ := List.mem_iff_getElem?.1 ((hm x).1 hx)
    exact h5 i x (List.getElem?_eq_some_iff.1 hi).1 hi hcx
theorem best_at {S L : List Rd} {k j : Nat} {b : Int} (h : Best S L k j b) : b = -1 ∨ ∃ t y, b = ((t : Nat) : Int) ∧ t < j ∧ L[t]? = some y := by
  rcases h with ⟨h1, _⟩ | ⟨t, y, h1, h2, h3, _⟩
  · exact .inl h1
  · exact .inr ⟨t, y, h1, h2, h3⟩
theorem cand_zero (S : List Rd) (x : Rd) : Cand S 0 x := fun z h => absurd h (by decide)
theorem cand_succ {S : List Rd} {k : Nat} {z x : Rd} (hz : S[k]? = some z) : Cand S (k + 1) x ↔ lt z x := by
  constructor
  · exact fun h => h z (by omega) hz
  · intro h u _ hu
    rw [Nat.add_sub_cancel, hz] at hu
    cases hu
    exact h
theorem ltB_iff (a b : Rd) : ltB a b = true ↔ lt a b := by
  unfold ltB
  rw [decide_eq_true_iff]
theorem ltB_no (a b : Rd) : ltB a b = false ↔ ¬ lt a b := by
  unfold ltB
  rw [decide_eq_false_iff_not]
theorem take_next {S : List Rd} {k : Nat} {y : Rd} (h : S[k]? = some y) : (S.take (k + 1)).flatMap rcells = (S.take k).flatMap rcells ++ rcells y := by
  rw [List.take_add_one, h, Option.toList_some, flat_snoc]
theorem own_below2 {w w' : World} {base B : Nat} {e : TypeId} {size n g cap : Nat} {xs : List Value} (h : w.ownsRow base e size (.slice (some ⟨g, 0, none⟩) n cap) n xs) (hb : Below B w w') (hg : g < B) : w'.ownsRow base e size (.slice (some ⟨g, 0, none⟩) n cap) n xs := by
  refine ⟨h.1, ?_⟩
  rcases h.2 with ⟨h0, _⟩ | ⟨g', cap', cur, h0, h1, h2, r⟩
  · cases h0
  · cases h0
    exact .inr ⟨g, cap, cur, rfl, h1, (hb.block g hg).trans h2, r⟩
def lenOf : Value → Nat
  | .slice _ n _ => n
  | _ => 0
set_option maxRecDepth 100000 in
set_option maxHeartbeats 16000000 in
theorem rall_any (B g : Nat) (v : Value) (wo ga : Int) (L : List Rd) (w : World) (h : RSer w B g v wo ga L) (ha : Apart L) (hL : L.length ≤ 1000000) :
    Calls Try.prog 17 #[.pointer (some ⟨g, 0, none⟩)] w fun e w' => ∃ v', e = .returned v' ∧ w'.ownsRow w.heap.size 37 3 v' (sortL L).length ((sortL L).flatMap rcells) ∧ Below w.heap.size w w' := by
  obtain ⟨q, d, rfl⟩ := own_slice h.2.2
  have H := Lib.hid h
  have hL' : (L.length : Int) ≤ 1000000 := by omega
  have HS := Lib.hid (sorted_sort ha)
  have HM := Lib.hid (mem_sort L)
  have hlen := len_sort L
  clear h ha
  generalize sortL L = S at *
  have HLen := Lib.hid hlen
  clear hlen
  obtain ⟨i0, hi, hz0, hz1, hz2⟩ := info_parts infoR
  go_enter Try.func17, Try.ntmps17
  go_wp2_with fail
  go_loopw [3] (fun v wr => ∃ k : Nat, k ≤ L.length ∧ (∃ q' c', v = .slice q' k c') ∧ Hid (wr.ownsRow w.heap.size 37 3 v k ((S.take k).flatMap rcells)) ∧ Hid (Below w.heap.size w wr)) (fun v _ => L.length - lenOf v)
  case atStart => exact ⟨0, Nat.zero_le _, ⟨none, 0, rfl⟩, Lib.hid (World.ownsRow_nil _ _ _ _), Lib.hid (Below.refl _ _)⟩
  case round =>
    obtain ⟨k, hk, ⟨q', c', rfl⟩, HO, HB⟩ := hrel
    have c2 : wr.cell? ⟨g, 2, none⟩ = some (.slice q L.length d) := (H.out.below HB.out).2.1.cell 2
    by_cases hkl : k < L.length
    · have hk3 : (k : Int) < (L.length : Int) := by omega
      have HK := Lib.hid hkl
      obtain ⟨x9, hx9⟩ : ∃ x, L[k]? = some x := ⟨_, List.getElem?_eq_getElem hkl⟩
      obtain ⟨b, rfl, _, hnc, _, _, _⟩ := rser_at (H.out.below HB.out) hx9
      clear hx9
      obtain ⟨wo, rfl⟩ : ∃ wo : World, wo = wr := ⟨_, rfl⟩
      go_wp2_with fail
      go_loopw [4, 5] (fun b i wi => ∃ (j : Nat) (bb : Int), j ≤ L.length ∧ b = .int .i64 bb ∧ i = .int .i64 j ∧ Hid (Best S L k j bb) ∧ Hid (Below wo.heap.size wo wi)) (fun _ i _ => L.length - (intOf i).toNat)
      case atStart => exact ⟨0, -1, Nat.zero_le _, rfl, rfl, Lib.hid (best_start S L k), Lib.hid (Below.refl _ _)⟩
      case round =>
        clear c2
        obtain ⟨j, bb, hj, rfl, rfl, HBe, B2⟩ := hrel
        have HW := Lib.hid (show Below w.heap.size w wr from HB.out.trans (B2.out.mono HB.out.size))
        have c2 : wr.cell? ⟨g, 2, none⟩ = some (.slice (some ⟨b, 0, none⟩) L.length d) := (H.out.below HW.out).2.1.cell 2
        have lg := (H.out.below HW.out).2.1.lt
        by_cases hjl : j < L.length
        · obtain ⟨x, hx⟩ : ∃ x, L[j]? = some x := ⟨_, List.getElem?_eq_getElem hjl⟩
          obtain ⟨_, e, _, _, e0, e1, e2⟩ := rser_at (H.out.below HW.out) hx
          cases e
          have hj3 : (j : Int) < (L.length : Int) := by omega
          have lb := World.block_lt_of_cell? wr _ e0
          have HX := Lib.hid hx
          clear hx
          obtain ⟨xm, xs, xt⟩ := x
          simp only at e0 e1 e2
          rcases k with _ | k
          · have HC := Lib.hid (cand_zero S ⟨xm, xs, xt⟩)
            rcases best_at HBe.out with rfl | ⟨t, y, rfl, htj, hy⟩
            · have u0 := e0
              have u1 := e1
              have u2 := e2
              have C2 := Lib.hid (fun W => rahead_any ⟨xm, xs, xt⟩ ⟨xm, xs, xt⟩ W)
              rw [show ltB ⟨xm, xs, xt⟩ ⟨xm, xs, xt⟩ = false from (ltB_no _ _).2 (lt_irrefl _)] at C2
              unfold rval at C2
              simp only at C2
              have HN := Lib.hid (best_first HBe.out (by decide) HX.out HC.out)
              go_wp2_with fail
              go_region_held3 (fun w' => w'.cell? ⟨g, 2, none⟩ = some (.slice (some ⟨b, 0, none⟩) L.length d) ∧ w'.cell? ⟨b, j * 3, none⟩ = some (.int .i64 xm) ∧ w'.cell? ⟨b, j * 3 + 1, none⟩ = some (.int .i64 xs) ∧ w'.cell? ⟨b, j * 3 + 2, none⟩ = some (.int .i64 xt) ∧ w'.cell? ⟨b, j * 3, none⟩ = some (.int .i64 xm) ∧ w'.cell? ⟨b, j * 3 + 1, none⟩ = some (.int .i64 xs) ∧ w'.cell? ⟨b, j * 3 + 2, none⟩ = some (.int .i64 xt))
                (first | go_keep | exact ⟨d0, d1, d2, d3, d4, d5, d6⟩ | exact ⟨c2, e0, e1, e2, u0, u1, u2⟩)
                ((go_at_call 32; ((with_reducible refine (C2.out _).mono ?_); rintro E w3 ⟨rfl, hb3⟩; have d0 := (hb3.cell (p := ⟨g, 2, none⟩) lg).trans c2; have d1 := (hb3.cell (p := ⟨b, j * 3, none⟩) lb).trans e0; have d2 := (hb3.cell (p := ⟨b, j * 3 + 1, none⟩) lb).trans e1; have d3 := (hb3.cell (p := ⟨b, j * 3 + 2, none⟩) lb).trans e2; have d4 := (hb3.cell (p := ⟨b, j * 3, none⟩) lb).trans u0; have d5 := (hb3.cell (p := ⟨b, j * 3 + 1, none⟩) lb).trans u1; have d6 := (hb3.cell (p := ⟨b, j * 3 + 2, none⟩) lb).trans u2)))
              have B3 := Lib.hid (B2.out.trans (((Below.refl _ wr).drew.trans hb3).mono B2.out.size))
              clear hb3
              go_wp2
              go_roundw
              case rel => (repeat apply Exists.intro); exact ⟨⟨j + 1, j, by omega, rfl, by go_num, HN, B3⟩, rfl⟩
              case measure => simp [intOf]; omega
            · obtain ⟨_, e, _, _, u0, u1, u2⟩ := rser_at (H.out.below (show Below w.heap.size w wr from HB.out.trans (B2.out.mono HB.out.size))) hy
              cases e
              have htl : t < L.length := by omega
              have ht3 : (t : Int) < (L.length : Int) := by omega
              have htn : ¬ ((t : Int) < 0) := by omega
              have HY := Lib.hid hy
              clear hy
              obtain ⟨ym, ys, yt⟩ := y
              simp only at u0 u1 u2
              by_cases hl : ltB ⟨xm, xs, xt⟩ ⟨ym, ys, yt⟩ = true
              · have C2 := Lib.hid (fun W => rahead_any ⟨xm, xs, xt⟩ ⟨ym, ys, yt⟩ W)
                rw [hl] at C2
                unfold rval at C2
                simp only at C2
                have HN := Lib.hid (best_less HBe.out HX.out HC.out HY.out ((ltB_iff _ _).1 hl))
                clear hl
                go_wp2_with fail
                go_region_held3 (fun w' => w'.cell? ⟨g, 2, none⟩ = some (.slice (some ⟨b, 0, none⟩) L.length d) ∧ w'.cell? ⟨b, j * 3, none⟩ = some (.int .i64 xm) ∧ w'.cell? ⟨b, j * 3 + 1, none⟩ = some (.int .i64 xs) ∧ w'.cell? ⟨b, j * 3 + 2, none⟩ = some (.int .i64 xt) ∧ w'.cell? ⟨b, t * 3, none⟩ = some (.int .i64 ym) ∧ w'.cell? ⟨b, t * 3 + 1, none⟩ = some (.int .i64 ys) ∧ w'.cell? ⟨b, t * 3 + 2, none⟩ = some (.int .i64 yt))
                  (first | go_keep | exact ⟨d0, d1, d2, d3, d4, d5, d6⟩ | exact ⟨c2, e0, e1, e2, u0, u1, u2⟩)
                  ((go_at_call 32; ((with_reducible refine (C2.out _).mono ?_); rintro E w3 ⟨rfl, hb3⟩; have d0 := (hb3.cell (p := ⟨g, 2, none⟩) lg).trans c2; have d1 := (hb3.cell (p := ⟨b, j * 3, none⟩) lb).trans e0; have d2 := (hb3.cell (p := ⟨b, j * 3 + 1, none⟩) lb).trans e1; have d3 := (hb3.cell (p := ⟨b, j * 3 + 2, none⟩) lb).trans e2; have d4 := (hb3.cell (p := ⟨b, t * 3, none⟩) lb).trans u0; have d5 := (hb3.cell (p := ⟨b, t * 3 + 1, none⟩) lb).trans u1; have d6 := (hb3.cell (p := ⟨b, t * 3 + 2, none⟩) lb).trans u2)))
                have B3 := Lib.hid (B2.out.trans (((Below.refl _ wr).drew.trans hb3).mono B2.out.size))
                clear hb3
                go_wp2
                go_roundw
                case rel => (repeat apply Exists.intro); exact ⟨⟨j + 1, j, by omega, rfl, by go_num, HN, B3⟩, rfl⟩
                case measure => simp [intOf]; omega
              · have hl' : ltB ⟨xm, xs, xt⟩ ⟨ym, ys, yt⟩ = false := by simpa using hl
                have C2 := Lib.hid (fun W => rahead_any ⟨xm, xs, xt⟩ ⟨ym, ys, yt⟩ W)
                rw [hl'] at C2
                unfold rval at C2
                simp only at C2
                have HN := Lib.hid (best_stay HBe.out HX.out HY.out ((ltB_no _ _).1 hl'))
                clear hl hl'
                go_wp2_with fail
                go_region_held3 (fun w' => w'.cell? ⟨g, 2, none⟩ = some (.slice (some ⟨b, 0, none⟩) L.length d) ∧ w'.cell? ⟨b, j * 3, none⟩ = some (.int .i64 xm) ∧ w'.cell? ⟨b, j * 3 + 1, none⟩ = some (.int .i64 xs) ∧ w'.cell? ⟨b, j * 3 + 2, none⟩ = some (.int .i64 xt) ∧ w'.cell? ⟨b, t * 3, none⟩ = some (.int .i64 ym) ∧ w'.cell? ⟨b, t * 3 + 1, none⟩ = some (.int .i64 ys) ∧ w'.cell? ⟨b, t * 3 + 2, none⟩ = some (.int .i64 yt))
                  (first | go_keep | exact ⟨d0, d1, d2, d3, d4, d5, d6⟩ | exact ⟨c2, e0, e1, e2, u0, u1, u2⟩)
                  ((go_at_call 32; ((with_reducible refine (C2.out _).mono ?_); rintro E w3 ⟨rfl, hb3⟩; have d0 := (hb3.cell (p := ⟨g, 2, none⟩) lg).trans c2; have d1 := (hb3.cell (p := ⟨b, j * 3, none⟩) lb).trans e0; have d2 := (hb3.cell (p := ⟨b, j * 3 + 1, none⟩) lb).trans e1; have d3 := (hb3.cell (p := ⟨b, j * 3 + 2, none⟩) lb).trans e2; have d4 := (hb3.cell (p := ⟨b, t * 3, none⟩) lb).trans u0; have d5 := (hb3.cell (p := ⟨b, t * 3 + 1, none⟩) lb).trans u1; have d6 := (hb3.cell (p := ⟨b, t * 3 + 2, none⟩) lb).trans u2)))
                have B3 := Lib.hid (B2.out.trans (((Below.refl _ wr).drew.trans hb3).mono B2.out.size))
                clear hb3
                go_wp2
                go_roundw
                case rel => (repeat apply Exists.intro); exact ⟨⟨j + 1, t, by omega, rfl, by go_num, HN, B3⟩, rfl⟩
                case measure => simp [intOf]; omega
          · obtain ⟨z, hz⟩ : ∃ z, S[k]? = some z := ⟨_, List.getElem?_eq_getElem (by rw [HLen.out]; omega)⟩
            obtain ⟨ob, oc, e, hob, hol, hoc⟩ := own_some HO.out (Nat.succ_pos k)
            cases e
            have OW := own_below2 HO.out B2.out hol
            have hzk : (S.take (k + 1))[k]? = some z := by rw [List.getElem?_take, if_pos (by omega)]; exact hz
            have hzl : (S.take (k + 1)).length = k + 1 := by rw [List.length_take, HLen.out]; omega
            have o0 : wr.cell? ⟨ob, k * 3, none⟩ = some (.int .i64 z.min) := row_cell rcells_len OW hzl hzk (i := 0) (by decide)
            have o1 : wr.cell? ⟨ob, k * 3 + 1, none⟩ = some (.int .i64 z.seq) := row_cell rcells_len OW hzl hzk (i := 1) (by decide)
            have o2 : wr.cell? ⟨ob, k * 3 + 2, none⟩ = some (.int .i64 z.ten) := row_cell rcells_len OW hzl hzk (i := 2) (by decide)
            have lo := World.block_lt_of_cell? wr _ o0
            have HZ := Lib.hid (cand_succ (x := ⟨xm, xs, xt⟩) hz)
            have C1 := Lib.hid (fun W => rahead_any z ⟨xm, xs, xt⟩ W)
            clear hz hzk hzl OW
            obtain ⟨zm, zs, zt⟩ := z
            unfold rval at C1
            simp only at C1 o0 o1 o2
            have q1 : IntKind.i64.wrap ((k : Int) + 1 - 1) = (k : Int) := by rw [show (k : Int) + 1 - 1 = (k : Int) by omega]; exact IntWalk.i64_in _ (by omega)
            have q2 : IntKind.i64.wrap (((k + 1 : Nat) : Int) - 1) = (k : Int) := by rw [show ((k + 1 : Nat) : Int) - 1 = (k : Int) by omega]; exact IntWalk.i64_in _ (by omega)
            have q6 : IntKind.i64.wrap (k : Int) = (k : Int) := IntWalk.i64_in _ (by omega)
            have q3 : (k : Int) < (k : Int) + 1 := by omega
            have q4 : (0 : Int) ≤ (k : Int) := by omega
            have q5 : k < k + 1 := by omega
            by_cases hzx : ltB ⟨zm, zs, zt⟩ ⟨xm, xs, xt⟩ = true
            · have HC := Lib.hid (HZ.out.2 ((ltB_iff _ _).1 hzx))
              rw [hzx] at C1
              clear hzx
              go_wp2_with fail
              go_region_held3 (fun w' => w'.cell? ⟨g, 2, none⟩ = some (.slice (some ⟨b, 0, none⟩) L.length d) ∧ w'.cell? ⟨b, j * 3, none⟩ = some (.int .i64 xm) ∧ w'.cell? ⟨b, j * 3 + 1, none⟩ = some (.int .i64 xs) ∧ w'.cell? ⟨b, j * 3 + 2, none⟩ = some (.int .i64 xt) ∧ w'.cell? ⟨ob, k * 3, none⟩ = some (.int .i64 zm) ∧ w'.cell? ⟨ob, k * 3 + 1, none⟩ = some (.int .i64 zs) ∧ w'.cell? ⟨ob, k * 3 + 2, none⟩ = some (.int .i64 zt))
                (first | go_keep | exact ⟨d0, d1, d2, d3, d4, d5, d6⟩ | exact ⟨c2, e0, e1, e2, o0, o1, o2⟩)
                ((go_at_call 32; ((with_reducible refine (C1.out _).mono ?_); rintro E w2 ⟨rfl, hb2⟩; have d0 := (hb2.cell (p := ⟨g, 2, none⟩) lg).trans c2; have d1 := (hb2.cell (p := ⟨b, j * 3, none⟩) lb).trans e0; have d2 := (hb2.cell (p := ⟨b, j * 3 + 1, none⟩) lb).trans e1; have d3 := (hb2.cell (p := ⟨b, j * 3 + 2, none⟩) lb).trans e2; have d4 := (hb2.cell (p := ⟨ob, k * 3, none⟩) lo).trans o0; have d5 := (hb2.cell (p := ⟨ob, k * 3 + 1, none⟩) lo).trans o1; have d6 := (hb2.cell (p := ⟨ob, k * 3 + 2, none⟩) lo).trans o2)))
              have B4 := Lib.hid (B2.out.trans (((Below.refl _ wr).drew.trans hb2).mono B2.out.size))
              have lg2 := Nat.lt_of_lt_of_le lg hb2.size
              have lb2 := Nat.lt_of_lt_of_le lb hb2.size
              clear hb2 c2 e0 e1 e2 o0 o1 o2 lg lb lo C1 B2 HW d4 d5 d6
              have B2 := B4
              have c2 := d0
              have e0 := d1
              have e1 := d2
              have e2 := d3
              have lg := lg2
              have lb := lb2
              clear d0 d1 d2 d3 B4 lg2 lb2
              rcases best_at HBe.out with rfl | ⟨t, y, rfl, htj, hy⟩
              · have u0 := e0
                have u1 := e1
                have u2 := e2
                have C2 := Lib.hid (fun W => rahead_any ⟨xm, xs, xt⟩ ⟨xm, xs, xt⟩ W)
                rw [show ltB ⟨xm, xs, xt⟩ ⟨xm, xs, xt⟩ = false from (ltB_no _ _).2 (lt_irrefl _)] at C2
                unfold rval at C2
                simp only at C2
                have HN := Lib.hid (best_first HBe.out (by decide) HX.out HC.out)
                go_wp2_with fail
                go_region_held3 (fun w' => w'.cell? ⟨g, 2, none⟩ = some (.slice (some ⟨b, 0, none⟩) L.length d) ∧ w'.cell? ⟨b, j * 3, none⟩ = some (.int .i64 xm) ∧ w'.cell? ⟨b, j * 3 + 1, none⟩ = some (.int .i64 xs) ∧ w'.cell? ⟨b, j * 3 + 2, none⟩ = some (.int .i64 xt) ∧ w'.cell? ⟨b, j * 3, none⟩ = some (.int .i64 xm) ∧ w'.cell? ⟨b, j * 3 + 1, none⟩ = some (.int .i64 xs) ∧ w'.cell? ⟨b, j * 3 + 2, none⟩ = some (.int .i64 xt))
                  (first | go_keep | exact ⟨d0, d1, d2, d3, d4, d5, d6⟩ | exact ⟨c2, e0, e1, e2, u0, u1, u2⟩)
                  ((go_at_call 32; ((with_reducible refine (C2.out _).mono ?_); rintro E w3 ⟨rfl, hb3⟩; have d0 := (hb3.cell (p := ⟨g, 2, none⟩) lg).trans c2; have d1 := (hb3.cell (p := ⟨b, j * 3, none⟩) lb).trans e0; have d2 := (hb3.cell (p := ⟨b, j * 3 + 1, none⟩) lb).trans e1; have d3 := (hb3.cell (p := ⟨b, j * 3 + 2, none⟩) lb).trans e2; have d4 := (hb3.cell (p := ⟨b, j * 3, none⟩) lb).trans u0; have d5 := (hb3.cell (p := ⟨b, j * 3 + 1, none⟩) lb).trans u1; have d6 := (hb3.cell (p := ⟨b, j * 3 + 2, none⟩) lb).trans u2)))
                have B3 := Lib.hid (B2.out.trans (((Below.refl _ w2).drew.trans hb3).mono B2.out.size))
                clear hb3
                go_wp2
                go_roundw
                case rel => (repeat apply Exists.intro); exact ⟨⟨j + 1, j, by omega, rfl, by go_num, HN, B3⟩, rfl⟩
                case measure => simp [intOf]; omega
              · obtain ⟨_, e, _, _, u0, u1, u2⟩ := rser_at (H.out.below (show Below w.heap.size w w2 from HB.out.trans (B2.out.mono HB.out.size))) hy
                cases e
                have htl : t < L.length := by omega
                have ht3 : (t : Int) < (L.length : Int) := by omega
                have htn : ¬ ((t : Int) < 0) := by omega
                have HY := Lib.hid hy
                clear hy
                obtain ⟨ym, ys, yt⟩ := y
                simp only at u0 u1 u2
                by_cases hl : ltB ⟨xm, xs, xt⟩ ⟨ym, ys, yt⟩ = true
                · have C2 := Lib.hid (fun W => rahead_any ⟨xm, xs, xt⟩ ⟨ym, ys, yt⟩ W)
                  rw [hl] at C2
                  unfold rval at C2
                  simp only at C2
                  have HN := Lib.hid (best_less HBe.out HX.out HC.out HY.out ((ltB_iff _ _).1 hl))
                  clear hl
                  go_wp2_with fail
                  go_region_held3 (fun w' => w'.cell? ⟨g, 2, none⟩ = some (.slice (some ⟨b, 0, none⟩) L.length d) ∧ w'.cell? ⟨b, j * 3, none⟩ = some (.int .i64 xm) ∧ w'.cell? ⟨b, j * 3 + 1, none⟩ = some (.int .i64 xs) ∧ w'.cell? ⟨b, j * 3 + 2, none⟩ = some (.int .i64 xt) ∧ w'.cell? ⟨b, t * 3, none⟩ = some (.int .i64 ym) ∧ w'.cell? ⟨b, t * 3 + 1, none⟩ = some (.int .i64 ys) ∧ w'.cell? ⟨b, t * 3 + 2, none⟩ = some (.int .i64 yt))
                    (first | go_keep | exact ⟨d0, d1, d2, d3, d4, d5, d6⟩ | exact ⟨c2, e0, e1, e2, u0, u1, u2⟩)
                    ((go_at_call 32; ((with_reducible refine (C2.out _).mono ?_); rintro E w3 ⟨rfl, hb3⟩; have d0 := (hb3.cell (p := ⟨g, 2, none⟩) lg).trans c2; have d1 := (hb3.cell (p := ⟨b, j * 3, none⟩) lb).trans e0; have d2 := (hb3.cell (p := ⟨b, j * 3 + 1, none⟩) lb).trans e1; have d3 := (hb3.cell (p := ⟨b, j * 3 + 2, none⟩) lb).trans e2; have d4 := (hb3.cell (p := ⟨b, t * 3, none⟩) lb).trans u0; have d5 := (hb3.cell (p := ⟨b, t * 3 + 1, none⟩) lb).trans u1; have d6 := (hb3.cell (p := ⟨b, t * 3 + 2, none⟩) lb).trans u2)))
                  have B3 := Lib.hid (B2.out.trans (((Below.refl _ w2).drew.trans hb3).mono B2.out.size))
                  clear hb3
                  go_wp2
                  go_roundw
                  case rel => (repeat apply Exists.intro); exact ⟨⟨j + 1, j, by omega, rfl, by go_num, HN, B3⟩, rfl⟩
                  case measure => simp [intOf]; omega
                · have hl' : ltB ⟨xm, xs, xt⟩ ⟨ym, ys, yt⟩ = false := by simpa using hl
                  have C2 := Lib.hid (fun W => rahead_any ⟨xm, xs, xt⟩ ⟨ym, ys, yt⟩ W)
                  rw [hl'] at C2
                  unfold rval at C2
                  simp only at C2
                  have HN := Lib.hid (best_stay HBe.out HX.out HY.out ((ltB_no _ _).1 hl'))
                  clear hl hl'
                  go_wp2_with fail
                  go_region_held3 (fun w' => w'.cell? ⟨g, 2, none⟩ = some (.slice (some ⟨b, 0, none⟩) L.length d) ∧ w'.cell? ⟨b, j * 3, none⟩ = some (.int .i64 xm) ∧ w'.cell? ⟨b, j * 3 + 1, none⟩ = some (.int .i64 xs) ∧ w'.cell? ⟨b, j * 3 + 2, none⟩ = some (.int .i64 xt) ∧ w'.cell? ⟨b, t * 3, none⟩ = some (.int .i64 ym) ∧ w'.cell? ⟨b, t * 3 + 1, none⟩ = some (.int .i64 ys) ∧ w'.cell? ⟨b, t * 3 + 2, none⟩ = some (.int .i64 yt))
                    (first | go_keep | exact ⟨d0, d1, d2, d3, d4, d5, d6⟩ | exact ⟨c2, e0, e1, e2, u0, u1, u2⟩)
                    ((go_at_call 32; ((with_reducible refine (C2.out _).mono ?_); rintro E w3 ⟨rfl, hb3⟩; have d0 := (hb3.cell (p := ⟨g, 2, none⟩) lg).trans c2; have d1 := (hb3.cell (p := ⟨b, j * 3, none⟩) lb).trans e0; have d2 := (hb3.cell (p := ⟨b, j * 3 + 1, none⟩) lb).trans e1; have d3 := (hb3.cell (p := ⟨b, j * 3 + 2, none⟩) lb).trans e2; have d4 := (hb3.cell (p := ⟨b, t * 3, none⟩) lb).trans u0; have d5 := (hb3.cell (p := ⟨b, t * 3 + 1, none⟩) lb).trans u1; have d6 := (hb3.cell (p := ⟨b, t * 3 + 2, none⟩) lb).trans u2)))
                  have B3 := Lib.hid (B2.out.trans (((Below.refl _ w2).drew.trans hb3).mono B2.out.size))
                  clear hb3
                  go_wp2
                  go_roundw
                  case rel => (repeat apply Exists.intro); exact ⟨⟨j + 1, t, by omega, rfl, by go_num, HN, B3⟩, rfl⟩
                  case measure => simp [intOf]; omega
            · have hzx' : ltB ⟨zm, zs, zt⟩ ⟨xm, xs, xt⟩ = false := by simpa using hzx
              have HN := Lib.hid (best_skip HBe.out HX.out (fun h => hzx ((ltB_iff _ _).2 (HZ.out.1 h))))
              rw [hzx'] at C1
              clear hzx hzx'
              go_wp2_with fail
              go_region_held3 (fun w' => w'.cell? ⟨g, 2, none⟩ = some (.slice (some ⟨b, 0, none⟩) L.length d) ∧ w'.cell? ⟨b, j * 3, none⟩ = some (.int .i64 xm) ∧ w'.cell? ⟨b, j * 3 + 1, none⟩ = some (.int .i64 xs) ∧ w'.cell? ⟨b, j * 3 + 2, none⟩ = some (.int .i64 xt) ∧ w'.cell? ⟨ob, k * 3, none⟩ = some (.int .i64 zm) ∧ w'.cell? ⟨ob, k * 3 + 1, none⟩ = some (.int .i64 zs) ∧ w'.cell? ⟨ob, k * 3 + 2, none⟩ = some (.int .i64 zt))
                (first | go_keep | exact ⟨d0, d1, d2, d3, d4, d5, d6⟩ | exact ⟨c2, e0, e1, e2, o0, o1, o2⟩)
                ((go_at_call 32; ((with_reducible refine (C1.out _).mono ?_); rintro E w2 ⟨rfl, hb2⟩; have d0 := (hb2.cell (p := ⟨g, 2, none⟩) lg).trans c2; have d1 := (hb2.cell (p := ⟨b, j * 3, none⟩) lb).trans e0; have d2 := (hb2.cell (p := ⟨b, j * 3 + 1, none⟩) lb).trans e1; have d3 := (hb2.cell (p := ⟨b, j * 3 + 2, none⟩) lb).trans e2; have d4 := (hb2.cell (p := ⟨ob, k * 3, none⟩) lo).trans o0; have d5 := (hb2.cell (p := ⟨ob, k * 3 + 1, none⟩) lo).trans o1; have d6 := (hb2.cell (p := ⟨ob, k * 3 + 2, none⟩) lo).trans o2)))
              have B4 := Lib.hid (B2.out.trans (((Below.refl _ wr).drew.trans hb2).mono B2.out.size))
              clear hb2
              go_wp2
              go_roundw
              case rel => (repeat apply Exists.intro); exact ⟨⟨j + 1, bb, by omega, rfl, by go_num, HN, B4⟩, rfl⟩
              case measure => simp [intOf]; omega
        · obtain rfl : j = L.length := by omega
          obtain ⟨t, y, e, hy, hSk⟩ := best_end HBe.out HS.out HM.out (by rw [HLen.out]; exact HK.out)
          subst e
          obtain ⟨_, e, _, _, e0, e1, e2⟩ := rser_at (H.out.below HW.out) hy
          cases e
          have htl : t < L.length := (List.getElem?_eq_some_iff.1 hy).1
          have ht3 : (t : Int) < (L.length : Int) := by omega
          have hk2 : k < L.length := HK.out
          have OW := Lib.hid (own_turn HO.out (Turn.of_below (S := fun _ => False) B2.out) (fun _ _ hf => hf))
          have HT := Lib.hid (take_next hSk)
          clear hy hSk
          obtain ⟨ym, ys, yt⟩ := y
          simp only at e0 e1 e2
          have hsz := HW.out.size
          go_wp2_with (at_builtin; refine wpList_append_own _ rfl _ _ 23 rfl w.heap.size 37 i0 _ 3 24 Try.underlying23 hi hz0 hz1 hz2 rfl (by decide) _ _ _ rfl (OW.out.alloc _) ⟨wr.heap.size, 0, none⟩ 1 1 [.int .i64 ym, .int .i64 ys, .int .i64 yt] rfl rfl (World.news_of_block (cs := #[.int .i64 ym, .int .i64 ys, .int .i64 yt]) (t := 37) (fr := (0, 0)) (heap_alloc_new wr _)) (by simp [Value.oneCell']) (by unfold maxLen; omega) (by omega) (by simp; omega) ?_; intro v2 w2 hown2 hg2 _)
          have HB3 := Lib.hid ((HW.out.alloc hsz (.cells #[.int .i64 ym, .int .i64 ys, .int .i64 yt] 37)).grown hg2 (Nat.le_trans hsz (size_alloc _ _)) (fun k hk => (OW.out.lt k hk).1))
          have HO3 := Lib.hid (show w2.ownsRow w.heap.size 37 3 v2 (k + 1) ((S.take (k + 1)).flatMap rcells) by rw [HT.out]; exact hown2)
          obtain ⟨q2, c3, rfl⟩ := own_slice hown2
          clear hown2 hg2
          go_roundw
          case rel => exact ⟨k + 1, by omega, ⟨q2, c3, rfl⟩, HO3, HB3⟩
          case measure => simp [lenOf]; omega
    · obtain rfl : k = L.length := by omega
      have HT := Lib.hid (show S.take L.length = S by rw [List.take_of_length_le (by rw [HLen.out]; exact Nat.le_refl _)])
      go_wp2
      go_ret
      refine ⟨_, rfl, ?_, HB.out⟩
      have := HO.out
      rw [HT.out] at this
      rw [HLen.out]
      exact this
end Se
end Go.Proofs.Ytfmnbmjfkplieaa
