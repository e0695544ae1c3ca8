/- Walks over the document's answer of layer 8: the runs. No condition but those written. -/
import Derived.Test.YtfdakkghikimcaaDr3
import Derived.Deep.RegionLaw
import Derived.Deep.AppendLies
import Derived.ChangeAlike
import Derived.BigRegion
import Derived.StillTailTactics
namespace Go.Proofs.Ytfdakkghikimcaa
open Go.RowKit

namespace Dr
open Se
theorem opnF_same {m t : Int} (h : m ≤ t) : ∀ {L : List Rd}, (∀ x ∈ L, m < x.min → t < x.min) → opnF L t = opnF L m := by
  have key : ∀ l : List Rd, (∀ x ∈ l, m < x.min → t < x.min) → opnF l.reverse t = opnF l.reverse m := by
    intro l
    induction l with
    | nil => intro _; rfl
    | cons x l ih =>
      intro hn
      rw [List.reverse_cons, opnF_snoc, opnF_snoc, ih (fun y hy => hn y (by simp [hy]))]
      have := hn x (by simp)
      by_cases hm : x.min ≤ m
      · rw [if_pos hm, if_pos (by omega)]
      · rw [if_neg hm, if_neg (by have := this (by omega); omega)]
  intro L hn
  have := key L.reverse (fun x hx => hn x (by simpa using hx))
  rwa [List.reverse_reverse] at this
/-- How far the runs are. -/
structure RI (l : List Rd) (e m : Int) (R : List Ru) : Prop where
  runs : RunsOf (opnF l) (min m e) R
  m0 : 0 ≤ m
  m1 : m ≤ 1048576
  few : (R.length : Int) ≤ m
theorem ri_start (l : List Rd) (e : Int) : RI l e 0 [] := ⟨runs_nil (by omega), by decide, by decide, by simp⟩
theorem ri_end {l : List Rd} {e m : Int} {R : List Ru} (h : RI l e m R) (hm : e ≤ m) : RunsOf (opnF l) e R := by
  have := h.runs
  rwa [show min m e = e by omega] at this
theorem ri_flat {l : List Rd} {e m s : Int} (h0 : m ≤ s) (h1 : s < min (nxt l m) e) : opnF l s = opnF l m :=
  opnF_same h0 (fun x hx hm => by have := (nxt_spec l m).2.2 x hx hm; omega)
theorem ri_step {l : List Rd} {e m : Int} (hm : m < e) (he : e ≤ 1048576) : m < nxt l m ∧ nxt l m ≤ 1048576 ∧ min m e = m ∧ m < min (nxt l m) e := by
  have h1 := nxt_spec l m
  have := h1.2.1 (by omega)
  refine ⟨this, h1.1, by omega, by omega⟩
theorem ri_skip {l : List Rd} {e m : Int} {R : List Ru} (h : RI l e m R) (hm : m < e) (he : e ≤ 1048576) (ho : opnF l m = false) : RI l e (nxt l m) R := by
  obtain ⟨s1, s2, s3, s4⟩ := ri_step (l := l) hm he
  have hr := h.runs
  rw [s3] at hr
  refine ⟨runs_skip hr (Int.le_of_lt s4) (fun s a b => by rw [ri_flat a b, ho]), ?_, s2, ?_⟩
  · have := h.m0
    omega
  · have := h.few
    omega
theorem ri_le {l : List Rd} {e m : Int} {R : List Ru} (h : RI l e m R) (hm : m < e) (r : Ru) (hr : r ∈ R) : r.b ≤ m ∧ r.a < r.b ∧ 0 ≤ r.a := by
  have := h.runs.each r hr
  omega
theorem ri_new {l : List Rd} {e m : Int} {R : List Ru} (h : RI l e m R) (hm : m < e) (he : e ≤ 1048576) (ho : opnF l m = true) (hl : ∀ r ∈ R, r.b < m) : RI l e (nxt l m) (R ++ [⟨m, min (nxt l m) e⟩]) := by
  obtain ⟨s1, s2, s3, s4⟩ := ri_step (l := l) hm he
  have hr := h.runs
  rw [s3] at hr
  refine ⟨runs_new hr h.m0 s4 (fun s a b => by rw [ri_flat a b, ho]) hl, ?_, s2, ?_⟩
  · have := h.m0
    omega
  · have := h.few
    simp only [List.length_append, List.length_cons, List.length_nil]
    omega
theorem ri_long {l : List Rd} {e m : Int} {R : List Ru} {r : Ru} (h : RI l e m (R ++ [r])) (hm : m < e) (he : e ≤ 1048576) (ho : opnF l m = true) (hb : r.b = m) : RI l e (nxt l m) (R ++ [⟨r.a, min (nxt l m) e⟩]) := by
  obtain ⟨s1, s2, s3, s4⟩ := ri_step (l := l) hm he
  have hr := h.runs
  rw [s3] at hr
  refine ⟨runs_long hr hb s4 (fun s a b => by rw [ri_flat a b, ho]), ?_, s2, ?_⟩
  · have := h.m0
    omega
  · have := h.few
    simp only [List.length_append, List.length_cons, List.length_nil] at this ⊢
    omega
theorem ri_last {l : List Rd} {e m : Int} {R : List Ru} {r : Ru} (h : RI l e m (R ++ [r])) (hm : m < e) (hb : r.b ≠ m) : ∀ s ∈ R ++ [r], s.b < m := by
  intro s hs
  have h1 := ri_le h hm r (by simp)
  rcases List.mem_append.1 hs with hs | hs
  · have := (List.pairwise_append.1 h.runs.rise).2.2 s hs r (by simp)
    omega
  · rw [List.mem_singleton.1 hs]
    omega
theorem ri_all {l : List Rd} {e m to : Int} {R : List Ru} (h : RI l e m R) (hm : m < e) (he : e ≤ 1048576) (hto : min (nxt l m) e = to) :
    (opnF l m = false → RI l e (nxt l m) R) ∧ (opnF l m = true → (∀ r ∈ R, r.b < m) → RI l e (nxt l m) (R ++ [⟨m, to⟩])) ∧
    (∀ R0 r, R = R0 ++ [r] → opnF l m = true → r.b = m → RI l e (nxt l m) (R0 ++ [⟨r.a, to⟩])) ∧ (∀ R0 r, R = R0 ++ [r] → r.b ≠ m → ∀ s ∈ R, s.b < m) := by
  subst hto
  refine ⟨ri_skip h hm he, ri_new h hm he, fun R0 r e1 ho hb => ?_, fun R0 r e1 hb => ?_⟩
  · subst e1
    exact ri_long h hm he ho hb
  · subst e1
    exact ri_last h hm hb
theorem last_of {R : List Ru} {k : Nat} (h : R.length = k + 1) : ∃ R0 r, R = R0 ++ [r] ∧ R0.length = k := by
  have hne : R ≠ [] := by
    rintro rfl
    simp at h
  exact ⟨R.dropLast, R.getLast hne, (List.dropLast_concat_getLast hne).symm, by simp [h]⟩
theorem set_last (R0 : List Ru) (r s : Ru) : (R0 ++ [r]).set R0.length s = R0 ++ [s] := by simp
theorem at_last (R0 : List Ru) (r : Ru) : (R0 ++ [r])[R0.length]? = some r := by simp
theorem infoU : (Try.prog.info? 50).map (fun i => (i.zero, i.size, i.bytes)) = some (some (.agg #[.int .i64 0, .int .i64 0]), 2, 16) := by kernel_rfl
set_option maxRecDepth 100000 in
set_option maxHeartbeats 4000000 in
theorem druns_any (p : Option Addr) (n c : Nat) (l : List Rd) (now : Int) (w : World) (hn : n ≤ 1000000) (h : Rw 3 mcells w p n l) :
    Calls Try.prog 14 #[.slice p n c, .int .i64 now] w fun e w' => ∃ v R, e = .returned v ∧ RunsOf (opnF l) (min now 1048576) R ∧ R.length ≤ 1048576 ∧ w'.ownsRow w.heap.size 50 2 v R.length (R.flatMap ucells) ∧ Below w.heap.size w w' := by
  have H := Lib.hid h
  clear h
  obtain ⟨i0, hi, hz0, hz1, hz2⟩ := info_parts infoU
  go_enter Try.func14, Try.ntmps14
  go_wp2_with fail
  · have HE := Lib.hid (show min now 1048576 = 1048576 by omega)
    have he : (1048576 : Int) ≤ 1048576 := by omega
    clear h
    go_loopw [5, 7] (fun v i wr => ∃ (m : Int) (R : List Ru) (k : Nat), i = .int .i64 m ∧ (∃ q d, v = .slice q k d) ∧ Hid (R.length = k) ∧ Hid (RI l 1048576 m R) ∧ Hid (wr.ownsRow w.heap.size 50 2 v k (R.flatMap ucells)) ∧ Hid (Below w.heap.size w wr)) (fun _ i _ => (1048576 - intOf i).toNat)
    case atStart => exact ⟨0, [], 0, rfl, ⟨none, 0, rfl⟩, Lib.hid rfl, Lib.hid (ri_start l _), Lib.hid (World.ownsRow_nil _ _ _ _), Lib.hid (Below.refl _ _)⟩
    case round =>
      obtain ⟨m, R, k, rfl, ⟨q, d, rfl⟩, HL, HI, HO, HB⟩ := hrel
      by_cases hm : m < 1048576
      · have C1 := Lib.hid (fun W hW => dnext_any p n c l m W (by omega) hW)
        have C2 := Lib.hid (fun W hW => dopen_any p n c l m W (by omega) hW)
        obtain ⟨s1, s2, s3, s4⟩ := ri_step (l := l) hm he
        have m0 := HI.out.m0
        have hf : (k : Int) ≤ m := by
          have := HI.out.few
          rwa [HL.out] at this
        have hto : min (nxt l m) 1048576 = nxt l m := by omega
        clear s4
        have SA := Lib.hid (ri_all HI.out hm he hto)
        generalize nxt l m = t at *
        have HR := Lib.hid (H.out.keep mcells_len HB.out)
        have hsz := HB.out.size
        go_wp2_with fail
        refine (C1.out _ HR.out).mono ?_
        rintro e w1 ⟨rfl, rfl⟩
        go_wp2_with fail
        refine (C2.out _ HR.out).mono ?_
        rintro e w1 ⟨rfl, rfl⟩
        rcases ho : opnF l m with _ | _
        · have HI2 := Lib.hid (SA.out.1 ho)
          have HR2 := HR
          have HL2 := HL
          have HO2 := HO
          have HB2 := HB
          clear ho
          go_wp2_with fail
          refine (C1.out _ HR2.out).mono ?_
          rintro e w1 ⟨rfl, rfl⟩
          go_wp2
          go_roundw
          case rel => exact ⟨t, _, _, rfl, ⟨_, _, rfl⟩, HL2, HI2, HO2, HB2⟩
          case measure => simp [intOf]; omega
        · by_cases hk0 : k = 0
          · have e0 := List.eq_nil_of_length_eq_zero (HL.out.trans hk0)
            subst e0
            have hk3 : (k : Int) ≤ 0 := by omega
            have HI2 := Lib.hid (SA.out.2.1 ho (fun r hr => by simp at hr))
            have HL2 := Lib.hid (show ([] ++ [(⟨m, t⟩ : Ru)]).length = k + 1 by rw [hk0]; rfl)
            clear ho hk0
            go_wp2_with (at_builtin; refine wpList_append_own _ rfl _ _ 37 rfl w.heap.size 50 i0 _ 2 16 Try.underlying37 hi hz0 hz1 hz2 rfl (by decide) _ _ _ rfl (HO.out.alloc _) ⟨wr.heap.size, 0, none⟩ 1 1 [.int .i64 m, .int .i64 t] rfl rfl (World.news_of_block (cs := #[.int .i64 m, .int .i64 t]) (t := 50) (fr := (0, 0)) (heap_alloc_new wr _)) (by simp [Value.oneCell']) (by unfold maxLen; omega) (by omega) (by simp; omega) ?_; intro v2 w2 hown2 hg2 _)
            obtain ⟨q2, d2, rfl⟩ := own_slice hown2
            have HB2 := Lib.hid ((HB.out.alloc HB.out.size (.cells #[.int .i64 m, .int .i64 t] 50)).grown hg2 (Nat.le_trans HB.out.size (size_alloc _ _)) (fun k hk => (HO.out.lt k hk).1))
            have HR2 := Lib.hid (H.out.keep mcells_len HB2.out)
            have HO2 := Lib.hid (show w2.ownsRow w.heap.size 50 2 (.slice q2 (k + 1) d2) (k + 1) (([] ++ [(⟨m, t⟩ : Ru)]).flatMap ucells) by rw [← flat_snoc]; exact hown2)
            clear hown2 hg2
            go_wp2_with fail
            refine (C1.out _ HR2.out).mono ?_
            rintro e w1 ⟨rfl, rfl⟩
            go_wp2
            go_roundw
            case rel => exact ⟨t, _, _, rfl, ⟨_, _, rfl⟩, HL2, HI2, HO2, HB2⟩
            case measure => simp [intOf]; omega
          · obtain ⟨k, rfl⟩ : ∃ j, k = j + 1 := ⟨k - 1, by omega⟩
            obtain ⟨R0, r, rfl, hk⟩ := last_of HL.out
            clear hk0
            obtain ⟨b, d', e, hBb, hbl, hnc⟩ := own_some HO.out (by omega)
            cases e
            have hx : (R0 ++ [r])[k]? = some r := by rw [← hk]; exact at_last R0 r
            have e1 : wr.cell? ⟨b, k * 2 + 1, none⟩ = some (.int .i64 r.b) := row_cell ucells_len HO.out HL.out hx (i := 1) (by decide)
            have f1 := HO.out.frozenAt (k * 2 + 1)
            by_cases hb : r.b = m
            · have HI2 := Lib.hid (SA.out.2.2.1 R0 r rfl ho hb)
              have HL2 := Lib.hid (show (R0 ++ [(⟨r.a, t⟩ : Ru)]).length = k + 1 by simp [hk])
              have HB2 := Lib.hid (((Turn.refl (fun j => j = b) wr).setCell (p := ⟨b, k * 2 + 1, none⟩) (.inl rfl) (.int .i64 t)).below HB.out HB.out.size (fun i hi => by rw [hi]; exact hBb))
              have HR2 := Lib.hid (H.out.keep mcells_len HB2.out)
              have HO2 := Lib.hid (show (wr.setCell ⟨b, k * 2 + 1, none⟩ (.int .i64 t)).ownsRow w.heap.size 50 2 (.slice (some ⟨b, 0, none⟩) (k + 1) d) (k + 1) ((R0 ++ [(⟨r.a, t⟩ : Ru)]).flatMap ucells) by
                have h9 := row_store ucells_len (HL.out ▸ HO.out) hx (x' := (⟨r.a, t⟩ : Ru)) (i := 1) (by decide) (u := .int .i64 t) rfl
                rw [← hk, set_last, hk] at h9
                exact HL.out ▸ h9)
              clear ho hx
              subst hb
              go_wp2_with fail
              refine (C1.out _ HR2.out).mono ?_
              rintro e w1 ⟨rfl, rfl⟩
              go_wp2
              go_roundw
              case rel => exact ⟨t, _, _, rfl, ⟨_, _, rfl⟩, HL2, HI2, HO2, HB2⟩
              case measure => simp [intOf]; omega
            · have HI2 := Lib.hid (SA.out.2.1 ho (SA.out.2.2.2 R0 r rfl hb))
              have HL2 := Lib.hid (show ((R0 ++ [r]) ++ [(⟨m, t⟩ : Ru)]).length = k + 1 + 1 by simp [hk])
              have hb' : (r.b == m) = false := by simp [hb]
              clear ho hx hb
              go_wp2_with (at_builtin; refine wpList_append_own _ rfl _ _ 37 rfl w.heap.size 50 i0 _ 2 16 Try.underlying37 hi hz0 hz1 hz2 rfl (by decide) _ _ _ rfl (HO.out.alloc _) ⟨wr.heap.size, 0, none⟩ 1 1 [.int .i64 m, .int .i64 t] rfl rfl (World.news_of_block (cs := #[.int .i64 m, .int .i64 t]) (t := 50) (fr := (0, 0)) (heap_alloc_new wr _)) (by simp [Value.oneCell']) (by unfold maxLen; omega) (by omega) (by simp; omega) ?_; intro v2 w2 hown2 hg2 _)
              obtain ⟨q2, d2, rfl⟩ := own_slice hown2
              have HB2 := Lib.hid ((HB.out.alloc HB.out.size (.cells #[.int .i64 m, .int .i64 t] 50)).grown hg2 (Nat.le_trans HB.out.size (size_alloc _ _)) (fun k hk => (HO.out.lt k hk).1))
              have HR2 := Lib.hid (H.out.keep mcells_len HB2.out)
              have HO2 := Lib.hid (show w2.ownsRow w.heap.size 50 2 (.slice q2 ((k + 1) + 1) d2) ((k + 1) + 1) (((R0 ++ [r]) ++ [(⟨m, t⟩ : Ru)]).flatMap ucells) by rw [← flat_snoc]; exact hown2)
              clear hown2 hg2
              go_wp2_with fail
              refine (C1.out _ HR2.out).mono ?_
              rintro e w1 ⟨rfl, rfl⟩
              go_wp2
              go_roundw
              case rel => exact ⟨t, _, _, rfl, ⟨_, _, rfl⟩, HL2, HI2, HO2, HB2⟩
              case measure => simp [intOf]; omega
      · have HX := Lib.hid (ri_end HI.out (by omega))
        have hm' : 1048576 ≤ m := by omega
        go_wp2
        go_ret
        refine ⟨_, rfl, R, ?_, ?_, ?_, HB.out⟩
        · rw [HE.out]
          exact HX.out
        · have h1 := HI.out.few
          have h2 := HI.out.m1
          omega
        · rw [HL.out]
          exact HO.out
  · have HE := Lib.hid (show min now 1048576 = now by omega)
    have he : (now : Int) ≤ 1048576 := by omega
    clear h
    go_loopw [5, 7] (fun v i wr => ∃ (m : Int) (R : List Ru) (k : Nat), i = .int .i64 m ∧ (∃ q d, v = .slice q k d) ∧ Hid (R.length = k) ∧ Hid (RI l now m R) ∧ Hid (wr.ownsRow w.heap.size 50 2 v k (R.flatMap ucells)) ∧ Hid (Below w.heap.size w wr)) (fun _ i _ => (1048576 - intOf i).toNat)
    case atStart => exact ⟨0, [], 0, rfl, ⟨none, 0, rfl⟩, Lib.hid rfl, Lib.hid (ri_start l _), Lib.hid (World.ownsRow_nil _ _ _ _), Lib.hid (Below.refl _ _)⟩
    case round =>
      obtain ⟨m, R, k, rfl, ⟨q, d, rfl⟩, HL, HI, HO, HB⟩ := hrel
      by_cases hm : m < now
      · have C1 := Lib.hid (fun W hW => dnext_any p n c l m W (by omega) hW)
        have C2 := Lib.hid (fun W hW => dopen_any p n c l m W (by omega) hW)
        obtain ⟨s1, s2, s3, s4⟩ := ri_step (l := l) hm he
        have m0 := HI.out.m0
        have hf : (k : Int) ≤ m := by
          have := HI.out.few
          rwa [HL.out] at this
        by_cases ht : nxt l m ≤ now
        · have hto : min (nxt l m) now = nxt l m := by omega
          clear s4
          have SA := Lib.hid (ri_all HI.out hm he hto)
          generalize nxt l m = t at *
          have HR := Lib.hid (H.out.keep mcells_len HB.out)
          have hsz := HB.out.size
          go_wp2_with fail
          refine (C1.out _ HR.out).mono ?_
          rintro e w1 ⟨rfl, rfl⟩
          go_wp2_with fail
          refine (C2.out _ HR.out).mono ?_
          rintro e w1 ⟨rfl, rfl⟩
          rcases ho : opnF l m with _ | _
          · have HI2 := Lib.hid (SA.out.1 ho)
            have HR2 := HR
            have HL2 := HL
            have HO2 := HO
            have HB2 := HB
            clear ho
            go_wp2_with fail
            refine (C1.out _ HR2.out).mono ?_
            rintro e w1 ⟨rfl, rfl⟩
            go_wp2
            go_roundw
            case rel => exact ⟨t, _, _, rfl, ⟨_, _, rfl⟩, HL2, HI2, HO2, HB2⟩
            case measure => simp [intOf]; omega
          · by_cases hk0 : k = 0
            · have e0 := List.eq_nil_of_length_eq_zero (HL.out.trans hk0)
              subst e0
              have hk3 : (k : Int) ≤ 0 := by omega
              have HI2 := Lib.hid (SA.out.2.1 ho (fun r hr => by simp at hr))
              have HL2 := Lib.hid (show ([] ++ [(⟨m, t⟩ : Ru)]).length = k + 1 by rw [hk0]; rfl)
              clear ho hk0
              go_wp2_with (at_builtin; refine wpList_append_own _ rfl _ _ 37 rfl w.heap.size 50 i0 _ 2 16 Try.underlying37 hi hz0 hz1 hz2 rfl (by decide) _ _ _ rfl (HO.out.alloc _) ⟨wr.heap.size, 0, none⟩ 1 1 [.int .i64 m, .int .i64 t] rfl rfl (World.news_of_block (cs := #[.int .i64 m, .int .i64 t]) (t := 50) (fr := (0, 0)) (heap_alloc_new wr _)) (by simp [Value.oneCell']) (by unfold maxLen; omega) (by omega) (by simp; omega) ?_; intro v2 w2 hown2 hg2 _)
              obtain ⟨q2, d2, rfl⟩ := own_slice hown2
              have HB2 := Lib.hid ((HB.out.alloc HB.out.size (.cells #[.int .i64 m, .int .i64 t] 50)).grown hg2 (Nat.le_trans HB.out.size (size_alloc _ _)) (fun k hk => (HO.out.lt k hk).1))
              have HR2 := Lib.hid (H.out.keep mcells_len HB2.out)
              have HO2 := Lib.hid (show w2.ownsRow w.heap.size 50 2 (.slice q2 (k + 1) d2) (k + 1) (([] ++ [(⟨m, t⟩ : Ru)]).flatMap ucells) by rw [← flat_snoc]; exact hown2)
              clear hown2 hg2
              go_wp2_with fail
              refine (C1.out _ HR2.out).mono ?_
              rintro e w1 ⟨rfl, rfl⟩
              go_wp2
              go_roundw
              case rel => exact ⟨t, _, _, rfl, ⟨_, _, rfl⟩, HL2, HI2, HO2, HB2⟩
              case measure => simp [intOf]; omega
            · obtain ⟨k, rfl⟩ : ∃ j, k = j + 1 := ⟨k - 1, by omega⟩
              obtain ⟨R0, r, rfl, hk⟩ := last_of HL.out
              clear hk0
              obtain ⟨b, d', e, hBb, hbl, hnc⟩ := own_some HO.out (by omega)
              cases e
              have hx : (R0 ++ [r])[k]? = some r := by rw [← hk]; exact at_last R0 r
              have e1 : wr.cell? ⟨b, k * 2 + 1, none⟩ = some (.int .i64 r.b) := row_cell ucells_len HO.out HL.out hx (i := 1) (by decide)
              have f1 := HO.out.frozenAt (k * 2 + 1)
              by_cases hb : r.b = m
              · have HI2 := Lib.hid (SA.out.2.2.1 R0 r rfl ho hb)
                have HL2 := Lib.hid (show (R0 ++ [(⟨r.a, t⟩ : Ru)]).length = k + 1 by simp [hk])
                have HB2 := Lib.hid (((Turn.refl (fun j => j = b) wr).setCell (p := ⟨b, k * 2 + 1, none⟩) (.inl rfl) (.int .i64 t)).below HB.out HB.out.size (fun i hi => by rw [hi]; exact hBb))
                have HR2 := Lib.hid (H.out.keep mcells_len HB2.out)
                have HO2 := Lib.hid (show (wr.setCell ⟨b, k * 2 + 1, none⟩ (.int .i64 t)).ownsRow w.heap.size 50 2 (.slice (some ⟨b, 0, none⟩) (k + 1) d) (k + 1) ((R0 ++ [(⟨r.a, t⟩ : Ru)]).flatMap ucells) by
                  have h9 := row_store ucells_len (HL.out ▸ HO.out) hx (x' := (⟨r.a, t⟩ : Ru)) (i := 1) (by decide) (u := .int .i64 t) rfl
                  rw [← hk, set_last, hk] at h9
                  exact HL.out ▸ h9)
                clear ho hx
                subst hb
                go_wp2_with fail
                refine (C1.out _ HR2.out).mono ?_
                rintro e w1 ⟨rfl, rfl⟩
                go_wp2
                go_roundw
                case rel => exact ⟨t, _, _, rfl, ⟨_, _, rfl⟩, HL2, HI2, HO2, HB2⟩
                case measure => simp [intOf]; omega
              · have HI2 := Lib.hid (SA.out.2.1 ho (SA.out.2.2.2 R0 r rfl hb))
                have HL2 := Lib.hid (show ((R0 ++ [r]) ++ [(⟨m, t⟩ : Ru)]).length = k + 1 + 1 by simp [hk])
                have hb' : (r.b == m) = false := by simp [hb]
                clear ho hx hb
                go_wp2_with (at_builtin; refine wpList_append_own _ rfl _ _ 37 rfl w.heap.size 50 i0 _ 2 16 Try.underlying37 hi hz0 hz1 hz2 rfl (by decide) _ _ _ rfl (HO.out.alloc _) ⟨wr.heap.size, 0, none⟩ 1 1 [.int .i64 m, .int .i64 t] rfl rfl (World.news_of_block (cs := #[.int .i64 m, .int .i64 t]) (t := 50) (fr := (0, 0)) (heap_alloc_new wr _)) (by simp [Value.oneCell']) (by unfold maxLen; omega) (by omega) (by simp; omega) ?_; intro v2 w2 hown2 hg2 _)
                obtain ⟨q2, d2, rfl⟩ := own_slice hown2
                have HB2 := Lib.hid ((HB.out.alloc HB.out.size (.cells #[.int .i64 m, .int .i64 t] 50)).grown hg2 (Nat.le_trans HB.out.size (size_alloc _ _)) (fun k hk => (HO.out.lt k hk).1))
                have HR2 := Lib.hid (H.out.keep mcells_len HB2.out)
                have HO2 := Lib.hid (show w2.ownsRow w.heap.size 50 2 (.slice q2 ((k + 1) + 1) d2) ((k + 1) + 1) (((R0 ++ [r]) ++ [(⟨m, t⟩ : Ru)]).flatMap ucells) by rw [← flat_snoc]; exact hown2)
                clear hown2 hg2
                go_wp2_with fail
                refine (C1.out _ HR2.out).mono ?_
                rintro e w1 ⟨rfl, rfl⟩
                go_wp2
                go_roundw
                case rel => exact ⟨t, _, _, rfl, ⟨_, _, rfl⟩, HL2, HI2, HO2, HB2⟩
                case measure => simp [intOf]; omega
        · have hto : min (nxt l m) now = now := by omega
          have ht' : now < nxt l m := by omega
          clear s4
          have SA := Lib.hid (ri_all HI.out hm he hto)
          generalize nxt l m = t at *
          have HR := Lib.hid (H.out.keep mcells_len HB.out)
          have hsz := HB.out.size
          go_wp2_with fail
          refine (C1.out _ HR.out).mono ?_
          rintro e w1 ⟨rfl, rfl⟩
          go_wp2_with fail
          refine (C2.out _ HR.out).mono ?_
          rintro e w1 ⟨rfl, rfl⟩
          rcases ho : opnF l m with _ | _
          · have HI2 := Lib.hid (SA.out.1 ho)
            have HR2 := HR
            have HL2 := HL
            have HO2 := HO
            have HB2 := HB
            clear ho
            go_wp2_with fail
            refine (C1.out _ HR2.out).mono ?_
            rintro e w1 ⟨rfl, rfl⟩
            go_wp2
            go_roundw
            case rel => exact ⟨t, _, _, rfl, ⟨_, _, rfl⟩, HL2, HI2, HO2, HB2⟩
            case measure => simp [intOf]; omega
          · by_cases hk0 : k = 0
            · have e0 := List.eq_nil_of_length_eq_zero (HL.out.trans hk0)
              subst e0
              have hk3 : (k : Int) ≤ 0 := by omega
              have HI2 := Lib.hid (SA.out.2.1 ho (fun r hr => by simp at hr))
              have HL2 := Lib.hid (show ([] ++ [(⟨m, now⟩ : Ru)]).length = k + 1 by rw [hk0]; rfl)
              clear ho hk0
              go_wp2_with (at_builtin; refine wpList_append_own _ rfl _ _ 37 rfl w.heap.size 50 i0 _ 2 16 Try.underlying37 hi hz0 hz1 hz2 rfl (by decide) _ _ _ rfl (HO.out.alloc _) ⟨wr.heap.size, 0, none⟩ 1 1 [.int .i64 m, .int .i64 now] rfl rfl (World.news_of_block (cs := #[.int .i64 m, .int .i64 now]) (t := 50) (fr := (0, 0)) (heap_alloc_new wr _)) (by simp [Value.oneCell']) (by unfold maxLen; omega) (by omega) (by simp; omega) ?_; intro v2 w2 hown2 hg2 _)
              obtain ⟨q2, d2, rfl⟩ := own_slice hown2
              have HB2 := Lib.hid ((HB.out.alloc HB.out.size (.cells #[.int .i64 m, .int .i64 now] 50)).grown hg2 (Nat.le_trans HB.out.size (size_alloc _ _)) (fun k hk => (HO.out.lt k hk).1))
              have HR2 := Lib.hid (H.out.keep mcells_len HB2.out)
              have HO2 := Lib.hid (show w2.ownsRow w.heap.size 50 2 (.slice q2 (k + 1) d2) (k + 1) (([] ++ [(⟨m, now⟩ : Ru)]).flatMap ucells) by rw [← flat_snoc]; exact hown2)
              clear hown2 hg2
              go_wp2_with fail
              refine (C1.out _ HR2.out).mono ?_
              rintro e w1 ⟨rfl, rfl⟩
              go_wp2
              go_roundw
              case rel => exact ⟨t, _, _, rfl, ⟨_, _, rfl⟩, HL2, HI2, HO2, HB2⟩
              case measure => simp [intOf]; omega
            · obtain ⟨k, rfl⟩ : ∃ j, k = j + 1 := ⟨k - 1, by omega⟩
              obtain ⟨R0, r, rfl, hk⟩ := last_of HL.out
              clear hk0
              obtain ⟨b, d', e, hBb, hbl, hnc⟩ := own_some HO.out (by omega)
              cases e
              have hx : (R0 ++ [r])[k]? = some r := by rw [← hk]; exact at_last R0 r
              have e1 : wr.cell? ⟨b, k * 2 + 1, none⟩ = some (.int .i64 r.b) := row_cell ucells_len HO.out HL.out hx (i := 1) (by decide)
              have f1 := HO.out.frozenAt (k * 2 + 1)
              by_cases hb : r.b = m
              · have HI2 := Lib.hid (SA.out.2.2.1 R0 r rfl ho hb)
                have HL2 := Lib.hid (show (R0 ++ [(⟨r.a, now⟩ : Ru)]).length = k + 1 by simp [hk])
                have HB2 := Lib.hid (((Turn.refl (fun j => j = b) wr).setCell (p := ⟨b, k * 2 + 1, none⟩) (.inl rfl) (.int .i64 now)).below HB.out HB.out.size (fun i hi => by rw [hi]; exact hBb))
                have HR2 := Lib.hid (H.out.keep mcells_len HB2.out)
                have HO2 := Lib.hid (show (wr.setCell ⟨b, k * 2 + 1, none⟩ (.int .i64 now)).ownsRow w.heap.size 50 2 (.slice (some ⟨b, 0, none⟩) (k + 1) d) (k + 1) ((R0 ++ [(⟨r.a, now⟩ : Ru)]).flatMap ucells) by
                  have h9 := row_store ucells_len (HL.out ▸ HO.out) hx (x' := (⟨r.a, now⟩ : Ru)) (i := 1) (by decide) (u := .int .i64 now) rfl
                  rw [← hk, set_last, hk] at h9
                  exact HL.out ▸ h9)
                clear ho hx
                subst hb
                go_wp2_with fail
                refine (C1.out _ HR2.out).mono ?_
                rintro e w1 ⟨rfl, rfl⟩
                go_wp2
                go_roundw
                case rel => exact ⟨t, _, _, rfl, ⟨_, _, rfl⟩, HL2, HI2, HO2, HB2⟩
                case measure => simp [intOf]; omega
              · have HI2 := Lib.hid (SA.out.2.1 ho (SA.out.2.2.2 R0 r rfl hb))
                have HL2 := Lib.hid (show ((R0 ++ [r]) ++ [(⟨m, now⟩ : Ru)]).length = k + 1 + 1 by simp [hk])
                have hb' : (r.b == m) = false := by simp [hb]
                clear ho hx hb
                go_wp2_with (at_builtin; refine wpList_append_own _ rfl _ _ 37 rfl w.heap.size 50 i0 _ 2 16 Try.underlying37 hi hz0 hz1 hz2 rfl (by decide) _ _ _ rfl (HO.out.alloc _) ⟨wr.heap.size, 0, none⟩ 1 1 [.int .i64 m, .int .i64 now] rfl rfl (World.news_of_block (cs := #[.int .i64 m, .int .i64 now]) (t := 50) (fr := (0, 0)) (heap_alloc_new wr _)) (by simp [Value.oneCell']) (by unfold maxLen; omega) (by omega) (by simp; omega) ?_; intro v2 w2 hown2 hg2 _)
                obtain ⟨q2, d2, rfl⟩ := own_slice hown2
                have HB2 := Lib.hid ((HB.out.alloc HB.out.size (.cells #[.int .i64 m, .int .i64 now] 50)).grown hg2 (Nat.le_trans HB.out.size (size_alloc _ _)) (fun k hk => (HO.out.lt k hk).1))
                have HR2 := Lib.hid (H.out.keep mcells_len HB2.out)
                have HO2 := Lib.hid (show w2.ownsRow w.heap.size 50 2 (.slice q2 ((k + 1) + 1) d2) ((k + 1) + 1) (((R0 ++ [r]) ++ [(⟨m, now⟩ : Ru)]).flatMap ucells) by rw [← flat_snoc]; exact hown2)
                clear hown2 hg2
                go_wp2_with fail
                refine (C1.out _ HR2.out).mono ?_
                rintro e w1 ⟨rfl, rfl⟩
                go_wp2
                go_roundw
                case rel => exact ⟨t, _, _, rfl, ⟨_, _, rfl⟩, HL2, HI2, HO2, HB2⟩
                case measure => simp [intOf]; omega
      · have HX := Lib.hid (ri_end HI.out (by omega))
        have hm' : now ≤ m := by omega
        go_wp2
        go_ret
        refine ⟨_, rfl, R, ?_, ?_, ?_, HB.out⟩
        · rw [HE.out]
          exact HX.out
        · have h1 := HI.out.few
          have h2 := HI.out.m1
          omega
        · rw [HL.out]
          exact HO.out
end Dr
end Go.Proofs.Ytfdakkghikimcaa
