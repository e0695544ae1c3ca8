/- Walks over package fefo: what is picked, a total. Conditions: what the places in order are told as; units of a number of 64 bits. -/
import Derived.Test.YtclpdemhfbjliaaFfPe
import Derived.Test.YtclpdemhfbjliaaFfL2
import Derived.WalkMore
namespace Go.Proofs.Ytclpdemhfbjliaa
open Go.RowKit Lo

namespace Ff
theorem tcells_ones (t : Int × Int) : ∀ u ∈ tcells t, u.oneCell' = true := by
  intro u hu
  simp only [tcells, List.mem_cons, List.not_mem_nil, or_false] at hu
  rcases hu with rfl | rfl <;> rfl
theorem infoTk : (Try.prog.info? 34).map (fun i => (i.zero, i.size, i.bytes)) = some (some (.agg #[.int .i64 0, .int .i64 0]), 2, 16) := by kernel_rfl
theorem wrong_of (L : List Lv) (pr u : Int) : wrongB (lts L) pr u = (decide (u < 1) || (lts (ofLv L pr)).any badU) := by
  rw [ofLv_lts, List.any_filter]
  rfl
theorem ofP_of (L : List Lv) (pr : Int) : ofP (lts L) pr = isort (lts (ofLv L pr)) := by
  rw [ofLv_lts]
  rfl
/-- How far the picking has come. -/
structure Pgo (Q : List Lt) (u : Int) (k : Nat) (left : Int) (T : List (Int × Int)) : Prop where
  goes : T ++ pk left (Q.drop k) = pk u Q
  sh : short left (Q.drop k) = short u Q
  low : 1 ≤ left
  high : left ≤ u
theorem pgo_start {Q : List Lt} {u : Int} (hu : ¬ u < 1) : Pgo Q u 0 u [] := ⟨by simp, by simp, by omega, Int.le_refl _⟩
theorem drop_at {Q : List Lt} {k : Nat} {x : Lt} (hx : Q[k]? = some x) : Q.drop k = x :: Q.drop (k + 1) := by
  obtain ⟨h1, h2⟩ := List.getElem?_eq_some_iff.1 hx
  rw [← h2]
  exact List.drop_eq_getElem_cons h1
theorem pgo_next {Q : List Lt} {u left : Int} {k : Nat} {T : List (Int × Int)} {x : Lt} (h : Pgo Q u k left T) (hx : Q[k]? = some x) (h1 : 1 ≤ x.units) (h2 : x.units < left) : Pgo Q u (k + 1) (left - x.units) (T ++ [(x.id, x.units)]) := by
  have e1 := h.goes
  have e2 := h.sh
  rw [drop_at hx] at e1 e2
  have hl := h.low
  have hh := h.high
  have hm : min x.units left = x.units := by omega
  simp only [pk, short] at e1 e2
  rw [if_neg (by omega), hm] at e1 e2
  exact ⟨by rw [List.append_assoc]; exact e1, e2, by omega, by omega⟩
theorem pgo_last {Q : List Lt} {u left : Int} {k : Nat} {T : List (Int × Int)} {x : Lt} (h : Pgo Q u k left T) (hx : Q[k]? = some x) (h2 : ¬ x.units < left) : short u Q = false ∧ pk u Q = T ++ [(x.id, left)] := by
  have e1 := h.goes
  have e2 := h.sh
  rw [drop_at hx] at e1 e2
  have hl := h.low
  have hm : min x.units left = left := by omega
  simp only [pk, short] at e1 e2
  rw [if_neg (by omega), hm, Int.sub_self] at e1 e2
  have p0 : ∀ R : List Lt, pk 0 R = [] := fun R => by cases R <;> simp [pk]
  have s0 : ∀ R : List Lt, short 0 R = false := fun R => by cases R <;> simp [short]
  rw [p0] at e1
  rw [s0] at e2
  exact ⟨e2.symm, e1.symm⟩
theorem pgo_end {Q : List Lt} {u left : Int} {T : List (Int × Int)} (h : Pgo Q u Q.length left T) : short u Q = true := by
  have e2 := h.sh
  have hl := h.low
  rw [List.drop_length] at e2
  rw [← e2]
  simp only [short, decide_eq_true_eq]
  omega
theorem good_units {l : List Lt} (h : l.any badU = false) {k : Nat} {x : Lt} (hx : (isort l)[k]? = some x) : 1 ≤ x.units ∧ x.units ≤ 1048576 := by
  have h1 := List.any_eq_false.1 h x (isort_mem.1 (List.mem_of_getElem? hx))
  unfold badU at h1
  simp at h1
  omega
set_option maxRecDepth 100000 in
set_option maxHeartbeats 16000000 in
theorem pick_any (H : OutAny) (p : Option Addr) (n c : Nat) (L : List Lv) (pr u : Int) (w : World) (hA : Rw 8 lcells w p n L) (hn : n ≤ 1000000) (hu : u ≤ 9223372036854775807) :
    Calls Try.prog 8 #[.slice p n c, .int .i64 pr, .int .i64 u] w (PickP w (pickL (lts L) pr u)) := by
  obtain ⟨i0, hi0, hz0, hz1, hz2⟩ := info_parts infoTk
  have F := Lib.hid (of_any p n c L pr w hA hn)
  have LE := ofLv_le L pr
  rw [hA.1] at LE
  have W0 := Lib.hid (wrong_of L pr u)
  have Q0 := Lib.hid (ofP_of L pr)
  have HH := Lib.hid H
  have PW := Lib.hid (@pick_wrong (lts L) pr u)
  have PS := Lib.hid (@pick_short (lts L) pr u)
  have PO := Lib.hid (@pick_ok (lts L) pr u)
  generalize pickL (lts L) pr u = R at *
  generalize ofP (lts L) pr = Q at *
  generalize wrongB (lts L) pr u = wb at *
  unfold OfEnd at F
  generalize ofLv L pr = I at *
  clear H hA
  go_enter Try.func8, Try.ntmps8
  go_wp2_with fail
  go_step3
  go_wp2_with fail
  refine F.out.mono ?_
  intro e w2 he
  obtain ⟨q, m, d, rfl, hm, ho, hb⟩ := he
  have ho2 := ho
  rw [← hm] at ho2
  obtain ⟨q', c', eq, _, hr⟩ := rw_own lcells_len ho2
  cases eq
  rw [hm] at hr
  have RI := Lib.hid hr
  have HS := Lib.hid (show (lts I).length = m by unfold lts; rw [List.length_map, hm])
  have HL : m ≤ 1000000 := by omega
  have HIL := Lib.hid hm
  have B2 := Lib.hid hb
  have CH := Lib.hid (has_any q m d I w2 hr HL)
  have hm' : (m : Int) ≤ 1000000 := by omega
  clear ho ho2 hm hr hb F LE
  by_cases hu1 : u < 1
  · have t1 : decide (u < 1) = true := by simpa using hu1
    have E := Lib.hid (PW.out (by rw [W0.out, t1]; rfl))
    clear hu1 PW PS PO W0 CH
    go_wp2
    go_ret2
    refine ⟨.slice none 0 0, by rw [E.out]; rfl, ?_, B2.out⟩
    rw [E.out]
    exact World.ownsRow_nil _ _ _ _
  · have t1 : decide (u < 1) = false := by simpa using hu1
    have W1 := W0.out
    rw [t1, Bool.false_or] at W1
    generalize hbu : (lts I).any badU = bu at *
    have HB := Lib.hid hbu
    go_wp2_with fail
    refine CH.out.mono ?_
    rintro e w3 ⟨rfl, hb3⟩
    have B3 := Lib.hid (B2.out.trans (hb3.mono B2.out.size))
    have R3 := Lib.hid (RI.out.keep lcells_len hb3)
    clear hb3 CH B2 RI W0
    cases bu with
    | true =>
      have E := Lib.hid (PW.out W1)
      clear hu1 PW PS PO W1 hbu
      go_wp2
      go_ret2
      refine ⟨.slice none 0 0, by rw [E.out]; rfl, ?_, B3.out⟩
      rw [E.out]
      exact World.ownsRow_nil _ _ _ _
    | false =>
      have ES := Lib.hid (PS.out W1)
      have EO := Lib.hid (PO.out W1)
      have G0 := Lib.hid (pgo_start (Q := Q) (u := u) (by omega))
      have FO := Lib.hid (HH.out q m d I w3 R3.out HL)
      clear PW PS PO W1 hbu HH
      go_wp2_with fail
      go_step3
      go_wp2_with fail
      refine FO.out.mono ?_
      intro e w4 he
      obtain ⟨v, rfl, hv, hb⟩ := he
      have hv2 := hv
      rw [← places_len] at hv2
      obtain ⟨qp, dp, rfl, _, hr⟩ := rw_own pcells_len hv2
      rw [places_len, HS.out] at hr
      rw [places_len, HS.out]
      have RP := Lib.hid hr
      have R4 := Lib.hid (R3.out.keep lcells_len hb)
      have B4 := Lib.hid (B3.out.trans (hb.mono B3.out.size))
      have B0 := Lib.hid (Below.refl w4.heap.size w4)
      clear hv hv2 hr hb FO R3 B3
      go_wp2_with fail
      go_loopw [8, 9, 26] (fun v lf i wr => ∃ (k : Nat) (left : Int) (T : List (Int × Int)) (q3 : Option Addr) (d3 : Nat), k ≤ m ∧ i = .int .i64 k ∧ v = .slice q3 k d3 ∧ lf = .int .i64 left ∧ Hid (T.length = k) ∧ Hid (Pgo Q u k left T) ∧ Hid (wr.ownsRow w4.heap.size 34 2 (.slice q3 k d3) k (T.flatMap tcells)) ∧ Hid (Below w4.heap.size w4 wr)) (fun _ _ i _ => m - (RowKit.intOf i).toNat)
      case atStart => exact ⟨0, u, [], none, 0, Nat.zero_le _, rfl, rfl, rfl, Lib.hid rfl, G0, Lib.hid (World.ownsRow_nil _ _ _ _), B0⟩
      case round =>
        clear B0 G0
        obtain ⟨k, left, T, q3, d3, hk, rfl, rfl, rfl, HT, GK, OR, BR⟩ := hrel
        by_cases hlt : k < m
        · have hk3 : (k : Int) < (m : Int) := by omega
          obtain ⟨gp, og, i, y, rfl, c0, hil, hy, hx⟩ := pl_at (RP.out.keep pcells_len BR.out) hlt
          obtain ⟨b, o, rfl, e0, e1, e2, e3, e4, e5, e6, e7⟩ := lv8_at (R4.out.keep lcells_len BR.out) hy
          rw [← Q0.out] at hx
          rw [HIL.out] at hil
          have hi3 : (i : Int) < (m : Int) := by omega
          have hsr := BR.out.size
          have GU := good_units HB.out (by rw [← Q0.out]; exact hx)
          have GN := Lib.hid (fun h1 h2 => pgo_next GK.out hx h1 h2)
          have GL := Lib.hid (fun h2 => pgo_last GK.out hx h2)
          obtain ⟨⟨a0, a1, a2, a3, a4, a5, a6, st⟩, q0, m0, c0'⟩ := y
          simp only at e0 e1 e2 e3 e4 e5 e6 e7 GU GN GL
          have hl1 := GK.out.low
          have hl2 := GK.out.high
          have hk6 : (k : Int) ≤ 1000000 := by omega
          clear hx hy GK
          by_cases hc : a2 < left
          · have t4 : decide (a2 < left) = true := by simpa using hc
            have GN2 := Lib.hid (GN.out GU.1 hc)
            have hs1 : 1 ≤ left - a2 := by omega
            clear GN GL
            have RW1 : Hid (Rw 2 tcells ((wr.alloc (.cells #[.int .i64 a0, .int .i64 a1, .int .i64 a2, .int .i64 a3, .int .i64 a4, .int .i64 a5, .int .i64 a6, .slice q0 m0 c0'] 41)).alloc (.cells #[.int .i64 a0, .int .i64 a2] 34)) (some ⟨wr.heap.size + 1, 0, none⟩) 1 [(a0, a2)]) := Lib.hid (by
              have h1 := Ra.rw_one (k := 2) (enc := tcells) (wr.alloc (.cells #[.int .i64 a0, .int .i64 a1, .int .i64 a2, .int .i64 a3, .int .i64 a4, .int .i64 a5, .int .i64 a6, .slice q0 m0 c0'] 41)) 34 (a0, a2)
              rwa [show (wr.alloc (.cells #[.int .i64 a0, .int .i64 a1, .int .i64 a2, .int .i64 a3, .int .i64 a4, .int .i64 a5, .int .i64 a6, .slice q0 m0 c0'] 41)).heap.size = wr.heap.size + 1 by simp] at h1)
            have X1 := Lib.hid ((Lies.new wr 41 #[.int .i64 a0, .int .i64 a1, .int .i64 a2, .int .i64 a3, .int .i64 a4, .int .i64 a5, .int .i64 a6, .slice q0 m0 c0']).alloc (.cells #[.int .i64 a0, .int .i64 a2] 34))
            go_wp2_with (at_builtin; refine Ra.wpList_app tcells_len tcells_ones Try.underlying26 hi0 hz0 hz1 hz2 rfl (by decide) rfl _ _ rfl ((OR.out.alloc (.cells #[.int .i64 a0, .int .i64 a1, .int .i64 a2, .int .i64 a3, .int .i64 a4, .int .i64 a5, .int .i64 a6, .slice q0 m0 c0'] 41)).alloc _) rfl RW1.out rfl (by unfold maxLen; omega) (by omega) (by simp; omega) ?_; intro q5 d5 w5 hown5 hg5 _; have B5 := Lib.hid (((BR.out.alloc hsr (.cells #[.int .i64 a0, .int .i64 a1, .int .i64 a2, .int .i64 a3, .int .i64 a4, .int .i64 a5, .int .i64 a6, .slice q0 m0 c0'] 41)).alloc (by simp; omega) (.cells (tcells (a0, a2)).toArray 34)).grown hg5 (by simp; omega) (fun k hk => (own_lt OR.out hk).1)); have O5 := Lib.hid hown5; have f5 := Lib.hid (X1.out.grown hg5 (fun e => by have := own_lt OR.out e.symm; omega)); have f2 := f5.out.cell 2; simp only [List.getElem?_toArray, List.getElem?_cons_zero, List.getElem?_cons_succ] at f2; clear hown5 hg5)

            try go_wp2
            go_roundw
            case rel => exact ⟨k + 1, left - a2, T ++ [(a0, a2)], q5, d5, by omega, by go_num, rfl, rfl, Lib.hid (by rw [List.length_append, HT.out]; rfl), GN2, O5, B5⟩
            case measure => simp [RowKit.intOf]; omega
          · have t4 : decide (a2 < left) = false := by simpa using hc
            have G2 := GL.out hc
            have E1 := Lib.hid (EO.out G2.1)
            have E2 := Lib.hid G2.2
            clear GN GL hc G2
            have RW1 : Hid (Rw 2 tcells ((wr.alloc (.cells #[.int .i64 a0, .int .i64 a1, .int .i64 a2, .int .i64 a3, .int .i64 a4, .int .i64 a5, .int .i64 a6, .slice q0 m0 c0'] 41)).alloc (.cells #[.int .i64 a0, .int .i64 left] 34)) (some ⟨wr.heap.size + 1, 0, none⟩) 1 [(a0, left)]) := Lib.hid (by
              have h1 := Ra.rw_one (k := 2) (enc := tcells) (wr.alloc (.cells #[.int .i64 a0, .int .i64 a1, .int .i64 a2, .int .i64 a3, .int .i64 a4, .int .i64 a5, .int .i64 a6, .slice q0 m0 c0'] 41)) 34 (a0, left)
              rwa [show (wr.alloc (.cells #[.int .i64 a0, .int .i64 a1, .int .i64 a2, .int .i64 a3, .int .i64 a4, .int .i64 a5, .int .i64 a6, .slice q0 m0 c0'] 41)).heap.size = wr.heap.size + 1 by simp] at h1)
            have X1 := Lib.hid ((Lies.new wr 41 #[.int .i64 a0, .int .i64 a1, .int .i64 a2, .int .i64 a3, .int .i64 a4, .int .i64 a5, .int .i64 a6, .slice q0 m0 c0']).alloc (.cells #[.int .i64 a0, .int .i64 left] 34))
            go_wp2_with (at_builtin; refine Ra.wpList_app tcells_len tcells_ones Try.underlying26 hi0 hz0 hz1 hz2 rfl (by decide) rfl _ _ rfl ((OR.out.alloc (.cells #[.int .i64 a0, .int .i64 a1, .int .i64 a2, .int .i64 a3, .int .i64 a4, .int .i64 a5, .int .i64 a6, .slice q0 m0 c0'] 41)).alloc _) rfl RW1.out rfl (by unfold maxLen; omega) (by omega) (by simp; omega) ?_; intro q5 d5 w5 hown5 hg5 _; have B5 := Lib.hid (((BR.out.alloc hsr (.cells #[.int .i64 a0, .int .i64 a1, .int .i64 a2, .int .i64 a3, .int .i64 a4, .int .i64 a5, .int .i64 a6, .slice q0 m0 c0'] 41)).alloc (by simp; omega) (.cells (tcells (a0, left)).toArray 34)).grown hg5 (by simp; omega) (fun k hk => (own_lt OR.out hk).1)); have O5 := Lib.hid hown5; clear hown5 hg5)

            try go_wp2
            try rw [Exit.noGoto_ret]
            go_ret2
            refine ⟨.slice q5 (k + 1) d5, by rw [E1.out]; rfl, ?_, B4.out.trans (B5.out.mono B4.out.size)⟩
            rw [E1.out]
            show w5.ownsRow w.heap.size 34 2 (.slice q5 (k + 1) d5) (pk u Q).length ((pk u Q).flatMap tcells)
            rw [E2.out, List.length_append, HT.out]
            exact own_floor O5.out B4.out.size
        · obtain rfl : k = m := by omega
          have hl1 := GK.out.low
          have t5 : decide (left > 0) = true := by simp; omega
          have E := Lib.hid (ES.out (pgo_end (T := T) (left := left) (u := u) (Q := Q) (by
            have h1 := GK.out
            rwa [show k = Q.length by rw [Q0.out, isort_len, HS.out]] at h1)))
          clear GK
          go_wp2
          try rw [Exit.noGoto_ret]
          go_ret2
          refine ⟨.slice none 0 0, by rw [E.out]; rfl, ?_, B4.out.trans (BR.out.mono B4.out.size)⟩
          rw [E.out]
          exact World.ownsRow_nil _ _ _ _
set_option maxRecDepth 100000 in
set_option maxHeartbeats 8000000 in
theorem total_any (p : Option Addr) (n c : Nat) (T : List (Int × Int)) (w : World) (hA : Rw 2 tcells w p n T) (hn : n ≤ 1000) (hT : ∀ t ∈ T, 0 ≤ t.2 ∧ t.2 ≤ 1048576) :
    Calls Try.prog 10 #[.slice p n c] w fun e w' => e = .returned (.int .i64 (totT T)) ∧ Below w.heap.size w w' := by
  have hn' : (n : Int) ≤ 1000 := by omega
  have HA := Lib.hid hA
  have HN := Lib.hid hA.1
  have HT := Lib.hid hT
  have B0 := Lib.hid (Below.refl w.heap.size w)
  clear hA hT
  go_enter Try.func10, Try.ntmps10
  go_wp2_with fail
  go_loopw [3, 4, 10] (fun s tu i wr => ∃ (k : Nat) (sm : Int), k ≤ n ∧ i = .int .i64 k ∧ s = .int .i64 sm ∧ tu = .int .i64 0 ∧ 0 ≤ sm ∧ sm ≤ k * 1048576 ∧ Hid (totT (T.take k) = sm) ∧ Hid (Below w.heap.size w wr)) (fun _ _ i _ => n - (RowKit.intOf i).toNat)
  case atStart => exact ⟨0, 0, Nat.zero_le _, rfl, rfl, rfl, by omega, by omega, Lib.hid (by simp [totT]), B0⟩
  case round =>
    clear B0
    obtain ⟨k, sm, hk, rfl, rfl, rfl, h0, h1, HM, BR⟩ := hrel
    by_cases hlt : k < n
    · have hk3 : (k : Int) < (n : Int) := by omega
      obtain ⟨t, ht⟩ : ∃ t, T[k]? = some t := ⟨_, List.getElem?_eq_getElem (by rw [HN.out]; exact hlt)⟩
      have RT := HA.out.keep tcells_len BR.out
      obtain ⟨b, o, rfl, hc⟩ := RT.2 (by omega)
      have e0 : wr.cell? ⟨b, o + k * 2, none⟩ = some (.int .i64 t.1) := hc k t ht 0 (by decide)
      have e1 : wr.cell? ⟨b, o + k * 2 + 1, none⟩ = some (.int .i64 t.2) := hc k t ht 1 (by decide)
      have ht2 := HT.out t (List.mem_of_getElem? ht)
      have hsr := BR.out.size
      have MN : totT (T.take (k + 1)) = sm + t.2 := by
        unfold totT at *
        rw [List.take_add_one, ht, List.map_append, List.sum_append, HM.out]
        simp
      obtain ⟨tl, tu⟩ := t
      simp only at e0 e1 ht2 MN
      have MH := Lib.hid MN
      obtain ⟨g1, g2⟩ := ht2
      have B3 := Lib.hid (BR.out.alloc hsr (.cells #[.int .i64 tl, .int .i64 tu] 34))
      clear hc RT MN ht HM
      have d3 : decide (tu < 0) = false := by simpa using g1
      have hsm : sm ≤ 1048576000 := by omega
      by_cases h : 0 < tu
      · have d1 : decide (tu > 0) = true := by simpa using h
        have d2 : decide (sm + tu < sm) = false := by simp; omega
        have d4 : ¬ sm + tu < sm := by omega
        go_wp2
        go_roundw
        case rel => exact ⟨k + 1, sm + tu, by omega, by go_num, rfl, rfl, by omega, by omega, MH, B3⟩
        case measure => simp [RowKit.intOf]; omega
      · have d1 : decide (tu > 0) = false := by simpa using h
        go_wp2
        go_roundw
        case rel => exact ⟨k + 1, sm + tu, by omega, by go_num, rfl, rfl, by omega, by omega, MH, B3⟩
        case measure => simp [RowKit.intOf]; omega
    · obtain rfl : k = n := by omega
      have E := HM.out
      rw [List.take_of_length_le (by rw [HN.out]; exact Nat.le_refl _)] at E
      have HE := Lib.hid E
      clear E
      go_wp2
      go_ret
      exact ⟨by rw [HE.out]; rfl, BR.out⟩
end Ff
end Go.Proofs.Ytclpdemhfbjliaa
