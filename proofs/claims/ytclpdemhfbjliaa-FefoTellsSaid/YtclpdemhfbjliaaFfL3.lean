/- The walk over layer 15's second law: first out. Conditions: the contracts of package fefo; the list reads as lots. -/
import Derived.Test.YtclpdemhfbjliaaFf4
namespace Go.Proofs.Ytclpdemhfbjliaa
open Go.RowKit Lo

namespace Ff
theorem sumT_bd (id : Int) : ∀ {T : List (Int × Int)}, (∀ t ∈ T, 0 ≤ t.2 ∧ t.2 ≤ 1048576) → 0 ≤ sumT id T ∧ sumT id T ≤ T.length * 1048576
  | [], _ => by simp [sumT]
  | t :: T, h => by
    have h1 := sumT_bd id (T := T) (fun s hs => h s (List.mem_cons_of_mem _ hs))
    have h2 := h t (by simp)
    rw [sumT, List.length_cons]
    split <;> omega
theorem dif_ix {l : List Lt} (h : Dif l) {a b : Nat} {x y : Lt} (hx : l[a]? = some x) (hy : l[b]? = some y) (e : x.id = y.id) : a = b := by
  obtain ⟨h1, h2⟩ := List.getElem?_eq_some_iff.1 hx
  obtain ⟨h3, h4⟩ := List.getElem?_eq_some_iff.1 hy
  rcases Nat.lt_trichotomy a b with hl | hl | hl
  · exact absurd (by rw [h2, h4]; exact e) (List.pairwise_iff_getElem.1 h a b h1 h3 hl)
  · exact hl
  · exact absurd (by rw [h2, h4]; exact e.symm) (List.pairwise_iff_getElem.1 h b a h3 h1 hl)
set_option maxRecDepth 100000 in
set_option maxHeartbeats 32000000 in
theorem ffirst_short (I : Face) (p : Option Addr) (n c : Nat) (L : List Lv) (pr u : Int) (w : World) (hA : Rw 8 lcells w p n L) (hn : n ≤ 60) (hnc : n ≤ c) (hu0 : -9223372036854775808 ≤ u) (hu1 : u ≤ 9223372036854775807) :
    Calls Try.prog 4 #[.slice p n c, .int .i64 pr, .int .i64 u] w fun e w' => e = .returned (.bool true) ∧ Below w.heap.size w w' := by
  have AL := Lib.hid (fun W => falive_any I W)
  have HA := Lib.hid hA
  have HN := Lib.hid hA.1
  have HS := Lib.hid (show (lts L).length = n by unfold lts; rw [List.length_map]; exact hA.1)
  have C2 := Lib.hid (fun W (hW : Below w.heap.size w W) => I.pick p n c L pr u W (hA.keep lcells_len hW) (by omega) hnc hu0 hu1)
  have CP := Lib.hid (fun (id : Int) W (hW : Below w.heap.size w W) => place_any p n c L id W (hA.keep lcells_len hW) (by omega))
  unfold PickP at C2
  unfold PlaceEnd at CP
  have F0 := Lib.hid (fine_zero (lts L))
  have A0 : allP ((lts L).take 0) pr = 0 := by simp [allP, unitsL]
  have HA0 := Lib.hid A0
  have B0 := Lib.hid (Below.refl w.heap.size w)
  have t0 : decide (((n : Nat) : Int) > 60) = false := by simp; omega
  have hn3 : ((n : Nat) : Int) ≤ 60 := by omega
  have HNC := Lib.hid hnc
  clear hA hnc A0
  go_enter Try.func4, Try.ntmps4
  go_wp2_with fail
  go_loopw [7, 8, 9] (fun a i _ wr => ∃ k : Nat, k ≤ n ∧ i = .int .i64 k ∧ a = .int .i64 (allP ((lts L).take k) pr) ∧ Hid (Fine (lts L) k) ∧ Hid (Below w.heap.size w wr)) (fun _ i _ _ => n - (RowKit.intOf i).toNat)
  case atStart => exact ⟨0, Nat.zero_le _, rfl, by rw [HA0.out], F0, B0⟩
  case round =>
    clear F0 B0 HA0
    obtain ⟨k, hk, rfl, rfl, FK, BR⟩ := hrel
    obtain ⟨wo, hwo⟩ : ∃ wo : World, wo = wr := ⟨_, rfl⟩
    subst hwo
    by_cases hlt : k < n
    · have hk3 : (k : Int) < (n : Int) := by omega
      obtain ⟨y, hy⟩ : ∃ y, L[k]? = some y := ⟨_, List.getElem?_eq_getElem (by rw [HN.out]; exact hlt)⟩
      have HY := Lib.hid hy
      have N0 := Lib.hid (show NoId (lts L) y.x.id 0 from fun j x h => by omega)
      have AN := Lib.hid (all_next (p := pr) (lts_at hy))
      have AB := all_bd (l := (lts L).take k) (p := pr) FK.out.good
      have AL60 : ((lts L).take k).length ≤ 60 := by rw [List.length_take]; omega
      have ab : 0 ≤ allP ((lts L).take k) pr ∧ allP ((lts L).take k) pr ≤ 62914560 := by omega
      generalize allP ((lts L).take k) pr = al at *
      clear hy AB AL60
      go_wp2_with fail
      go_loopw [9] (fun i wx => ∃ j : Nat, j ≤ k ∧ i = .int .i64 j ∧ Hid (NoId (lts L) y.x.id j) ∧ Hid (Below w.heap.size w wx)) (fun i _ => k - (RowKit.intOf i).toNat)
      case atStart => exact ⟨0, Nat.zero_le _, rfl, N0, BR⟩
      case round =>
        clear N0 BR
        obtain ⟨j, hj, rfl, NJ, BX⟩ := hrel
        by_cases hlt2 : j < k
        · have hj3 : (j : Int) < (k : Int) := by omega
          have hj4 : (j : Int) < (n : Int) := by omega
          obtain ⟨z, hz⟩ : ∃ z, L[j]? = some z := ⟨_, List.getElem?_eq_getElem (by rw [HN.out]; omega)⟩
          obtain ⟨b, o, rfl, e0, j1, j2, j3⟩ := lv_at (HA.out.keep lcells_len BX.out) HY.out
          obtain ⟨b', o', eq, f0, j4, j5, j6⟩ := lv_at (HA.out.keep lcells_len BX.out) hz
          cases eq
          have NN := Lib.hid (fun hne => noid_next NJ.out (lts_at hz) hne)
          obtain ⟨yi, hyi⟩ : ∃ t, y.x.id = t := ⟨_, rfl⟩
          obtain ⟨zi, hzi⟩ : ∃ t, z.x.id = t := ⟨_, rfl⟩
          rw [hyi] at e0 NN
          rw [hzi] at f0 NN
          have HYI := Lib.hid hyi
          clear j1 j2 j3 j4 j5 j6 hz hyi hzi NJ
          by_cases h1 : zi = yi
          · subst h1
            have t1 : (zi == zi) = true := by simp
            clear NN
            go_wp2_with fail
            go_quiet (fail)
            go_wp2_with fail
            refine (AL.out _).mono ?_
            rintro e w2 ⟨rfl, hb⟩
            have B2 := Lib.hid ((below_drewN BX.out _).trans (hb.mono (below_drewN BX.out _).size))
            clear hb
            go_wp2
            go_ret
            exact ⟨rfl, B2.out⟩
          · have t1 : (zi == yi) = false := by simp [h1]
            have N2 := Lib.hid (NN.out h1)
            clear h1 NN
            go_wp2_with fail
            go_quiet (fail)
            go_wp2
            go_roundw
            case rel => exact ⟨j + 1, by omega, by go_num, by rw [HYI.out]; exact N2, Lib.hid (below_drewN BX.out _)⟩
            case measure => simp [RowKit.intOf]; omega
        · obtain rfl : j = k := by omega
          clear hj hlt2
          obtain ⟨b, o, rfl, j1, e1, e2, j2⟩ := lv_at (HA.out.keep lcells_len BX.out) HY.out
          have HYL := Lib.hid (lts_at HY.out)
          have FN := Lib.hid (fun hu => fine_next FK.out HYL.out NJ.out hu)
          have AN2 := Lib.hid AN.out
          obtain ⟨yu, hyu⟩ : ∃ t, y.x.units = t := ⟨_, rfl⟩
          obtain ⟨yp, hyp⟩ : ∃ t, y.x.product = t := ⟨_, rfl⟩
          rw [hyu] at e2 FN AN2
          rw [hyp] at e1 AN2
          clear j1 j2 hyu hyp AN NJ FK
          by_cases h1 : yu < 1
          · have t1 : decide (yu < 1) = true := by simp [h1]
            clear FN AN2
            go_wp2_with fail
            refine (AL.out _).mono ?_
            rintro e w2 ⟨rfl, hb⟩
            have B2 := Lib.hid (BX.out.trans (hb.mono BX.out.size))
            clear hb
            go_wp2
            go_ret
            exact ⟨rfl, B2.out⟩
          · have t1 : decide (yu < 1) = false := by simp [h1]
            by_cases h2 : yu > 1048576
            · have t2 : decide (yu > 1048576) = true := by simp [h2]
              clear FN AN2
              go_wp2_with fail
              refine (AL.out _).mono ?_
              rintro e w2 ⟨rfl, hb⟩
              have B2 := Lib.hid (BX.out.trans (hb.mono BX.out.size))
              clear hb
              go_wp2
              go_ret
              exact ⟨rfl, B2.out⟩
            · have t2 : decide (yu > 1048576) = false := by simp [h2]
              have FN2 := Lib.hid (FN.out ⟨by omega, by omega⟩)
              clear FN
              by_cases h3 : yp = pr
              · have AN3 := Lib.hid AN2.out
                rw [if_pos h3] at AN3
                subst h3
                have t3 : (yp == yp) = true := by simp
                clear AN2
                go_wp2
                go_roundw
                case rel => exact ⟨j + 1, by omega, by go_num, by rw [AN3.out], FN2, BX⟩
                case measure => simp [RowKit.intOf]; omega
              · have AN3 := Lib.hid AN2.out
                rw [if_neg h3, Int.add_zero] at AN3
                have t3 : (yp == pr) = false := by simp [h3]
                clear AN2 h3
                go_wp2
                go_roundw
                case rel => exact ⟨j + 1, by omega, by go_num, by rw [AN3.out], FN2, BX⟩
                case measure => simp [RowKit.intOf]; omega
    · obtain rfl : k = n := by omega
      have hT : (lts L).take k = lts L := List.take_of_length_le (by rw [HS.out]; exact Nat.le_refl _)
      have FD := Lib.hid FK.out.dif
      have FG := Lib.hid FK.out.good
      rw [hT] at FD FG
      rw [hT]
      have P3 := pick_three (p := pr) (u := u) FD.out FG.out
      have ab : 0 ≤ allP (lts L) pr ∧ allP (lts L) pr ≤ 62914560 := by
        have h1 := all_bd (l := lts L) (p := pr) FG.out
        rw [HS.out] at h1
        omega
      generalize allP (lts L) pr = al at *
      clear hT FK hlt hk
      rcases P3 with ⟨h1, hp⟩ | ⟨h1, h2, hp⟩ | ⟨h1, h2, T, z, r, hp, O⟩
      · rw [hp] at C2
        clear hp CP
        have t1 : decide (u < 1) = true := by simp [h1]
        go_wp2_with fail
        refine (C2.out _ BR.out).mono ?_
        intro e w3 he
        obtain ⟨v, rfl, ho, hb⟩ := he
        obtain ⟨qt, dt, rfl⟩ := own_slice ho
        have B3 := Lib.hid (BR.out.trans (hb.mono BR.out.size))
        rw [List.length_nil]
        clear hb ho C2 BR
        go_wp2_with fail
        refine (AL.out _).mono ?_
        rintro e w4 ⟨rfl, hb⟩
        have B4 := Lib.hid (B3.out.trans (hb.mono B3.out.size))
        clear hb AL B3
        go_wp2
        go_ret
        exact ⟨rfl, B4.out⟩
      · rw [hp] at C2
        clear hp CP
        have t1 : decide (u < 1) = false := by simp; omega
        have t2 : decide (u > al) = true := by simp; omega
        go_wp2_with fail
        refine (C2.out _ BR.out).mono ?_
        intro e w3 he
        obtain ⟨v, rfl, ho, hb⟩ := he
        obtain ⟨qt, dt, rfl⟩ := own_slice ho
        have B3 := Lib.hid (BR.out.trans (hb.mono BR.out.size))
        rw [List.length_nil]
        clear hb ho C2 BR
        go_wp2_with fail
        refine (AL.out _).mono ?_
        rintro e w4 ⟨rfl, hb⟩
        have B4 := Lib.hid (B3.out.trans (hb.mono B3.out.size))
        clear hb AL B3
        go_wp2
        go_ret
        exact ⟨rfl, B4.out⟩
      · have PB0 := pick_bd (lts L) pr u
        rw [hp] at C2 PB0
        clear hp
        have t1 : decide (u < 1) = false := by simp; omega
        have t2 : decide (u > al) = false := by simp; omega
        have HO := Lib.hid O
        have PB := Lib.hid PB0
        have M1 : 0 < T.length ∧ T.length ≤ k := by rw [← HS.out]; exact O.len
        have TT := Lib.hid (show totT T = u from O.tot)
        obtain ⟨m, hM⟩ : ∃ m, T.length = m + 1 := ⟨T.length - 1, by omega⟩
        have HM := Lib.hid hM
        rw [hM] at M1
        have hm : m < k := by omega
        have hm3 : (m : Int) < 60 := by omega
        have t3 : decide (((m + 1 : Nat) : Int) > (k : Int)) = false := by simp; omega
        have t4 : (((m + 1 : Nat) : Int) == 0) = false := by simp; omega
        have t5 : decide ((m : Int) + 1 > (k : Int)) = false := by simp; omega
        have t6 : ((m : Int) + 1 == 0) = false := by simp; omega
        have LT := Lib.hid (show T[m]? = some (z.id, r) by rw [← O.last, List.getLast?_eq_getElem?, hM, Nat.add_sub_cancel])
        clear O h1 h2 ab PB0 M1 hM
        go_wp2_with fail
        refine (C2.out _ BR.out).mono ?_
        intro e w3 he
        obtain ⟨v, rfl, ho, hb⟩ := he
        obtain ⟨qt, dt, rfl⟩ := own_slice ho
        have B3 := Lib.hid (BR.out.trans (hb.mono BR.out.size))
        obtain ⟨q', c', e, hc, hr⟩ := rw_own tcells_len ho
        injection e with e1 e2 e3
        subst e1 e3
        clear e2
        rw [HM.out] at ho hc hr
        rw [HM.out]
        obtain ⟨g, c1, e, hg1, hg2, _⟩ := own_some ho (by omega)
        cases e
        have HT := Lib.hid ho
        have CT := Lib.hid (fun W (hW : Below w3.heap.size w3 W) => I.total _ (m + 1) _ T W (hr.keep tcells_len hW) (by omega) hc PB.out)
        rw [TT.out] at CT
        have HG := Lib.hid hg2
        have q1 : (u == u) = true := by simp
        clear hb ho C2 BR hc hr hg1 hg2
        go_wp2_with fail
        refine (CT.out _ (Below.refl _ _)).mono ?_
        rintro e w4 ⟨rfl, hb⟩
        have D4 := Lib.hid hb
        have B4 := Lib.hid (B3.out.trans (hb.mono B3.out.size))
        have a0 : w4.cell? ⟨g, m * 2, none⟩ = some (.int .i64 z.id) := (hb.cell (p := ⟨g, m * 2, none⟩) HG.out).trans (row_cell tcells_len HT.out HM.out LT.out (i := 0) (by decide))
        obtain ⟨zi, hzi⟩ : ∃ t, z.id = t := ⟨_, rfl⟩
        rw [hzi] at a0
        have HZI := Lib.hid hzi
        clear hb CT hzi
        go_wp2_with fail
        refine (CP.out _ _ B4.out).mono ?_
        intro e w5 he
        obtain ⟨b, rfl, hz, hb⟩ := he
        have D5 := Lib.hid (D4.out.trans (hb.mono D4.out.size))
        have B5 := Lib.hid (B4.out.trans (hb.mono B4.out.size))
        obtain ⟨i, rfl, hi⟩ : ∃ i : Nat, b = (i : Nat) ∧ (lts L)[i]? = some z := by
          rcases hz with ⟨_, hno⟩ | ⟨i, x, rfl, hx, he⟩
          · obtain ⟨j, hj⟩ := List.mem_iff_getElem?.1 HO.out.here
            have hj2 := (List.getElem?_eq_some_iff.1 hj).1
            exact absurd HZI.out (hno j z hj2 hj)
          · exact ⟨i, rfl, by rw [hx, dif_same FD.out (List.mem_of_getElem? hx) HO.out.here (by rw [he, HZI.out])]⟩
        have HI := Lib.hid hi
        have hik : i < k := by rw [← HS.out]; exact (List.getElem?_eq_some_iff.1 hi).1
        have hi0 : decide ((i : Int) < 0) = false := by simp
        have hi3 : (i : Int) < (k : Int) := by omega
        clear a0 hz hb hi CP D4 B4 B5
        go_wp2_with fail
        go_loopw [14, 15, 16, 17] (fun i' _ _ _ wq => ∃ a : Nat, a ≤ k ∧ i' = .int .i64 a ∧ Hid (Below w3.heap.size w3 wq)) (fun i' _ _ _ _ => k - (RowKit.intOf i').toNat)
        case atStart => exact ⟨0, Nat.zero_le _, rfl, D5⟩
        case round =>
          clear D5
          obtain ⟨a, ha, rfl, BQ⟩ := hrel
          by_cases hlt : a < k
          · have ha3 : (a : Int) < (k : Int) := by omega
            obtain ⟨y, hy⟩ : ∃ y, L[a]? = some y := ⟨_, List.getElem?_eq_getElem (by rw [HN.out]; exact hlt)⟩
            have HY := Lib.hid hy
            clear hy
            have S0 : sumT y.x.id (T.take 0) = 0 := by simp [sumT]
            have HS0 := Lib.hid S0
            clear S0
            go_wp2_with fail
            go_loopw [15, 16] (fun s j' wx => ∃ j : Nat, j ≤ m + 1 ∧ j' = .int .i64 j ∧ s = .int .i64 (sumT y.x.id (T.take j)) ∧ Hid (Below w3.heap.size w3 wx)) (fun _ j' _ => m + 1 - (RowKit.intOf j').toNat)
            case atStart => exact ⟨0, Nat.zero_le _, rfl, by rw [HS0.out], BQ⟩
            case round =>
              clear BQ HS0
              obtain ⟨j, hj, rfl, rfl, BX⟩ := hrel
              by_cases hlt2 : j < m + 1
              · have hj3 : (j : Int) < (m : Int) + 1 := by omega
                obtain ⟨t, ht⟩ : ∃ t, T[j]? = some t := ⟨_, List.getElem?_eq_getElem (by rw [HM.out]; exact hlt2)⟩
                have TN := Lib.hid (sum_next ht y.x.id)
                have tb := sumT_bd y.x.id (T := T.take j) (fun x hx => PB.out x (List.mem_of_mem_take hx))
                have tl : (T.take j).length ≤ 60 := by rw [List.length_take]; omega
                have t2b := PB.out t (List.mem_of_getElem? ht)
                have tb2 : 0 ≤ sumT y.x.id (T.take j) ∧ sumT y.x.id (T.take j) ≤ 62914560 := by omega
                have a0 : wr.cell? ⟨g, j * 2, none⟩ = some (.int .i64 t.1) := (BX.out.cell (p := ⟨g, j * 2, none⟩) HG.out).trans (row_cell tcells_len HT.out HM.out ht (i := 0) (by decide))
                have a1 : wr.cell? ⟨g, j * 2 + 1, none⟩ = some (.int .i64 t.2) := (BX.out.cell (p := ⟨g, j * 2 + 1, none⟩) HG.out).trans (row_cell tcells_len HT.out HM.out ht (i := 1) (by decide))
                obtain ⟨b, o, rfl, e0, j1, j2, j3⟩ := lv_at (HA.out.keep lcells_len (B3.out.trans (BX.out.mono B3.out.size))) HY.out
                obtain ⟨ta, tu⟩ := t
                simp only at a0 a1 t2b TN
                obtain ⟨yi, hyi⟩ : ∃ t, y.x.id = t := ⟨_, rfl⟩
                have HYI := Lib.hid hyi
                rw [hyi] at e0 TN tb2
                rw [hyi]
                generalize hs : sumT yi (T.take j) = sm at *
                clear j1 j2 j3 ht tb tl hyi hs
                by_cases h1 : ta = yi
                · subst h1
                  have TN2 := Lib.hid TN.out
                  rw [if_pos rfl] at TN2
                  have t7 : (ta == ta) = true := by simp
                  clear TN
                  go_wp2_with fail
                  go_quiet (fail)
                  go_wp2
                  go_roundw
                  case rel => exact ⟨j + 1, by omega, by go_num, by rw [TN2.out], Lib.hid (below_drewN BX.out _)⟩
                  case measure => simp [RowKit.intOf]; omega
                · have TN2 := Lib.hid TN.out
                  rw [if_neg h1, Int.add_zero] at TN2
                  have t7 : (ta == yi) = false := by simp [h1]
                  clear TN h1
                  go_wp2_with fail
                  go_quiet (fail)
                  go_wp2
                  go_roundw
                  case rel => exact ⟨j + 1, by omega, by go_num, by rw [TN2.out], Lib.hid (below_drewN BX.out _)⟩
                  case measure => simp [RowKit.intOf]; omega
              · obtain rfl : j = m + 1 := by omega
                have hT2 : T.take (m + 1) = T := List.take_of_length_le (by rw [HM.out]; exact Nat.le_refl _)
                rw [hT2]
                clear hT2 hj hlt2
                obtain ⟨zl, hzl⟩ : ∃ v, L[i]? = some v := ⟨_, List.getElem?_eq_getElem (by rw [HN.out]; exact hik)⟩
                have hzx : zl.x = z := Option.some.inj ((lts_at hzl).symm.trans HI.out)
                have AR := HA.out.keep lcells_len (B3.out.trans (BX.out.mono B3.out.size))
                obtain ⟨b, o, rfl, e0, e1, e2, e3⟩ := lv_at AR HY.out
                obtain ⟨b', o', eq, f0, f1, f2, f3⟩ := lv_at AR hzl
                cases eq
                rw [hzx] at f3
                have hyl := lts_at HY.out
                have hml := List.mem_of_getElem? hyl
                clear f0 f1 f2 hzl hzx AR
                by_cases hai : a = i
                · subst hai
                  have hyz : y.x = z := Option.some.inj (hyl.symm.trans HI.out)
                  have v1 := HO.out.end_
                  have v2 := HO.out.part
                  have v3 := HO.out.prod
                  rw [hyz] at e0 e1 e2 e3
                  rw [hyz, v1]
                  rw [v3] at e1
                  rw [HZI.out] at e0
                  obtain ⟨zu, hzu⟩ : ∃ t, z.units = t := ⟨_, rfl⟩
                  obtain ⟨ze, hze⟩ : ∃ t, z.expiry = t := ⟨_, rfl⟩
                  rw [hzu] at e2 v2
                  rw [hze] at e3
                  have s1 : decide (r < 1) = false := by simp; omega
                  have s2 : decide (r > zu) = false := by simp; omega
                  have s3 : (pr == pr) = true := by simp
                  have s4 : (ze == ze) = true := by simp
                  have s5 : decide (ze < ze) = false := by simp
                  have s6 : decide (zi < zi) = false := by simp
                  have s7 : ((a : Int) == (a : Int)) = true := by simp
                  clear f3 hyl hml hyz v1 v2 v3 hzu hze hi0 hi3 t1 t2 t3 t4 t5 t6 q1
                  go_wp2_with fail
                  go_quiet (fail)
                  go_wp2
                  go_roundw
                  case rel => exact ⟨a + 1, by omega, by go_num, Lib.hid (below_drewN BX.out _)⟩
                  case measure => simp [RowKit.intOf]; omega
                · have hne : y.x.id ≠ z.id := fun h => hai (dif_ix FD.out hyl HI.out h)
                  have v1 := HO.out.ahead y.x hml
                  have v2 := fun h => HO.out.behind y.x hml h hne
                  rw [bf_iff] at v1 v2
                  obtain ⟨sm, hs⟩ : ∃ t, sumT y.x.id T = t := ⟨_, rfl⟩
                  rw [hs] at v1 v2
                  rw [hs]
                  rw [HZI.out] at v1 v2
                  obtain ⟨ze, hze⟩ : ∃ t, z.expiry = t := ⟨_, rfl⟩
                  rw [hze] at f3 v1 v2
                  obtain ⟨yi, hyi⟩ : ∃ t, y.x.id = t := ⟨_, rfl⟩
                  obtain ⟨yp, hyp⟩ : ∃ t, y.x.product = t := ⟨_, rfl⟩
                  obtain ⟨yu, hyu⟩ : ∃ t, y.x.units = t := ⟨_, rfl⟩
                  obtain ⟨ye, hye⟩ : ∃ t, y.x.expiry = t := ⟨_, rfl⟩
                  rw [hyi] at e0 v1 v2
                  rw [hyp] at e1 v1 v2
                  rw [hyu] at e2 v1
                  rw [hye] at e3 v1 v2
                  have g1 : ((a : Int) == (i : Int)) = false := by simp; omega
                  have g3 : ¬ ((a : Int) = (i : Int)) := by omega
                  have V1 := Lib.hid v1
                  have V2 := Lib.hid v2
                  clear hs hze hyi hyp hyu hye hyl hml hne hai v1 v2 t1 t2 t3 t4 t5 t6 q1
                  by_cases c1 : yp = pr
                  · by_cases c2 : ye < ze
                    · have hs := V1.out c1 (.inl c2)
                      subst hs
                      subst c1
                      have s1 : (yp == yp) = true := by simp
                      have s2 : (sm == sm) = true := by simp
                      have s3 : decide (ye < ze) = true := by simp [c2]
                      clear V1 V2
                      go_wp2_with fail
                      go_quiet (fail)
                      go_wp2
                      go_roundw
                      case rel => exact ⟨a + 1, by omega, by go_num, Lib.hid (below_drewN BX.out _)⟩
                      case measure => simp [RowKit.intOf]; omega
                    · by_cases c3 : ye = ze
                      · by_cases c4 : yi < zi
                        · have hs := V1.out c1 (.inr ⟨c3, c4⟩)
                          subst hs
                          subst c1
                          subst c3
                          have s1 : (yp == yp) = true := by simp
                          have s2 : (sm == sm) = true := by simp
                          have s3 : decide (ye < ye) = false := by simp
                          have s4 : (ye == ye) = true := by simp
                          have s5 : decide (yi < zi) = true := by simp [c4]
                          clear V1 V2 c2
                          go_wp2_with fail
                          go_quiet (fail)
                          go_wp2
                          go_roundw
                          case rel => exact ⟨a + 1, by omega, by go_num, Lib.hid (below_drewN BX.out _)⟩
                          case measure => simp [RowKit.intOf]; omega
                        · have hs := V2.out (by omega)
                          have s8 : (sm == 0) = true := by simp [hs]
                          have s10 : decide (sm < 1) = true := by simp [hs]
                          subst c1
                          subst c3
                          have s1 : (yp == yp) = true := by simp
                          have s3 : decide (ye < ye) = false := by simp
                          have s4 : (ye == ye) = true := by simp
                          have s5 : decide (yi < zi) = false := by simp [c4]
                          clear V1 V2 c2 c4
                          go_wp2_with fail
                          go_quiet (fail)
                          go_wp2
                          go_roundw
                          case rel => exact ⟨a + 1, by omega, by go_num, Lib.hid (below_drewN BX.out _)⟩
                          case measure => simp [RowKit.intOf]; omega
                      · have hs := V2.out (by omega)
                        have s8 : (sm == 0) = true := by simp [hs]
                        have s10 : decide (sm < 1) = true := by simp [hs]
                        subst c1
                        have s1 : (yp == yp) = true := by simp
                        have s3 : decide (ye < ze) = false := by simp [c2]
                        have s4 : (ye == ze) = false := by simp [c3]
                        clear V1 V2 c2 c3
                        go_wp2_with fail
                        go_quiet (fail)
                        go_wp2
                        go_roundw
                        case rel => exact ⟨a + 1, by omega, by go_num, Lib.hid (below_drewN BX.out _)⟩
                        case measure => simp [RowKit.intOf]; omega
                  · have hs := V2.out (fun h => c1 h.1)
                    have s8 : (sm == 0) = true := by simp [hs]
                    have s10 : decide (sm < 1) = true := by simp [hs]
                    have s1 : (yp == pr) = false := by simp [c1]
                    clear V1 V2 c1
                    go_wp2_with fail
                    go_quiet (fail)
                    go_wp2
                    go_roundw
                    case rel => exact ⟨a + 1, by omega, by go_num, Lib.hid (below_drewN BX.out _)⟩
                    case measure => simp [RowKit.intOf]; omega
          · obtain rfl : a = k := by omega
            go_wp2_with fail
            refine (AL.out _).mono ?_
            rintro e w6 ⟨rfl, hb⟩
            have B6 := Lib.hid (B3.out.trans ((BQ.out.trans (hb.mono BQ.out.size)).mono B3.out.size))
            clear hb
            go_wp2
            go_ret
            exact ⟨rfl, B6.out⟩
end Ff
end Go.Proofs.Ytclpdemhfbjliaa
