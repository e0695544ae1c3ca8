/- The walk over the law that what is shipped stays so. Conditions: the contracts of package order; what comes in reads as acts. -/
import Derived.Test.YtpkniomjohjbiaaOrL2
import Derived.Deep.CutBlock
import Derived.Deep.CutRange
namespace Go.Proofs.Ytpkniomjohjbiaa
open Go.RowKit

namespace Or
set_option maxRecDepth 100000 in
set_option maxHeartbeats 16000000 in
theorem oonce_long (I : Face) (p : Option Addr) (n c : Nat) (w : World) (hn : 200 < n) (hn2 : n ≤ 9223372036854775807) : Calls Try.prog 5 #[.slice p n c] w fun e w' => e = .returned (.bool true) ∧ Below w.heap.size w w' := by
  have AL := Lib.hid (fun W => oalive_any I W)
  have t0 : decide (((n : Nat) : Int) > 200) = true := by simp; omega
  have hn3 : ((n : Nat) : Int) ≤ 9223372036854775807 := by omega
  clear hn hn2
  go_enter Try.func5, Try.ntmps5
  go_wp2_with fail
  refine (AL.out _).mono ?_
  rintro e w2 ⟨rfl, hb⟩
  have B2 := Lib.hid hb
  clear hb
  go_wp2
  go_ret
  exact ⟨rfl, B2.out⟩
set_option maxRecDepth 100000 in
set_option maxHeartbeats 16000000 in
theorem oonce_short (I : Face) (p : Option Addr) (n c : Nat) (A : List Ac) (w : World) (hA : Rw 3 acells w p n A) (hO : ∀ x ∈ A, Aok x) (hn : n ≤ 200) : Calls Try.prog 5 #[.slice p n c] w fun e w' => e = .returned (.bool true) ∧ Below w.heap.size w w' := by
  have AL := Lib.hid (fun W => oalive_any I W)
  have HA := Lib.hid hA
  have HO := Lib.hid hO
  have HN := Lib.hid hA.1
  have t0 : decide (((n : Nat) : Int) > 200) = false := by simp; omega
  have hn3 : ((n : Nat) : Int) ≤ 200 := by omega
  clear hA hO hn
  go_enter Try.func5, Try.ntmps5
  go_wp2_with fail
  refine (I.new w).mono ?_
  rintro e w1 ⟨h, F, rfl, hd, hb⟩
  have T1 := Lib.hid (two_new hd hb)
  clear hd hb
  go_wp2_with fail
  go_loopw [4, 5] (fun v i wr => ∃ (k : Nat) (l : List Od) (q : Option Addr) (m d : Nat), k ≤ n ∧ i = .int .i64 k ∧ v = .slice q m d ∧ Hid (Two I w wr h l q m d l)) (fun _ i _ => n - (RowKit.intOf i).toNat)
  case atStart => exact ⟨0, [], none, 0, 0, Nat.zero_le _, rfl, rfl, T1⟩
  case round =>
    clear T1
    obtain ⟨k, l, q, m, d, hk, rfl, rfl, TR⟩ := hrel
    by_cases hlt : k < n
    · have hk3 : (k : Int) < (n : Int) := by omega
      obtain ⟨x, hx⟩ : ∃ x, A[k]? = some x := ⟨_, List.getElem?_eq_getElem (by rw [HN.out]; exact hlt)⟩
      obtain ⟨b, o, rfl, hbl, g0, g1, g2⟩ := ac_at HA.out hx
      obtain ⟨⟨hk0, hk1⟩, ha, hb'⟩ := HO.out x (List.mem_of_getElem? hx)
      obtain ⟨kd, xa, xb⟩ := x
      simp only at g0 g1 g2 hk0 hk1 ha hb'
      have I1 := Lib.hid ha
      have I2 := Lib.hid hb'
      have E1 := Lib.hid (fun W (hW : Below w.heap.size w W) => (hW.cell (p := ⟨b, o + k * 3 + 1, none⟩) hbl).trans g1)
      have E2 := Lib.hid (fun W (hW : Below w.heap.size w W) => (hW.cell (p := ⟨b, o + k * 3 + 2, none⟩) hbl).trans g2)
      have e0 : wr.cell? ⟨b, o + k * 3, none⟩ = some (.int .u8 kd) := (TR.out.base.cell (p := ⟨b, o + k * 3, none⟩) hbl).trans g0
      have e1 : wr.cell? ⟨b, o + k * 3 + 1, none⟩ = some (.int .i64 xa) := E1.out _ TR.out.base
      have HML := Lib.hid (show l.length = m from TR.out.row.1)
      clear hx g0 g1 g2 ha hb' hbl
      obtain ⟨r, hr⟩ : ∃ r : Int, kd % 5 = r := ⟨_, rfl⟩
      have hr' : kd.tmod 5 = r := by rw [Int.tmod_eq_emod_of_nonneg hk0]; exact hr
      go_upto_block 2 with fail
      go_cut [3] from 13 to 180 (fun s3 wx => s3 = .pointer (some ⟨h, 0, none⟩) ∧ ∃ l', Hid (Next l l') ∧ Hid (Two I w wx h l' q m d l))
      case first =>
        by_cases h2 : r = 2
        · have r2 : (r == 2) = true := by simp [h2]
          clear h2
          have NX := Lib.hid (next_change TR.out.good xa 0 1 (by decide) (by decide))
          go_wp2_with fail
          refine (two_alloc1 TR.out xa I1.out).mono ?_
          rintro e w2 ⟨rfl, ht⟩
          have T2 := Lib.hid ht
          clear ht TR e0 e1
          generalize (changeF l xa 0 1).2 = en at *
          generalize (changeF l xa 0 1).1 = l' at *
          go_wp2_with fail
          go_meet
          exact ⟨rfl, l', NX, T2⟩
        have r2 : (r == 2) = false := by simp [h2]
        by_cases h3 : r = 3
        · have r3 : (r == 3) = true := by simp [h3]
          clear h2 h3
          have NX := Lib.hid (next_change TR.out.good xa 1 0 (by decide) (by decide))
          go_wp2_with fail
          refine (two_free1 TR.out xa I1.out).mono ?_
          rintro e w2 ⟨rfl, ht⟩
          have T2 := Lib.hid ht
          clear ht TR e0 e1
          generalize (changeF l xa 1 0).2 = en at *
          generalize (changeF l xa 1 0).1 = l' at *
          go_wp2_with fail
          go_meet
          exact ⟨rfl, l', NX, T2⟩
        have r3 : (r == 3) = false := by simp [h3]
        by_cases h4 : r = 4
        · have r4 : (r == 4) = true := by simp [h4]
          clear h2 h3 h4
          have NX := Lib.hid (next_change TR.out.good xa 1 2 (by decide) (by decide))
          go_wp2_with fail
          refine (two_ship1 TR.out xa I1.out).mono ?_
          rintro e w2 ⟨rfl, ht⟩
          have T2 := Lib.hid ht
          clear ht TR e0 e1
          generalize (changeF l xa 1 2).2 = en at *
          generalize (changeF l xa 1 2).1 = l' at *
          go_wp2_with fail
          go_meet
          exact ⟨rfl, l', NX, T2⟩
        have r4 : (r == 4) = false := by simp [h4]
        clear h2 h3 h4
        have NX := Lib.hid (next_want l xa xb)
        go_wp2_with fail
        clear e0 e1
        have DB0 : Below wr.heap.size wr wr.drew := ⟨rfl, rfl, rfl, Nat.le_refl _, fun _ _ => rfl⟩
        have TD := Lib.hid (TR.out.below DB0)
        have e1 : wr.drew.cell? ⟨b, o + k * 3 + 1, none⟩ = some (.int .i64 xa) := E1.out _ TD.out.base
        have e2 : wr.drew.cell? ⟨b, o + k * 3 + 2, none⟩ = some (.int .i64 xb) := E2.out _ TD.out.base
        clear DB0 TR
        refine region_T 11 (fun w' => w'.cell? ⟨b, o + k * 3 + 1, none⟩ = some (.int .i64 xa) ∧ w'.cell? ⟨b, o + k * 3 + 2, none⟩ = some (.int .i64 xb)) (by kernel_rfl) ⟨e1, e2⟩ (fun hS => ?_)
        clear e1 e2
        refine takeL (i := 0) (v := ?_) rfl (by kernel_rfl) (by kernel_rfl) (by kernel_rfl) (by kernel_rfl) (by kernel_rfl) (fun _ _ _ h => h) (Or.inl ⟨by rfl, ?_⟩) (by assumption) ?_
        rotate_left
        · (intro w' hSw; (try dsimp only at hSw); go_simp; with_reducible rfl)
        try simp only [Act.put, List.setIfInBounds_toArray, List.set_cons_zero, List.set_cons_succ]
        refine takeL (i := 1) (v := ?_) rfl (by kernel_rfl) (by kernel_rfl) (by kernel_rfl) (by kernel_rfl) (by kernel_rfl) (fun _ _ _ h => h) (Or.inl ⟨by rfl, ?_⟩) (by assumption) ?_
        rotate_left
        · (intro w' hSw; (try dsimp only at hSw); go_simp; with_reducible rfl)
        try simp only [Act.put, List.setIfInBounds_toArray, List.set_cons_zero, List.set_cons_succ]
        refine takeL (i := 2) (v := ?_) rfl (by kernel_rfl) (by kernel_rfl) (by kernel_rfl) (by kernel_rfl) (by kernel_rfl) (fun _ _ _ h => h) (Or.inl ⟨by rfl, ?_⟩) (by assumption) ?_
        rotate_left
        · (intro w' hSw; (try dsimp only at hSw); go_simp; with_reducible rfl)
        try simp only [Act.put, List.setIfInBounds_toArray, List.set_cons_zero, List.set_cons_succ]
        refine takeL (i := 3) (v := ?_) rfl (by kernel_rfl) (by kernel_rfl) (by kernel_rfl) (by kernel_rfl) (by kernel_rfl) (fun _ _ _ h => h) (Or.inl ⟨by rfl, ?_⟩) (by assumption) ?_
        rotate_left
        · (intro w' hSw; (try dsimp only at hSw); go_simp; with_reducible rfl)
        try simp only [Act.put, List.setIfInBounds_toArray, List.set_cons_zero, List.set_cons_succ]
        refine takeL (i := 4) (v := ?_) rfl (by kernel_rfl) (by kernel_rfl) (by kernel_rfl) (by kernel_rfl) (by kernel_rfl) (fun _ _ _ h => h) (Or.inl ⟨by rfl, ?_⟩) (by assumption) ?_
        rotate_left
        · (intro w' hSw; (try dsimp only at hSw); go_simp; with_reducible rfl)
        try simp only [Act.put, List.setIfInBounds_toArray, List.set_cons_zero, List.set_cons_succ]
        refine takeL (i := 5) (v := ?_) rfl (by kernel_rfl) (by kernel_rfl) (by kernel_rfl) (by kernel_rfl) (by kernel_rfl) (fun _ _ _ h => h) (Or.inl ⟨by rfl, ?_⟩) (by assumption) ?_
        rotate_left
        · (intro w' hSw; (try dsimp only at hSw); go_simp; with_reducible rfl)
        try simp only [Act.put, List.setIfInBounds_toArray, List.set_cons_zero, List.set_cons_succ]
        refine takeL (i := 6) (v := ?_) rfl (by kernel_rfl) (by kernel_rfl) (by kernel_rfl) (by kernel_rfl) (by kernel_rfl) (fun _ _ _ h => h) (Or.inl ⟨by rfl, ?_⟩) (by assumption) ?_
        rotate_left
        · (intro w' hSw; (try dsimp only at hSw); go_simp; with_reducible rfl)
        try simp only [Act.put, List.setIfInBounds_toArray, List.set_cons_zero, List.set_cons_succ]
        refine takeL (i := 7) (v := ?_) rfl (by kernel_rfl) (by kernel_rfl) (by kernel_rfl) (by kernel_rfl) (by kernel_rfl) (fun _ _ _ h => h) (Or.inl ⟨by rfl, ?_⟩) (by assumption) ?_
        rotate_left
        · (intro w' hSw; (try dsimp only at hSw); go_simp; with_reducible rfl)
        try simp only [Act.put, List.setIfInBounds_toArray, List.set_cons_zero, List.set_cons_succ]
        refine takeL (i := 8) (v := ?_) rfl (by kernel_rfl) (by kernel_rfl) (by kernel_rfl) (by kernel_rfl) (by kernel_rfl) (fun _ _ _ h => h) (Or.inl ⟨by rfl, ?_⟩) (by assumption) ?_
        rotate_left
        · (intro w' hSw; (try dsimp only at hSw); go_simp; with_reducible rfl)
        try simp only [Act.put, List.setIfInBounds_toArray, List.set_cons_zero, List.set_cons_succ]
        refine takeL (i := 9) (v := ?_) rfl (by kernel_rfl) (by kernel_rfl) (by kernel_rfl) (by kernel_rfl) (by kernel_rfl) (fun _ _ _ h => h) (Or.inl ⟨by rfl, ?_⟩) (by assumption) ?_
        rotate_left
        · (intro w' hSw; (try dsimp only at hSw); go_simp; with_reducible rfl)
        try simp only [Act.put, List.setIfInBounds_toArray, List.set_cons_zero, List.set_cons_succ]
        refine takeL (i := 10) (v := ?_) rfl (by kernel_rfl) (by kernel_rfl) (by kernel_rfl) (by kernel_rfl) (by kernel_rfl) (fun _ _ _ h => h) (Or.inl ⟨by rfl, ?_⟩) (by assumption) ?_
        rotate_left
        · (intro w' hSw; (try dsimp only at hSw); go_simp; with_reducible rfl)
        try simp only [Act.put, List.setIfInBounds_toArray, List.set_cons_zero, List.set_cons_succ]
        refine oneL (i := 11) (by kernel_rfl) rfl (fun K hK => ?_)
        go_simp
        refine (two_want1 TD.out xa xb I1.out I2.out).mono ?_
        rintro e w2 ⟨rfl, ht⟩
        have T2 := Lib.hid ht
        clear ht TD
        refine hK.out _ _ (fun h => absurd h (by decide)) ?_
        clear hK K hS
        try simp only [Act.put, List.setIfInBounds_toArray, List.set_cons_zero, List.set_cons_succ]
        refine laterT 12 _ _ _ _ (by kernel_rfl) ?_
        refine doneO (by kernel_rfl) ?_ _
        generalize (wantF l xa xb).2.2 = en at *
        generalize (wantF l xa xb).2.1 = nn at *
        generalize (wantF l xa xb).1 = l' at *
        go_wp2_with fail
        go_meet
        exact ⟨rfl, l', NX, T2⟩
      case rest =>
        obtain ⟨rfl, l', NX, T2⟩ := hcut
        clear TR e0 e1
        go_wp2_with fail
        refine (two_orders2 T2.out).mono ?_
        rintro e w3 ⟨p3, n3, c3, rfl, ht, ht3⟩
        have T3 := Lib.hid ht
        have TN := Lib.hid ht3
        have hn3l := ht3.row.1
        have hlow := NX.out.low
        have hup := NX.out.up
        have h64 := ht3.le
        rw [HML.out] at hlow hup
        rw [hn3l] at hlow hup
        have H3L := Lib.hid hn3l
        clear ht ht3 hn3l T2
        have v0 : (m : Int) ≤ (n3 : Int) := by omega
        have v1 : (n3 : Int) ≤ (m : Int) + 1 := by omega
        have v2 : (n3 : Int) ≤ 64 := by omega
        have w0' : decide ((n3 : Int) < (m : Int)) = false := by simp; omega
        have w1' : decide (n3 < m) = false := by simp; omega
        have w2' : decide ((n3 : Int) > (m : Int) + 1) = false := by simp; omega
        have w3' : decide ((n3 : Int) > 64) = false := by simp; omega
        go_wp2_with fail
        clear w0' w1' w2' w3'
        go_loopw [7] (fun i wi => ∃ j : Nat, j ≤ n3 ∧ i = .int .i64 j ∧ Hid (Below w3.heap.size w3 wi)) (fun i _ => n3 - (RowKit.intOf i).toNat)
        case atStart => exact ⟨0, Nat.zero_le _, rfl, Lib.hid (Below.refl _ _)⟩
        case round =>
          obtain ⟨j, hj, rfl, BI⟩ := hrel
          by_cases hjl : j < n3
          · have hj3 : (j : Int) < (n3 : Int) := by omega
            obtain ⟨y, hy⟩ : ∃ y, l'[j]? = some y := ⟨_, List.getElem?_eq_getElem (by rw [H3L.out]; exact hjl)⟩
            obtain ⟨bi, oi, rfl, f0', f1', f2', f3'⟩ := od_at (TN.out.row.keep ocells_len BI.out) hy
            have hid := TN.out.good.id hy
            obtain ⟨hs0, hs2⟩ := TN.out.good.state hy
            have HY := Lib.hid hy
            by_cases hjm : j < m
            · have hjm3 : (j : Int) < (m : Int) := by omega
              have tge : decide ((j : Int) ≥ (m : Int)) = false := by simp; omega
              have tge' : decide (m ≤ j) = false := by simp; omega
              obtain ⟨x, hx⟩ : ∃ x, l[j]? = some x := ⟨_, List.getElem?_eq_getElem (by rw [HML.out]; exact hjm)⟩
              obtain ⟨bx, ox, rfl, g0', g1', g2', g3'⟩ := od_at (T3.out.row.keep ocells_len BI.out) hx
              obtain ⟨y2, hy2, q1, q2, q3, q4⟩ := NX.out.was j x hx
              rw [hy] at hy2
              obtain rfl : y = y2 := Option.some.inj hy2
              obtain ⟨ya, yb, yc, yd⟩ := y
              obtain ⟨xk, xp, xu, xs⟩ := x
              simp only at q1 q2 q3 q4 hid hs0 hs2 f0' f1' f2' f3' g0' g1' g2' g3'
              subst q1 q2
              have u0 : (ya != (j : Int) + 1) = false := by simp [hid]
              have u1 : decide (yd < 0) = false := by simp; omega
              have u2 : decide (2 < yd) = false := by simp; omega
              have u3 : (yb != yb) = false := by simp
              have u4 : (yc != yc) = false := by simp
              clear hx hy hy2 hid HY hs0 hs2 g0'
              go_upto_region 27 with fail
              go_cut [179] from 84 to 179 (fun s179 wx => s179 = .bool false ∧ Hid (Below w3.heap.size w3 wx))
              case rest =>
                obtain ⟨rfl, BJ⟩ := hcut
                clear q3 q4 BI f0' f1' f2' f3' g1' g2' g3'
                go_wp2
                go_roundw
                case rel => exact ⟨j + 1, by omega, by go_num, BJ⟩
                case measure => simp [RowKit.intOf]; omega
              clear u0 u1 u2
              by_cases hw : xs = 2
              · have hi := q3 hw
                have a0 : (xs == 2) = true := by simp [hw]
                have a1 : (yd != 2) = false := by simp [hi]
                have a2 : (yd == 2) = true := by simp [hi]
                have a3 : (xs == 0) = false := by simp [hw]
                clear q3 q4 hw hi
                go_quiet (fail)
                go_wp2_with fail
                go_meet
                exact ⟨rfl, Lib.hid ⟨BI.out.os, BI.out.tape, BI.out.output, BI.out.size, BI.out.block⟩⟩
              · have a0 : (xs == 2) = false := by simp [hw]
                by_cases hi : yd = 2
                · have hz := q4 hi
                  have a2 : (yd == 2) = true := by simp [hi]
                  have a3 : (xs == 0) = false := by simp [hz]
                  clear q3 q4 hw hi hz
                  go_quiet (fail)
                  go_wp2_with fail
                  go_meet
                  exact ⟨rfl, Lib.hid ⟨BI.out.os, BI.out.tape, BI.out.output, BI.out.size, BI.out.block⟩⟩
                · have a2 : (yd == 2) = false := by simp [hi]
                  clear q3 q4 hw hi
                  go_quiet (fail)
                  go_wp2_with fail
                  go_meet
                  exact ⟨rfl, Lib.hid ⟨BI.out.os, BI.out.tape, BI.out.output, BI.out.size, BI.out.block⟩⟩
            · obtain rfl : j = m := by omega
              have hst := NX.out.new y (by rw [HML.out]; exact hy)
              have tge : decide ((j : Int) ≥ (j : Int)) = true := by simp
              have tge' : decide (j ≤ j) = true := by simp
              obtain ⟨ya, yb, yc, yd⟩ := y
              simp only at hst hid hs0 hs2 f0' f1' f2' f3'
              have u0 : (ya != (j : Int) + 1) = false := by simp [hid]
              have u1 : decide (yd < 0) = false := by simp; omega
              have u2 : decide (2 < yd) = false := by simp; omega
              have u3 : (yd != 0) = false := by simp [hst]
              clear hy hid HY hs0 hs2 hst
              go_wp2
              go_roundw
              case rel => exact ⟨j + 1, by omega, by go_num, BI⟩
              case measure => simp [RowKit.intOf]; omega
          · obtain rfl : j = n3 := by omega
            have TZ := Lib.hid (TN.out.below BI.out)
            clear TN T3
            go_wp2
            go_roundw
            case rel => exact ⟨k + 1, l', p3, j, c3, by omega, by go_num, rfl, TZ⟩
            case measure => simp [RowKit.intOf]; omega
    · obtain rfl : k = n := by omega
      have B0 := Lib.hid TR.out.base
      clear TR
      go_wp2_with fail
      refine (AL.out _).mono ?_
      rintro e w2 ⟨rfl, hb⟩
      have B2 := Lib.hid (B0.out.trans (hb.mono B0.out.size))
      clear hb B0 AL
      go_wp2
      go_ret
      exact ⟨rfl, B2.out⟩
end Or
end Go.Proofs.Ytpkniomjohjbiaa
