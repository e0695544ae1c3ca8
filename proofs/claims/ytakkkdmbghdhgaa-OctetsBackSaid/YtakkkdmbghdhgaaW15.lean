/- The walk of there and back (OctetsBack). -/
import Derived.Test.YtakkkdmbghdhgaaW14
import Derived.Deep.RegionHeld3
namespace Go.Proofs.Ytakkkdmbghdhgaa
open Go.RowKit

/-- A writer at a block of the call's own. -/
def Wr1 (W wr : World) (g : Nat) (s : Option (List Nat)) : Prop := ∃ v, PW wr W.heap.size g v s ∧ Below W.heap.size W wr
theorem wr1_step {W wr w1 : World} {g : Nat} {v : Value} {s s1 : Option (List Nat)} (h : PW wr W.heap.size g v s) (hb : Below W.heap.size W wr) (hw : Wrote wr W.heap.size g v s1 w1) : Wr1 W w1 g s1 := by
  obtain ⟨v', hp, hb'⟩ := wrote_below h hb hw
  exact ⟨v', hp, hb'⟩

set_option maxRecDepth 100000 in
set_option maxHeartbeats 8000000 in
theorem back_fit (p : Option Addr) (n c : Nat) (l : List Oc.Th) (W : World) (h : Ths W p n l) (hf : Oc.fitsB l = true) :
    Calls Try.prog 5 #[.slice p n c] W fun e w' => e = .returned (.bool true) ∧ Below W.heap.size W w' := by
  have hfo := Oc.fits_of hf
  have hlen := h.1
  have hn : n ≤ 100 := by omega
  have hn' : (n : Int) ≤ 100 := by omega
  have F := fits_any p n c l W (by omega) h
  rw [hf] at F
  have F' := Lib.hid F
  have H := Lib.hid h
  have HL := Lib.hid hlen
  have HT := Lib.hid hfo.2
  have S0 : Hid (Wr1 W (W.alloc (.cells #[.slice none 0 0, .int .i64 0] 55)) W.heap.size (some [])) := Lib.hid ⟨_, new_pw W W.heap.size (Nat.le_refl _), alloc_below W _⟩
  have LEN : Hid (∀ k, k ≤ n → ∀ m, Oc.wall (some []) (l.take k) = m → short m 2000) := by
    refine Lib.hid fun k hk m hm b hb => ?_
    have h1 := Oc.wall_len l k (by omega) b (by rw [hm]; exact hb)
    have h2 := Oc.tot_take l k
    omega
  clear hf hfo hlen F h hn
  go_enter Try.func5, Try.ntmps5
  go_wp2_with fail
  refine F'.out.mono ?_
  rintro e w' ⟨rfl, rfl⟩
  go_wp2_with fail
  refine (new_any W).mono ?_
  rintro e w' ⟨rfl, rfl⟩
  go_wp2_with fail
  go_loopw [5] (fun i wr => ∃ k : Nat, k ≤ n ∧ i = .int .i64 (k : Int) ∧ Wr1 W wr W.heap.size (Oc.wall (some []) (l.take k))) (fun i _ => n - (intOf i).toNat)
  case atStart => exact ⟨0, Nat.zero_le _, rfl, S0.out⟩
  case round =>
    obtain ⟨k, hk, rfl, v, hp, hb⟩ := hrel
    clear F' S0
    by_cases hlt : k < n
    · obtain ⟨b, o, rfl, hbl, hth⟩ := thg_at H.out hb hlt
      have hlt' : (k : Int) < (n : Int) := by omega
      have hk0 : (0 : Int) ≤ (k : Int) := by omega
      have NX := Lib.hid (Oc.wall_succ (some []) (l := l) (k := k) (by rw [HL.out]; exact hlt))
      have TW : Hid (Thg W b (o + k * 4) (l.getD k Oc.t0)) := by
        obtain ⟨b', o', e, _, ht'⟩ := thg_at H.out (Below.refl _ W) hlt
        injection e with e
        injection e with e1 e2
        subst e1 e2
        exact Lib.hid ht'
      have L9 := Lib.hid (short_mono (LEN.out k hk _ rfl) (show 2000 ≤ 900000 by decide))
      have L10 := Lib.hid (short_mono (LEN.out k hk _ rfl) (show 2000 ≤ 1000000 by decide))
      generalize hs1 : Oc.wall (some []) (l.take (k + 1)) = s1 at *
      have HS1 := Lib.hid hs1
      clear hs1
      generalize Oc.wall (some []) (l.take k) = s at *
      generalize htr : l.getD k Oc.t0 = t at *
      have HTR0 := Lib.hid htr
      have HBL := Lib.hid hbl
      clear htr
      obtain ⟨c0, c1, c2, ⟨q, d, c3, hqd, hA⟩, k0, k1, k2⟩ := hth
      obtain ⟨kd, tn, tz, tr⟩ := t
      have HTR : Hid ((l.getD k Oc.t0).run = tr) := Lib.hid (by rw [HTR0.out])
      clear HTR0
      simp only at c0 c1 c2 c3 hqd hA k0 k1 k2
      have k0' : (kd : Int) < 256 := by omega
      have HP := Lib.hid hp
      have HB := Lib.hid hb
      have K1 := Lib.hid k1
      clear hp hb k1 k0 hbl hA
      by_cases z0 : kd % 4 = 0
      · have e0 : ((kd : Int) % 4 == 0) = true := by simp; omega
        have NX2 : Hid (s1 = Oc.wnum s tn tz) := Lib.hid (by rw [NX.out]; simp [Oc.wth, z0])
        clear NX
        go_wp2_with fail
        go_region_held3 (fun w' => w'.cell? ⟨b, o + k * 4 + 1, none⟩ = some (.int .u64 (tn : Int)) ∧ w'.cell? ⟨b, o + k * 4 + 2, none⟩ = some (.int .i64 tz))
          (first | go_keep | exact ⟨d1, d2⟩)
          (((with_reducible refine (num_any _ _ _ _ _ _ _ HP.out.drew L10.out).mono ?_); rintro e w1 ⟨rfl, hw⟩; obtain ⟨v', hp', hb'⟩ := wr1_step HP.out.drew HB.out.drew hw; obtain ⟨_, d1, d2, _⟩ := TW.out.keep hb'))
        have HW2 : Hid (Wr1 W w1 W.heap.size s1) := Lib.hid (by rw [NX2.out]; exact ⟨v', hp', hb'⟩)
        clear hp' hb' hw d1 d2
        go_wp2
        go_roundw
        case rel => exact ⟨k + 1, by omega, by go_num, by rw [HS1.out]; exact HW2.out⟩
        case measure => simp [intOf]; omega
      · have e0 : ((kd : Int) % 4 == 0) = false := by simp; omega
        by_cases z1 : kd % 4 = 1
        · have e1 : ((kd : Int) % 4 == 1) = true := by simp; omega
          have NX2 : Hid (s1 = Oc.wnum s tn 8) := Lib.hid (by rw [NX.out]; simp [Oc.wth, z1])
          have IW := Lib.hid (u64_of_wrap tn K1.out)
          clear NX
          go_wp2_with fail
          refine (int_any _ _ _ _ _ tn _ HP.out IW.out L10.out).mono ?_
          rintro e w1 ⟨rfl, hw⟩
          have hW := wr1_step HP.out HB.out hw
          rw [← NX2.out] at hW
          have HW2 := Lib.hid hW
          clear hW hw c0 c1 c2 c3 HP HB
          go_wp2
          go_roundw
          case rel => exact ⟨k + 1, by omega, by go_num, by rw [HS1.out]; exact HW2.out⟩
          case measure => simp [intOf]; omega
        · have e1 : ((kd : Int) % 4 == 1) = false := by simp; omega
          by_cases z2 : kd % 4 = 2
          · have e2 : ((kd : Int) % 4 == 2) = true := by simp; omega
            have NX2 : Hid (s1 = Oc.wnum s (if ((tn : Int) % 2 == 1) = true then 1 else 0) 1) := Lib.hid (by
              rw [NX.out, bit_of]
              simp [Oc.wth, z2])
            clear NX
            generalize hx : ((tn : Int) % 2 == 1) = x at *
            go_wp2_with fail
            refine (bool_any _ _ _ _ x _ HP.out L10.out).mono ?_
            rintro e w1 ⟨rfl, hw⟩
            have hW := wr1_step HP.out HB.out hw
            rw [← NX2.out] at hW
            have HW2 := Lib.hid hW
            clear hW hw c0 c1 c2 c3 HP HB
            go_wp2
            go_roundw
            case rel => exact ⟨k + 1, by omega, by go_num, by rw [HS1.out]; exact HW2.out⟩
            case measure => simp [intOf]; omega
          · have e2 : ((kd : Int) % 4 == 2) = false := by simp; omega
            have NX2 : Hid (s1 = Oc.wrun s tr) := Lib.hid (by rw [NX.out]; simp [Oc.wth, z0, z1, z2])
            have R1 : Hid (tr.length ≤ 1000000) := Lib.hid (by
              have h1 := Oc.tot_succ (l := l) (k := k) (by rw [HL.out]; exact hlt)
              have h2 := Oc.tot_take l (k + 1)
              rw [HTR.out] at h1
              have := HT.out
              omega)
            obtain ⟨q', d', c3', _, hAW⟩ := TW.out.2.2.2.1
            simp only at c3' hAW
            have e4 := ((HB.out.cell (p := ⟨b, o + k * 4 + 3, none⟩) HBL.out).trans c3').symm.trans c3
            simp only [Option.some.injEq, Value.slice.injEq] at e4
            obtain ⟨rfl, _, rfl⟩ := e4
            have AW := Lib.hid hAW
            have AB := Lib.hid (hAW.keep HB.out)
            clear NX c3' hAW
            go_wp2_with fail
            refine (run_any _ _ _ _ _ _ _ tr _ HP.out L9.out R1.out AB.out (src_far HP.out AW.out)).mono ?_
            rintro e w1 ⟨rfl, hw⟩
            have hW := wr1_step HP.out HB.out hw
            rw [← NX2.out] at hW
            have HW2 := Lib.hid hW
            clear hW hw c0 c1 c2 c3 HP HB AB
            go_wp2
            go_roundw
            case rel => exact ⟨k + 1, by omega, by go_num, by rw [HS1.out]; exact HW2.out⟩
            case measure => simp [intOf]; omega
    · obtain rfl : k = n := by omega
      have LS : Hid (short (Oc.wall (some []) l) 2000) := Lib.hid (by
        have h1 := LEN.out k (Nat.le_refl _) _ rfl
        rwa [List.take_of_length_le (by rw [HL.out]; exact Nat.le_refl _)] at h1)
      rw [List.take_of_length_le (by rw [HL.out]; exact Nat.le_refl _)] at hp
      have HP := Lib.hid hp
      have HB := Lib.hid hb
      clear hp hb LEN
      generalize hs : Oc.wall (some []) l = s at *
      cases s with
      | none =>
        clear hs
        go_wp2_with fail
        refine (done_any _ _ _ _ _ HP.out (fun l e => by cases e)).mono ?_
        rintro e w1 ⟨q, d, rfl, _, _, hb⟩
        have B1 := Lib.hid (HB.out.trans (hb.mono HB.out.size))
        clear hb
        rw [show toldE none = 1 from rfl, show told none = [] from rfl]
        go_wp2_with fail
        refine (alive_any _).mono ?_
        rintro e w2 ⟨rfl, hb⟩
        have B2 := Lib.hid (B1.out.trans (hb.mono B1.out.size))
        clear hb B1
        go_wp2
        go_ret
        exact ⟨rfl, B2.out⟩
      | some bs =>
        obtain ⟨r0, hE, hr0⟩ := Oc.encs_of hs
        rw [List.nil_append] at hr0
        subst hr0
        have HE := Lib.hid hE
        have hm := LS.out bs rfl
        have HX := Lib.hid HP.out.2.2.2
        clear hs hE LS
        obtain ⟨m, hml⟩ : ∃ m, bs.length = m := ⟨_, rfl⟩
        have HM := Lib.hid hml
        rw [hml] at hm
        clear hml
        have D := done_any _ _ _ _ _ HP.out (short_of (by rw [HM.out]; omega))
        rw [show toldE (some bs) = 0 from rfl, show told (some bs) = bs from rfl, HM.out] at D
        have D' := Lib.hid D
        clear D HP
        go_wp2_with fail
        refine D'.out.mono ?_
        rintro e w1 ⟨q, d, rfl, hd, hA, hb⟩
        have A1 := Lib.hid hA
        have B1 := Lib.hid (HB.out.trans (hb.mono HB.out.size))
        clear hA hb D' HB
        have O0 := Lib.hid (made_none w1)
        have C0 := Lib.hid (alloc_below w1 (.cells #[] 5))
        have A1' := Lib.hid (A1.out.keep C0.out)
        go_wp2_with (first
          | fail
          | (at_builtin
             refine wpList_app rfl (.tmp 88) (.tmp 89) rfl w1.heap.size _ 0 [] rfl O0.out q m d bs rfl A1'.out (by omega) C0.out.size ?_
             intro v2 w2 hown2 hg2 hat2
             have HO2 := Lib.hid hown2
             have C2 := Lib.hid (C0.out.grown hg2 C0.out.size (fun k hk => (O0.out.lt k hk).1))
             clear hown2 hg2 hat2)
          | (at_builtin
             refine wpList_app rfl (.tmp 90) (.tmp 91) rfl w1.heap.size v2 (0 + m) ([] ++ bys bs) rfl (HO2.out.alloc _) (some ⟨w2.heap.size, 0, none⟩) 1 1 [7] rfl (at_one w2 7 (by decide)) (by omega) (Nat.le_trans C2.out.size (size_alloc _ _)) ?_
             intro v3 w3 hown3 hg3 hat3
             have HO3 := Lib.hid hown3
             have C3 := Lib.hid ((C2.out.alloc C2.out.size _).grown hg3 (Nat.le_trans C2.out.size (size_alloc _ _)) (fun k hk => (HO2.out.lt k hk).1))
             clear hown3 hg3 hat3
             obtain ⟨q3, d3, rfl⟩ := own_slice HO3.out))
        have X3 : Hid (At w3 q3 (m + 1) (bs ++ [7])) := by
          have ho := HO3.out
          have e : [] ++ bys bs ++ bys [7] = bys (bs ++ [7]) := by rw [bys_append]; rfl
          rw [e, Nat.zero_add] at ho
          obtain ⟨q', c', hv, _, hA⟩ := at_own (by simp [HM.out]) (Oc.mem_app HX.out (by simp)) ho
          injection hv with hv
          subst hv
          exact Lib.hid hA
        have A3 := Lib.hid (A1.out.keep C3.out)
        have B3 := Lib.hid (B1.out.trans (C3.out.mono B1.out.size))
        clear HO2 HO3 C2 C3 O0 C0 A1' A1 B1 HX
        refine (newr_any q3 (m + 1) d3 (bs ++ [7]) w3 (by omega) X3.out).mono ?_
        rintro e w4 ⟨g1, rfl, hg1, hp1, hb⟩
        have A4 := Lib.hid (A3.out.keep hb)
        have B4 := Lib.hid (B3.out.trans (hb.mono B3.out.size))
        have P4 := Lib.hid hp1
        have G1 := Lib.hid (Nat.le_trans B3.out.size hg1)
        clear hp1 hb hg1 A3 B3 X3
        go_wp2_with fail
        refine (newr_any q m d bs w4 (by omega) A4.out).mono ?_
        rintro e w5 ⟨g2, rfl, hg2, hp2, hb⟩
        have A5 := Lib.hid (A4.out.keep hb)
        have B5 := Lib.hid (B4.out.trans (hb.mono B4.out.size))
        have P5 := Lib.hid (P4.out.below hb)
        have Q5 := Lib.hid hp2
        have N12 := Lib.hid (Nat.lt_of_lt_of_le P4.out.lt hg2)
        clear hp2 hb hg2 A4 B4 P4
        go_wp2_with fail
        refine (newr_any none 0 0 [] w5 (by decide) (at_nil w5)).mono ?_
        rintro e w6 ⟨g3, rfl, hg3, hp3, hb⟩
        have A6 := Lib.hid (A5.out.keep hb)
        have B6 := Lib.hid (B5.out.trans (hb.mono B5.out.size))
        have P6 := Lib.hid (P5.out.below hb)
        have Q6 := Lib.hid (Q5.out.below hb)
        have N23 := Lib.hid (Nat.lt_of_lt_of_le Q5.out.lt hg3)
        have T6 := Lib.hid hp3
        clear hp3 hb hg3 A5 B5 P5 Q5
        by_cases hm0 : m = 0
        · have hbs : bs = [] := List.eq_nil_of_length_eq_zero (by rw [HM.out]; exact hm0)
          subst hm0
          have h0 : Oc.Encs l [] := hbs ▸ HE.out
          have hl0 := Oc.encs_nil h0
          have hn0 : k = 0 := by rw [← HL.out, hl0]; rfl
          have R : Hid (R3 W w6 g1 g2 g3 (0, [7]) (0, []) (0, [])) := Lib.hid (by
            have h1 := P6.out
            have h2 := Q6.out
            have n1 := N12.out
            have n2 := N23.out
            have n3 := G1.out
            rw [hbs] at h1 h2
            exact ⟨h1, h2, T6.out, ⟨by omega, by omega, by omega⟩, ⟨n3, by omega, by omega⟩, B6.out⟩)
          clear P6 Q6 T6 A6 B6 N12 N23 G1 hbs h0 hl0 HE HM
          subst hn0
          go_wp2_with fail
          go_loopw [11] (fun i wr => i = .int .i64 0 ∧ wr = w6) (fun _ _ => 0)
          case atStart => exact ⟨rfl, rfl⟩
          case round =>
            obtain ⟨rfl, rfl⟩ := hrel
            go_wp2_with fail
            refine (alive_any _).mono ?_
            rintro e w8 ⟨rfl, hb⟩
            have RE := Lib.hid (R.out.below hb)
            clear hb R
            go_wp2_with fail
            refine (left_any g1 _ _ RE.out.p1).mono ?_
            rintro e w' ⟨rfl, rfl⟩
            go_wp2_with fail
            refine (end_any g1 _ _ RE.out.p1).mono ?_
            rintro e w' ⟨rfl, rfl⟩
            go_wp2_with fail
            refine (left_any g2 _ _ RE.out.p2).mono ?_
            rintro e w' ⟨rfl, rfl⟩
            go_wp2_with fail
            refine (end_any g2 _ _ RE.out.p2).mono ?_
            rintro e w' ⟨rfl, rfl⟩
            go_wp2
            go_ret
            exact ⟨rfl, RE.out.bel⟩
        · have hm1 : (1 : Int) ≤ (m : Int) := by omega
          have hm2 : (0 : Int) < (m : Int) := by omega
          have hmd : (m : Int) ≤ (d : Int) := by omega
          have x1 : ((m : Int) - 1).toNat = m - 1 := by omega
          have x2 : (m : Int) - 1 ≤ (d : Int) := by omega
          have x3 : (0 : Int) ≤ (m : Int) - 1 := by omega
          go_wp2_with fail
          have hbne : bs ≠ [] := fun e => hm0 (by rw [← HM.out, e]; rfl)
          have A7 : Hid (At w6 q (m - 1) bs.dropLast) := Lib.hid (by
            have := A6.out.take (m - 1) (by omega)
            rwa [List.dropLast_eq_take, HM.out])
          have HBN := Lib.hid hbne
          have LB : Hid (bs.length ≤ 2000) := Lib.hid (by rw [HM.out]; exact hm)
          clear hbne A6 T6
          refine (newr_any q (m - 1) d bs.dropLast w6 (by omega) A7.out).mono ?_
          rintro e w7 ⟨g4, rfl, hg4, hp4, hb⟩
          have R7 : Hid (R3 W w7 g1 g2 g4 (0, bs ++ [7]) (0, bs) (Oc.sst bs bs)) := Lib.hid (by
            have e : Oc.sst bs bs = (0, bs.dropLast) := by rw [Oc.sst, if_neg HBN.out, if_neg HBN.out]
            rw [e]
            have n1 := N12.out
            have n2 := Q6.out.lt
            have n3 := G1.out
            exact ⟨P6.out.below hb, Q6.out.below hb, hp4, ⟨by omega, by omega, by omega⟩, ⟨n3, by omega, by omega⟩, B6.out.trans (hb.mono B6.out.size)⟩)
          clear hp4 hb hg4 P6 Q6 N12 N23 G1 A7 B6
          have E0 : Hid (Oc.Encs (l.drop 0) bs) := Lib.hid HE.out
          go_wp2_with fail
          go_loopw [11] (fun i wr => ∃ (j : Nat) (R : List Nat), j ≤ k ∧ i = .int .i64 (j : Int) ∧ Oc.Encs (l.drop j) R ∧ R.length ≤ 2000 ∧ R3 W wr g1 g2 g4 (0, R ++ [7]) (0, R) (Oc.sst bs R)) (fun i _ => k - (intOf i).toNat)
          case atStart => exact ⟨0, bs, Nat.zero_le _, rfl, E0.out, LB.out, R7.out⟩
          case round =>
            obtain ⟨i, R0, hi, rfl, hE0, hL0, hR⟩ := hrel
            have R := Lib.hid hR
            clear E0 LB R7 HE hR
            by_cases hlt : i < k
            · obtain ⟨e, r, he, hE1, rfl⟩ := Oc.encs_drop (by rw [HL.out]; exact hlt) hE0
              have ER := Lib.hid hE1
              have LR : Hid (r.length ≤ 2000) := Lib.hid (by rw [List.length_append] at hL0; omega)
              have LE := Lib.hid hL0
              clear hE0 hE1 hL0
              obtain ⟨b, o, rfl, hbl, hth⟩ := thg_at H.out R.out.bel hlt
              have hlt' : (i : Int) < (k : Int) := by omega
              have hi0 : (0 : Int) ≤ (i : Int) := by omega
              have TW : Hid (Thg W b (o + i * 4) (l.getD i Oc.t0)) := by
                obtain ⟨b', o', e, _, ht'⟩ := thg_at H.out (Below.refl _ W) hlt
                injection e with e
                injection e with e1 e2
                subst e1 e2
                exact Lib.hid ht'
              generalize l.getD i Oc.t0 = t at *
              obtain ⟨c0, c1, c2, ⟨q5, d5, c3, hqd5, hA5⟩, k0, k1, k2⟩ := hth
              have HBL := Lib.hid hbl
              obtain ⟨kd, tn, tz, tr⟩ := t
              simp only at c0 c1 c2 c3 hqd5 hA5 k0 k1 k2
              have k0' : (kd : Int) < 256 := by omega
              clear k1 k0 hbl
              by_cases z0 : kd % 4 = 0
              · have e0 : ((kd : Int) % 4 == 0) = true := by simp; omega
                have he' : Oc.wnum (some []) tn tz = some e := by
                  rw [← he]
                  simp [Oc.enc, Oc.wth, z0]
                obtain ⟨kk, rfl, h1, h8, hnn, rfl⟩ := Oc.enc_num he'
                have K1 := Lib.hid (fun g (X : List Nat) w' (h : PR w' g (0, Oc.be kk tn ++ X)) => get_back g tn kk X w' h1 h8 hnn h)
                have K3 := Lib.hid (fun g w' (h : PR w' g (Oc.sst bs (Oc.be kk tn ++ r))) => get_cut g tn kk bs r w' h1 h8 hnn HBN.out h)
                have RA : Hid (R3 W wr g1 g2 g4 (0, Oc.be kk tn ++ (r ++ [7])) (0, Oc.be kk tn ++ r) (Oc.sst bs (Oc.be kk tn ++ r))) := Lib.hid (by
                  have := R.out
                  rwa [List.append_assoc] at this)
                clear R he he' h1 h8 hnn c3 hA5 hqd5
                go_wp2_with fail
                go_region_held3 (fun w' => w'.cell? ⟨b, o + i * 4 + 1, none⟩ = some (.int .u64 (tn : Int)) ∧ w'.cell? ⟨b, o + i * 4 + 2, none⟩ = some (.int .i64 (kk : Int)))
                  (first | go_keep | exact ⟨d1, d2⟩ | exact ⟨f1, f2⟩)
                  (first
                    | (go_at_call 20; ((with_reducible refine (K1.out g1 _ _ RA.out.drew.p1).mono ?_); rintro E w8 ⟨rfl, ht⟩; have R1 := RA.out.drew.one ht; obtain ⟨_, d1, d2, _⟩ := TW.out.keep R1.bel))
                    | (go_at_call 20; ((with_reducible refine (K1.out g2 _ _ R1.p2).mono ?_); rintro E w9 ⟨rfl, ht2⟩; have R2 := R1.two ht2; obtain ⟨_, f1, f2, _⟩ := TW.out.keep R2.bel)))
                have RB := Lib.hid R2
                clear R1 R2 ht ht2 d1 d2 f1 RA c0 c1 c2
                go_wp2_with fail
                refine (K3.out g4 _ RB.out.p3).mono ?_
                rintro E w10 ⟨u10, rfl, ht⟩
                have RN := Lib.hid (RB.out.three ht)
                clear ht RB f2
                go_wp2
                go_roundw
                case rel => exact ⟨i + 1, r, by omega, by go_num, ER.out, LR.out, RN.out⟩
                case measure => simp [intOf]; omega
              · have e0 : ((kd : Int) % 4 == 0) = false := by simp; omega
                by_cases z1 : kd % 4 = 1
                · have e1 : ((kd : Int) % 4 == 1) = true := by simp; omega
                  have he' : Oc.wnum (some []) tn 8 = some e := by
                    rw [← he]
                    simp [Oc.enc, Oc.wth, z1]
                  obtain ⟨kk, hkk, h1, h8, hnn, rfl⟩ := Oc.enc_num he'
                  obtain rfl : kk = 8 := by omega
                  obtain ⟨y, hy⟩ : ∃ y, wrap64 (tn : Int) = y := ⟨_, rfl⟩
                  have hy2 : IntKind.i64.wrap (tn : Int) = y := by
                    rw [← hy, IntKind.wrap_i64]
                    unfold wrap64
                    omega
                  have K1 := Lib.hid (fun g (X : List Nat) w' (h : PR w' g (0, Oc.be 8 tn ++ X)) => int_back g tn X w' hnn h)
                  rw [hy] at K1
                  have K3 := Lib.hid (fun g w' (h : PR w' g (Oc.sst bs (Oc.be 8 tn ++ r))) => int_cut g tn bs r w' hnn HBN.out h)
                  have RA : Hid (R3 W wr g1 g2 g4 (0, Oc.be 8 tn ++ (r ++ [7])) (0, Oc.be 8 tn ++ r) (Oc.sst bs (Oc.be 8 tn ++ r))) := Lib.hid (by
                    have := R.out
                    rwa [List.append_assoc] at this)
                  clear R he he' h1 h8 hnn hkk c3 hA5 hqd5 c2
                  go_wp2_with fail
                  go_region_held3 (fun w' => w'.cell? ⟨b, o + i * 4 + 1, none⟩ = some (.int .u64 (tn : Int)))
                    (first | go_keep | exact d1 | exact f1)
                    (first
                      | (go_at_call 22; ((with_reducible refine (K1.out g1 _ _ RA.out.drew.p1).mono ?_); rintro E w8 ⟨rfl, ht⟩; have R1 := RA.out.drew.one ht; obtain ⟨_, d1, _⟩ := TW.out.keep R1.bel))
                      | (go_at_call 22; ((with_reducible refine (K1.out g2 _ _ R1.p2).mono ?_); rintro E w9 ⟨rfl, ht2⟩; have R2 := R1.two ht2; obtain ⟨_, f1, _⟩ := TW.out.keep R2.bel)))
                  have RB := Lib.hid R2
                  clear R1 R2 ht ht2 d1 f1 RA c0 c1
                  go_wp2_with fail
                  refine (K3.out g4 _ RB.out.p3).mono ?_
                  rintro E w10 ⟨u10, rfl, ht⟩
                  have RN := Lib.hid (RB.out.three ht)
                  clear ht RB
                  go_wp2
                  go_roundw
                  case rel => exact ⟨i + 1, r, by omega, by go_num, ER.out, LR.out, RN.out⟩
                  case measure => simp [intOf]; omega
                · have e1 : ((kd : Int) % 4 == 1) = false := by simp; omega
                  by_cases z2 : kd % 4 = 2
                  · have e2 : ((kd : Int) % 4 == 2) = true := by simp; omega
                    have he' : Oc.wnum (some []) (tn % 2) 1 = some e := by
                      rw [← he]
                      simp [Oc.enc, Oc.wth, z2]
                    obtain ⟨kk, hkk, h1, h8, hnn, rfl⟩ := Oc.enc_num he'
                    obtain rfl : kk = 1 := by omega
                    have K1 := Lib.hid (fun g (X : List Nat) w' (h : PR w' g (0, Oc.be 1 (tn % 2) ++ X)) => bool_back g tn X w' h)
                    have K3 := Lib.hid (fun g w' (h : PR w' g (Oc.sst bs (Oc.be 1 (tn % 2) ++ r))) => bool_cut g tn bs r w' HBN.out h)
                    have RA : Hid (R3 W wr g1 g2 g4 (0, Oc.be 1 (tn % 2) ++ (r ++ [7])) (0, Oc.be 1 (tn % 2) ++ r) (Oc.sst bs (Oc.be 1 (tn % 2) ++ r))) := Lib.hid (by
                      have := R.out
                      rwa [List.append_assoc] at this)
                    have hx : ((tn : Int) % 2 == 1) = decide (tn % 2 = 1) := by
                      by_cases h2 : tn % 2 = 1
                      · simp [h2]; omega
                      · simp [h2]; omega
                    have hxt : (Int.tmod (tn : Int) 2 == 1) = decide (tn % 2 = 1) := by
                      rw [Int.tmod_eq_emod_of_nonneg (by omega)]
                      exact hx
                    clear R he he' h1 h8 hnn hkk c3 hA5 hqd5 c2
                    generalize decide (tn % 2 = 1) = x at *
                    go_wp2_with fail
                    go_region_held3 (fun w' => w'.cell? ⟨b, o + i * 4 + 1, none⟩ = some (.int .u64 (tn : Int)))
                      (first | go_keep | exact d1 | exact f1)
                      (first
                        | (go_at_call 24; ((with_reducible refine (K1.out g1 _ _ RA.out.drew.p1).mono ?_); rintro E w8 ⟨rfl, ht⟩; have R1 := RA.out.drew.one ht; obtain ⟨_, d1, _⟩ := TW.out.keep R1.bel))
                        | (go_at_call 24; ((with_reducible refine (K1.out g2 _ _ R1.p2).mono ?_); rintro E w9 ⟨rfl, ht2⟩; have R2 := R1.two ht2; obtain ⟨_, f1, _⟩ := TW.out.keep R2.bel)))
                    have RB := Lib.hid R2
                    clear R1 R2 ht ht2 d1 f1 RA c0 c1
                    go_wp2_with fail
                    refine (K3.out g4 _ RB.out.p3).mono ?_
                    rintro E w10 ⟨u10, rfl, ht⟩
                    have RN := Lib.hid (RB.out.three ht)
                    clear ht RB
                    go_wp2
                    go_roundw
                    case rel => exact ⟨i + 1, r, by omega, by go_num, ER.out, LR.out, RN.out⟩
                    case measure => simp [intOf]; omega
                  · have e2 : ((kd : Int) % 4 == 2) = false := by simp; omega
                    have he' : Oc.wrun (some []) tr = some e := by
                      rw [← he]
                      simp [Oc.enc, Oc.wth, z0, z1, z2]
                    obtain ⟨hrl, rfl⟩ := Oc.enc_run he'
                    have L1 : Hid (((Oc.be 4 tr.length ++ tr) ++ (r ++ [7])).length ≤ 1000000) := Lib.hid (by
                      have := LE.out
                      simp only [List.length_append, List.length_singleton] at this ⊢
                      omega)
                    have L2 : Hid (((Oc.be 4 tr.length ++ tr) ++ r).length ≤ 1000000) := Lib.hid (Nat.le_trans LE.out (by decide))
                    have LT : Hid (tr.length ≤ 1000000) := Lib.hid (by
                      have := L2.out
                      simp only [List.length_append] at this
                      omega)
                    have RA : Hid (R3 W wr g1 g2 g4 (0, (Oc.be 4 tr.length ++ tr) ++ (r ++ [7])) (0, (Oc.be 4 tr.length ++ tr) ++ r) (Oc.sst bs ((Oc.be 4 tr.length ++ tr) ++ r))) := Lib.hid (by
                      have := R.out
                      rwa [List.append_assoc (Oc.be 4 tr.length ++ tr)] at this)
                    have K1 := Lib.hid (fun w' (h : PR w' g1 (0, (Oc.be 4 tr.length ++ tr) ++ (r ++ [7]))) => run_back g1 tr _ w' hrl h L1.out)
                    have K2 := Lib.hid (fun w' (h : PR w' g2 (0, (Oc.be 4 tr.length ++ tr) ++ r)) => run_back g2 tr _ w' hrl h L2.out)
                    have K3 := Lib.hid (fun w' (h : PR w' g4 (Oc.sst bs ((Oc.be 4 tr.length ++ tr) ++ r))) => run_cut g4 bs tr r w' hrl HBN.out h (Nat.le_trans (sst_len _ _) L2.out))
                    have C3 : Hid (∀ w', Below W.heap.size W w' → w'.cell? ⟨b, o + i * 4 + 3, none⟩ = some (.slice q5 tr.length d5) ∧ At w' q5 tr.length tr) := Lib.hid (by
                      obtain ⟨q', d', c3', _, hAW⟩ := TW.out.2.2.2.1
                      simp only at c3' hAW
                      have e4 := ((R.out.bel.cell (p := ⟨b, o + i * 4 + 3, none⟩) HBL.out).trans c3').symm.trans c3
                      simp only [Option.some.injEq, Value.slice.injEq] at e4
                      obtain ⟨rfl, _, rfl⟩ := e4
                      exact fun w' hw => ⟨(hw.cell (p := ⟨b, o + i * 4 + 3, none⟩) HBL.out).trans c3', hAW.keep hw⟩)
                    clear R he he' hrl c3 hA5 hqd5 c2 c1
                    go_wp2_with fail
                    refine (K1.out _ RA.out.p1).mono ?_
                    rintro E w8 ⟨v8, rfl, ho, ht⟩
                    obtain ⟨q8, d8, rfl, _, hA8⟩ := ho
                    have R1 := Lib.hid (RA.out.one ht)
                    have A8 := Lib.hid hA8
                    clear ht RA hA8 c0
                    go_wp2_with fail
                    refine (K2.out _ R1.out.p2).mono ?_
                    rintro E w9 ⟨v9, rfl, ho, ht⟩
                    obtain ⟨q9, d9, rfl, _, hA9⟩ := ho
                    have A8' := Lib.hid (A8.out.plain ht.2 R1.out.p2.plain)
                    have R2 := Lib.hid (R1.out.two ht)
                    have A9 := Lib.hid hA9
                    clear ht R1 hA9 A8
                    go_wp2_with fail
                    refine (K3.out _ R2.out.p3).mono ?_
                    rintro E w10 ⟨q10, n10, d10, rfl, ht⟩
                    have A8b := Lib.hid (A8'.out.plain ht.2 R2.out.p3.plain)
                    have A9b := Lib.hid (A9.out.plain ht.2 R2.out.p3.plain)
                    have R4 := Lib.hid (R2.out.three ht)
                    clear ht R2 A8' A9
                    obtain ⟨f3, fA⟩ := C3.out w10 R4.out.bel
                    have FA := Lib.hid fA
                    clear fA
                    go_wp2_with fail
                    refine (same_one q8 q5 _ d8 d5 tr w10 LT.out A8b.out FA.out).mono ?_
                    rintro E w11 ⟨rfl, hb⟩
                    have R5 := Lib.hid (R4.out.below hb)
                    have A9c := Lib.hid (A9b.out.keep hb)
                    obtain ⟨g3', fA⟩ := C3.out w11 R5.out.bel
                    have FB := Lib.hid fA
                    clear fA hb R4 A8b A9b FA f3
                    go_wp2_with fail
                    refine (same_one q9 q5 _ d9 d5 tr w11 LT.out A9c.out FB.out).mono ?_
                    rintro E w12 ⟨rfl, hb⟩
                    have RN := Lib.hid (R5.out.below hb)
                    clear hb R5 A9c FB g3'
                    go_wp2
                    go_roundw
                    case rel => exact ⟨i + 1, r, by omega, by go_num, ER.out, LR.out, RN.out⟩
                    case measure => simp [intOf]; omega
            · obtain rfl : i = k := by omega
              obtain rfl : R0 = [] := Oc.encs_end (by rw [HL.out]; exact hE0)
              have RZ : Hid (R3 W wr g1 g2 g4 (0, [7]) (0, []) (2, [])) := Lib.hid (by
                have := R.out
                rwa [List.nil_append, Oc.sst, if_neg HBN.out, if_pos rfl] at this)
              clear R hE0 hL0
              go_wp2_with fail
              refine (alive_any _).mono ?_
              rintro e w8 ⟨rfl, hb⟩
              have RE := Lib.hid (RZ.out.below hb)
              clear hb RZ
              go_wp2_with fail
              refine (left_any g1 _ _ RE.out.p1).mono ?_
              rintro e w' ⟨rfl, rfl⟩
              go_wp2_with fail
              refine (end_any g1 _ _ RE.out.p1).mono ?_
              rintro e w' ⟨rfl, rfl⟩
              go_wp2_with fail
              refine (left_any g2 _ _ RE.out.p2).mono ?_
              rintro e w' ⟨rfl, rfl⟩
              go_wp2_with fail
              refine (end_any g2 _ _ RE.out.p2).mono ?_
              rintro e w' ⟨rfl, rfl⟩
              have E4 := end_any g4 _ _ RE.out.p3
              rw [show Oc.rdone (2, []) = 2 by decide] at E4
              have E4' := Lib.hid E4
              clear E4
              have m0 : ((m : Int) == 0) = false := by simp; omega
              go_wp2_with fail
              refine E4'.out.mono ?_
              rintro e w' ⟨rfl, rfl⟩
              go_wp2
              go_ret
              exact ⟨rfl, RE.out.bel⟩
set_option maxRecDepth 100000 in
theorem back_no (p : Option Addr) (n c : Nat) (l : List Oc.Th) (W : World) (hn : n ≤ 9223372036854775807) (h : Ths W p n l) (hf : Oc.fitsB l = false) :
    Calls Try.prog 5 #[.slice p n c] W fun e w' => e = .returned (.bool true) ∧ Below W.heap.size W w' := by
  have F := fits_any p n c l W hn h
  rw [hf] at F
  have F' := Lib.hid F
  clear F h hf hn
  go_enter Try.func5, Try.ntmps5
  go_wp2_with fail
  refine F'.out.mono ?_
  rintro e w' ⟨rfl, rfl⟩
  go_wp2_with fail
  refine (alive_any _).mono ?_
  rintro e w1 ⟨rfl, hb⟩
  have HB := Lib.hid hb
  clear hb
  go_wp2
  go_ret
  exact ⟨rfl, HB.out⟩
theorem back_any (p : Option Addr) (n c : Nat) (l : List Oc.Th) (W : World) (hn : n ≤ 9223372036854775807) (h : Ths W p n l) :
    Calls Try.prog 5 #[.slice p n c] W fun e w' => e = .returned (.bool true) ∧ Below W.heap.size W w' := by
  by_cases hf : Oc.fitsB l = true
  · exact back_fit p n c l W h hf
  · exact back_no p n c l W hn h (by simpa using hf)
end Go.Proofs.Ytakkkdmbghdhgaa
