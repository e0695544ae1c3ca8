/- The walk over the law of books of certificates. Conditions: the contracts of package cert; what comes in reads as certificates, and numbers. -/
import Derived.Test.YtklhapekfgcplaaCeL1
import Derived.Test.YtklhapekfgcplaaCeTwo
import Derived.Test.YtklhapekfgcplaaRwApp
import Derived.Deep.CutRange
import Derived.Deep.QuietTactic
import Derived.BigQuiet
namespace Go.Proofs.Ytklhapekfgcplaa
open Go.RowKit

namespace Ce
theorem icells_ones (x : Int) : ∀ u ∈ icells x, u.oneCell' = true := by
  intro u hu
  simp only [icells, List.mem_cons, List.not_mem_nil, or_false] at hu
  subst hu
  rfl
theorem infoI : (Try.prog.info? 3).map (fun i => (i.zero, i.size, i.bytes)) = some (some (.int .i64 0), 1, 8) := by kernel_rfl
theorem int_at {w : World} {p : Option Addr} {n : Nat} {l : List Int} (h : Rw 1 icells w p n l) {k : Nat} {x : Int} (hx : l[k]? = some x) : ∃ b o, p = some ⟨b, o, none⟩ ∧ w.cell? ⟨b, o + k, none⟩ = some (.int .i64 x) := by
  obtain ⟨b, o, e, hc⟩ := h.2 (by have := (List.getElem?_eq_some_iff.1 hx).1; have := h.1; omega)
  have h1 := hc k x hx 0 (by decide)
  rw [Nat.mul_one, Nat.add_zero] at h1
  exact ⟨b, o, e, h1⟩
theorem own_ints {w : World} {B n c : Nat} {p : Option Addr} {e : TypeId} {l : List Int} (h : w.ownsRow B e 1 (.slice p n c) n (l.flatMap icells)) (hn : l.length = n) : Rw 1 icells w p n l := by
  subst hn
  obtain ⟨q, c', e1, _, h2⟩ := rw_own icells_len h
  injection e1 with e1 _ _
  rw [e1]
  exact h2
theorem flag_zero (l : List Ct) (now : List Int) : flagF (l.take 0) now = [] := by cases now <;> rfl
theorem below_drew (w : World) (n : Nat) : Below w.heap.size w (w.drewN n) := ⟨rfl, rfl, rfl, Nat.le_refl _, fun _ _ => rfl⟩
set_option maxRecDepth 100000 in
set_option maxHeartbeats 8000000 in
theorem cbooks_long (I : Face) (p p2 : Option Addr) (n c n2 c2 : Nat) (id : Int) (w : World) (h : 60 < n ∨ 60 < n2) (hn : n ≤ 9223372036854775807) (hn2 : n2 ≤ 9223372036854775807) :
    Calls Try.prog 4 #[.slice p n c, .int .i64 id, .slice p2 n2 c2] w fun e w' => e = .returned (.bool true) ∧ Below w.heap.size w w' := by
  have AL := Lib.hid (fun W => calive_any I W)
  have hb1 : ((n : Nat) : Int) ≤ 9223372036854775807 := by omega
  have hb2 : ((n2 : Nat) : Int) ≤ 9223372036854775807 := by omega
  by_cases h1 : 60 < n
  · have t0 : decide (((n : Nat) : Int) > 60) = true := by simp; omega
    clear h hn hn2 h1
    have B_0 := Lib.hid (Below.refl w.heap.size w)
    go_enter Try.func4, Try.ntmps4
    go_wp2_with fail
    refine (AL.out _).mono ?_
    rintro e w1 ⟨rfl, hb⟩
    have B_1 := Lib.hid (B_0.out.trans (hb.mono B_0.out.size))
    clear B_0
    clear hb 
    go_wp2
    go_ret
    exact ⟨rfl, B_1.out⟩
  · have t0 : decide (((n : Nat) : Int) > 60) = false := by simp; omega
    have t1 : decide (((n2 : Nat) : Int) > 60) = true := by simp; omega
    clear h hn hn2 h1
    have B_0 := Lib.hid (Below.refl w.heap.size w)
    go_enter Try.func4, Try.ntmps4
    go_wp2_with fail
    refine (AL.out _).mono ?_
    rintro e w1 ⟨rfl, hb⟩
    have B_1 := Lib.hid (B_0.out.trans (hb.mono B_0.out.size))
    clear B_0
    clear hb 
    go_wp2
    go_ret
    exact ⟨rfl, B_1.out⟩
set_option maxRecDepth 100000 in
set_option maxHeartbeats 32000000 in
theorem cbooks_short (I : Face) (p p2 : Option Addr) (n c n2 c2 : Nat) (A : List Ct) (id : Int) (now : List Int) (w : World) (hA : Rw 8 ccells w p n A) (hN : Rw 1 icells w p2 n2 now) (hn : n ≤ 60) (hn2 : n2 ≤ 60) (hnc2 : n2 ≤ c2) (hid : I64 id) :
    Calls Try.prog 4 #[.slice p n c, .int .i64 id, .slice p2 n2 c2] w fun e w' => e = .returned (.bool true) ∧ Below w.heap.size w w' := by
  obtain ⟨i0, hi0, hz0, hz1, hz2⟩ := info_parts infoI
  have AL := Lib.hid (fun W => calive_any I W)
  have HA := Lib.hid hA
  have HL := Lib.hid hA.1
  have HN := Lib.hid hN
  have HM := Lib.hid hN.1
  have HC2 := Lib.hid hnc2
  have HID := Lib.hid hid
  have t0 : decide (((n : Nat) : Int) > 60) = false := by simp; omega
  have t1 : decide (((n2 : Nat) : Int) > 60) = false := by simp; omega
  have hn3 : ((n : Nat) : Int) ≤ 60 := by omega
  have hn4 : ((n2 : Nat) : Int) ≤ 60 := by omega
  obtain ⟨hid1, hid2⟩ := hid
  clear hA hN hnc2
  go_enter Try.func4, Try.ntmps4
  go_wp2_with fail
  refine (I.new w).mono ?_
  rintro e w1 ⟨h, F, rfl, hd, hb⟩
  have T1 := Lib.hid (two_new hd hb)
  clear hd hb
  go_wp2_with fail
  go_loopw [8, 9] (fun v i wr => ∃ (k : Nat) (l : List Ct) (q : Option Addr) (m d : Nat), k ≤ n ∧ i = .int .i64 k ∧ v = .slice q m d ∧ l.length ≤ k ∧ Hid (Two I w wr h l q m d l)) (fun _ i _ => n - (RowKit.intOf i).toNat)
  case atStart => exact ⟨0, [], none, 0, 0, Nat.zero_le _, rfl, rfl, Nat.zero_le _, T1⟩
  case round =>
    clear T1
    obtain ⟨k, l, q, m, d, hk, rfl, rfl, hlk, TR⟩ := hrel
    by_cases hlt : k < n
    · have hk3 : (k : Int) < (n : Int) := by omega
      obtain ⟨x, hx⟩ : ∃ x, A[k]? = some x := ⟨_, List.getElem?_eq_getElem (by rw [HL.out]; exact hlt)⟩
      obtain ⟨b, o, rfl, hc⟩ := ct_at HA.out hx
      have G := Lib.hid (show ∀ W, Below w.heap.size w W → ∀ i, i < 8 → W.cell? ⟨b, o + k * 8 + i, none⟩ = (ccells x)[i]? from fun W hW i hi => by
        obtain ⟨b', o', e', h1⟩ := ct_at (HA.out.keep ccells_len hW) hx
        cases e'
        exact h1 i hi)
      clear hc hx
      have P1 := Lib.hid (two_issue1 TR.out x (by omega))
      have P2 := Lib.hid (fun W (t : Two I w W h (issueF l x).1 q m d l) => two_issue2 t x (by have := t.row.1; omega))
      have hl2 := issue_len l x
      have hl3 : (issueF l x).1.length ≤ k + 1 := by omega
      clear hl2
      obtain ⟨ka, kb, kc, kd, ke, kf, kg, kh⟩ := x
      generalize (issueF l ⟨ka, kb, kc, kd, ke, kf, kg, kh⟩).2.1 = en at *
      generalize (issueF l ⟨ka, kb, kc, kd, ke, kf, kg, kh⟩).2.2 = ee at *
      generalize (issueF l ⟨ka, kb, kc, kd, ke, kf, kg, kh⟩).1 = l' at *
      simp only [cval] at P1 P2
      have e0 : wr.cell? ⟨b, o + k * 8, none⟩ = some (.int .i64 ka) := G.out wr TR.out.base 0 (by decide)
      have e1 : wr.cell? ⟨b, o + k * 8 + 1, none⟩ = some (.int .i64 kb) := G.out wr TR.out.base 1 (by decide)
      have e2 : wr.cell? ⟨b, o + k * 8 + 2, none⟩ = some (.int .i64 kc) := G.out wr TR.out.base 2 (by decide)
      have e3 : wr.cell? ⟨b, o + k * 8 + 3, none⟩ = some (.int .i64 kd) := G.out wr TR.out.base 3 (by decide)
      have e4 : wr.cell? ⟨b, o + k * 8 + 4, none⟩ = some (.int .i64 ke) := G.out wr TR.out.base 4 (by decide)
      have e5 : wr.cell? ⟨b, o + k * 8 + 5, none⟩ = some (.int .i64 kf) := G.out wr TR.out.base 5 (by decide)
      have e6 : wr.cell? ⟨b, o + k * 8 + 6, none⟩ = some (.int .i64 kg) := G.out wr TR.out.base 6 (by decide)
      have e7 : wr.cell? ⟨b, o + k * 8 + 7, none⟩ = some (.int .i64 kh) := G.out wr TR.out.base 7 (by decide)
      go_wp2_with fail
      refine P1.out.mono ?_
      rintro e w2 ⟨rfl, ht⟩
      have T2 := Lib.hid ht
      clear ht P1 TR e0 e1 e2 e3 e4 e5 e6 e7
      have e0 : w2.cell? ⟨b, o + k * 8, none⟩ = some (.int .i64 ka) := G.out w2 T2.out.base 0 (by decide)
      have e1 : w2.cell? ⟨b, o + k * 8 + 1, none⟩ = some (.int .i64 kb) := G.out w2 T2.out.base 1 (by decide)
      have e2 : w2.cell? ⟨b, o + k * 8 + 2, none⟩ = some (.int .i64 kc) := G.out w2 T2.out.base 2 (by decide)
      have e3 : w2.cell? ⟨b, o + k * 8 + 3, none⟩ = some (.int .i64 kd) := G.out w2 T2.out.base 3 (by decide)
      have e4 : w2.cell? ⟨b, o + k * 8 + 4, none⟩ = some (.int .i64 ke) := G.out w2 T2.out.base 4 (by decide)
      have e5 : w2.cell? ⟨b, o + k * 8 + 5, none⟩ = some (.int .i64 kf) := G.out w2 T2.out.base 5 (by decide)
      have e6 : w2.cell? ⟨b, o + k * 8 + 6, none⟩ = some (.int .i64 kg) := G.out w2 T2.out.base 6 (by decide)
      have e7 : w2.cell? ⟨b, o + k * 8 + 7, none⟩ = some (.int .i64 kh) := G.out w2 T2.out.base 7 (by decide)
      go_wp2_with fail
      refine (P2.out _ T2.out).mono ?_
      rintro e w3 ⟨q2, m2, d2, rfl, ht⟩
      have T3 := Lib.hid ht
      have tn : (en != en) = false := by simp
      have te : (ee != ee) = false := by simp
      clear ht P2 T2 G e0 e1 e2 e3 e4 e5 e6 e7
      go_wp2
      go_roundw
      case rel => exact ⟨k + 1, l', q2, m2, d2, by omega, by go_num, rfl, hl3, T3⟩
      case measure => simp [RowKit.intOf]; omega
    · obtain rfl : k = n := by omega
      obtain ⟨wo, rfl⟩ : ∃ wo : World, wo = wr := ⟨_, rfl⟩
      have TM := Lib.hid (show l.length = m from TR.out.row.1)
      have hm : m ≤ 60 := by have := TM.out; omega
      have hm3 : ((m : Nat) : Int) ≤ 60 := by omega
      have B0 := Lib.hid (Below.refl wo.heap.size wo)
      clear HA HL
      go_wp2_with fail
      go_loopw [15, 16] (fun v i wx => ∃ (k2 : Nat) (q3 : Option Addr) (m3 d3 : Nat), k2 ≤ m ∧ i = .int .i64 k2 ∧ v = .slice q3 m3 d3 ∧ m3 ≤ k2 ∧ Hid ((flagF (l.take k2) now).length = m3) ∧ Hid (wx.ownsRow wo.heap.size 3 1 (.slice q3 m3 d3) m3 ((flagF (l.take k2) now).flatMap icells)) ∧ Hid (Below wo.heap.size wo wx)) (fun _ i _ => m - (RowKit.intOf i).toNat)
      case atStart => exact ⟨0, none, 0, 0, Nat.zero_le _, rfl, rfl, Nat.zero_le _, Lib.hid (by rw [flag_zero]; rfl), Lib.hid (by rw [flag_zero]; exact World.ownsRow_nil _ _ _ _), B0⟩
      case round =>
        clear B0
        obtain ⟨k2, q3, m3, d3, hk2, rfl, rfl, hm3k, LF, OV, BX⟩ := hrel
        by_cases hlt2 : k2 < m
        · have hk4 : (k2 : Int) < (m : Int) := by omega
          have hm4 : (m3 : Int) ≤ 60 := by omega
          obtain ⟨x, hx⟩ : ∃ x, l[k2]? = some x := ⟨_, List.getElem?_eq_getElem (by rw [TM.out]; exact hlt2)⟩
          obtain ⟨b, o, rfl, hc⟩ := ct_at (TR.out.row.keep ccells_len BX.out) hx
          have FT := Lib.hid (flag_take (now := now) hx)
          obtain ⟨ka, kb, kc, kd, ke, kf, kg, kh⟩ := x
          have e0 : wr.cell? ⟨b, o + k2 * 8, none⟩ = some (.int .i64 ka) := hc 0 (by decide)
          have e7 : wr.cell? ⟨b, o + k2 * 8 + 7, none⟩ = some (.int .i64 kh) := hc 7 (by decide)
          clear hc hx
          by_cases hkn : k2 < n2
          · obtain ⟨nk, hnk⟩ : ∃ x, now[k2]? = some x := ⟨_, List.getElem?_eq_getElem (by rw [HM.out]; exact hkn)⟩
            obtain ⟨bn, on, rfl, z0⟩ := int_at ((HN.out.keep icells_len TR.out.base).keep icells_len BX.out) hnk
            have F2 := FT.out
            rw [hnk] at F2
            simp only at F2
            have dn : decide (k2 < n2) = true := by simpa using hkn
            have hkn3 : (k2 : Int) < (n2 : Int) := by omega
            clear FT hnk
            by_cases hl : kh < nk
            · rw [if_pos hl] at F2
              have F3 := Lib.hid F2
              have dg : decide (nk > kh) = true := by simpa using hl
              clear F2 hl
              go_wp2_with fail
              go_quiet (fail)
              have BD := Lib.hid (below_drew wr nq)
              have e0' : (wr.drewN nq).cell? ⟨b, o + k2 * 8, none⟩ = some (.int .i64 ka) := e0
              have OD := Lib.hid (own_turn OV.out (turn_drewN wr (fun _ => False) nq) (fun _ _ hf => hf))
              have BE := Lib.hid (BX.out.trans (BD.out.mono BX.out.size))
              have hsr := BE.out.size
              clear e0 e7 z0 OV BX BD
              generalize wr.drewN nq = wd at *
              have RW1 : Hid (Rw 1 icells (wd.alloc (.cells #[.int .i64 ka] 3)) (some ⟨wd.heap.size, 0, none⟩) 1 [ka]) := Lib.hid (Ra.rw_one (k := 1) (enc := icells) wd 3 ka)
              go_wp2_with (at_builtin; refine Ra.wpList_app icells_len icells_ones Try.underlying35 hi0 hz0 hz1 hz2 rfl (by decide) rfl _ _ rfl (OD.out.alloc _) rfl RW1.out rfl (by unfold maxLen; omega) (by omega) (by simp; omega) ?_; intro q4 d4 w3 hown2 hg2 _; have B3 := Lib.hid ((BE.out.alloc hsr (.cells (icells ka).toArray 3)).grown hg2 (by simp; omega) (fun k hk => (own_lt OD.out hk).1)); have O3 := Lib.hid hown2; clear hown2 hg2)
              try go_wp2
              go_roundw
              case rel => exact ⟨k2 + 1, q4, m3 + 1, d4, by omega, by go_num, rfl, by omega, Lib.hid (by rw [F3.out, List.length_append, LF.out]; rfl), by rw [F3.out]; exact O3, B3⟩
              case measure => simp [RowKit.intOf]; omega
            · rw [if_neg hl, List.append_nil] at F2
              have F3 := Lib.hid F2
              have dg : decide (nk > kh) = false := by simpa using hl
              clear F2 hl
              go_wp2_with fail
              go_quiet (fail)
              have BD := Lib.hid (below_drew wr nq)
              have OD := Lib.hid (own_turn OV.out (turn_drewN wr (fun _ => False) nq) (fun _ _ hf => hf))
              have BE := Lib.hid (BX.out.trans (BD.out.mono BX.out.size))
              clear e0 e7 z0 OV BX BD
              generalize wr.drewN nq = wd at *
              go_wp2
              go_roundw
              case rel => exact ⟨k2 + 1, q3, m3, d3, by omega, by go_num, rfl, by omega, Lib.hid (by rw [F3.out]; exact LF.out), by rw [F3.out]; exact OD, BE⟩
              case measure => simp [RowKit.intOf]; omega
          · have F2 := FT.out
            rw [List.getElem?_eq_none (by rw [HM.out]; omega)] at F2
            simp only [List.append_nil] at F2
            have F3 := Lib.hid F2
            have dn : decide (k2 < n2) = false := by simpa using hkn
            have hkn3 : ¬ (k2 : Int) < (n2 : Int) := by omega
            clear F2 FT
            go_wp2_with fail
            go_quiet (fail)
            have BD := Lib.hid (below_drew wr nq)
            have OD := Lib.hid (own_turn OV.out (turn_drewN wr (fun _ => False) nq) (fun _ _ hf => hf))
            have BE := Lib.hid (BX.out.trans (BD.out.mono BX.out.size))
            clear e0 e7 OV BX BD
            generalize wr.drewN nq = wd at *
            go_wp2
            go_roundw
            case rel => exact ⟨k2 + 1, q3, m3, d3, by omega, by go_num, rfl, by omega, Lib.hid (by rw [F3.out]; exact LF.out), by rw [F3.out]; exact OD, BE⟩
            case measure => simp [RowKit.intOf]; omega
        · obtain rfl : k2 = m := by omega
          have hT : l.take k2 = l := List.take_of_length_le (by rw [TM.out]; exact Nat.le_refl _)
          rw [hT] at LF OV
          clear hT
          have T2 := Lib.hid (TR.out.below BX.out)
          have RV := Lib.hid (own_ints OV.out LF.out)
          clear TR BX OV
          obtain ⟨wp, rfl⟩ : ∃ wp : World, wp = wr := ⟨_, rfl⟩
          have CT := Lib.hid (two_cert T2.out id HID.out)
          have CY : 1 ≤ id ∧ id ≤ (k2 : Int) → certF l id = ((l[(id - 1).toNat]?).getD ct0, 0) := fun h1 => by
            unfold certF
            rw [if_pos (by rw [TM.out]; exact h1)]
          have CN : ¬ (1 ≤ id ∧ id ≤ (k2 : Int)) → certF l id = (ct0, 5) := fun h1 => by
            unfold certF
            rw [if_neg (by rw [TM.out]; exact h1)]
          have HY := Lib.hid CY
          have HNo := Lib.hid CN
          clear CY CN
          generalize certF l id = y at *
          obtain ⟨⟨ya, yb, yc, yd, ye, yf, yg, yh⟩, yo⟩ := y
          simp only [cval] at CT
          go_wp2_with fail
          refine CT.out.mono ?_
          rintro e w4 ⟨rfl, hb⟩
          have YB := Lib.hid (Lies.new w4 23 #[.int .i64 ya, .int .i64 yb, .int .i64 yc, .int .i64 yd, .int .i64 ye, .int .i64 yf, .int .i64 yg, .int .i64 yh])
          have T5 := Lib.hid ((T2.out.below hb).below (alloc_below w4 (.cells #[.int .i64 ya, .int .i64 yb, .int .i64 yc, .int .i64 yd, .int .i64 ye, .int .i64 yf, .int .i64 yg, .int .i64 yh] 23)))
          have RW5 := Lib.hid ((RV.out.keep icells_len hb).keep icells_len (alloc_below w4 (.cells #[.int .i64 ya, .int .i64 yb, .int .i64 yc, .int .i64 yd, .int .i64 ye, .int .i64 yf, .int .i64 yg, .int .i64 yh] 23)))
          clear hb CT T2 RV
          go_upto_region 20 with fail
          generalize hw5 : w4.alloc (.cells #[.int .i64 ya, .int .i64 yb, .int .i64 yc, .int .i64 yd, .int .i64 ye, .int .i64 yf, .int .i64 yg, .int .i64 yh] 23) = w5 at *
          clear hw5
          obtain ⟨ob, hob⟩ : ∃ ob, decide (1 ≤ id ∧ id ≤ (k2 : Int)) = ob := ⟨_, rfl⟩
          have HOB := Lib.hid hob
          clear hob
          go_cut [19] from 108 to 115 (fun s19 wx => s19 = .bool ob ∧ wx = w5)
          case first =>
            have ho := HOB.out
            clear HOB HY HNo YB T5 RW5
            by_cases h1 : 1 ≤ id
            · have d1 : decide (id ≥ 1) = true := by simpa using h1
              by_cases h2 : id ≤ (k2 : Int)
              · have d2 : decide (id ≤ (k2 : Int)) = true := by simpa using h2
                have d3 : ob = true := by rw [← ho]; simp; omega
                subst d3
                clear ho
                go_wp2_with fail
                go_meet
                exact ⟨rfl, rfl⟩
              · have d2 : decide (id ≤ (k2 : Int)) = false := by simpa using h2
                have d3 : ob = false := by rw [← ho]; simp; omega
                subst d3
                clear ho
                go_wp2_with fail
                go_meet
                exact ⟨rfl, rfl⟩
            · have d1 : decide (id ≥ 1) = false := by simpa using h1
              have d3 : ob = false := by rw [← ho]; simp; omega
              subst d3
              clear ho
              go_wp2_with fail
              go_meet
              exact ⟨rfl, rfl⟩
          obtain ⟨rfl, hwx⟩ := hcut
          have hwx := hwx.symm
          subst hwx
          go_upto_region 21 with fail
          go_cut [142] from 116 to 142 (fun s142 wx => s142 = .bool false ∧ Hid (Below w5.heap.size w5 wx))
          case rest =>
            obtain ⟨rfl, BC⟩ := hcut
            have T6 := Lib.hid (T5.out.below BC.out)
            have RW6 := Lib.hid (RW5.out.keep icells_len BC.out)
            clear HY HNo YB T5 RW5 BC HOB
            go_wp2_with fail
            refine (two_all T6.out).mono ?_
            rintro e w7 ⟨⟨p7, c7, rfl, hr7⟩, hb⟩
            have T_7 := Lib.hid (T6.out.below hb)
            have RW_7 := Lib.hid (RW6.out.keep icells_len hb)
            clear T6 RW6
            clear hb 
            have L_7 := Lib.hid (hr7)
            clear hr7
            go_wp2_with fail
            refine (two_same T_7.out L_7.out (by have := TM.out; omega)).mono ?_
            rintro e w8 ⟨rfl, hb⟩
            have T_8 := Lib.hid (T_7.out.below hb)
            have RW_8 := Lib.hid (RW_7.out.keep icells_len hb)
            have L_8 := Lib.hid (L_7.out.keep ccells_len hb)
            clear T_7 RW_7 L_7
            clear hb 
            clear L_8
            have FL := Lib.hid (two_flagged (c := c2) T_8.out HN.out (by omega) HC2.out)
            rw [LF.out] at FL
            go_wp2_with fail
            refine (FL.out).mono ?_
            rintro e w9 ⟨⟨v, dv, rfl, ho⟩, hb⟩
            have T_9 := Lib.hid (T_8.out.below hb)
            have RW_9 := Lib.hid (RW_8.out.keep icells_len hb)
            clear T_8 RW_8
            clear hb FL
            have RF_9 := Lib.hid (own_ints ho LF.out)
            clear ho
            have ne3 : ((m3 : Int) != (m3 : Int)) = false := by simp
            have hm6 : (m3 : Int) ≤ 60 := by omega
            have BZ := Lib.hid (Below.refl w9.heap.size w9)
            go_wp2_with fail
            go_loopw [22] (fun i wx => ∃ k3 : Nat, k3 ≤ m3 ∧ i = .int .i64 k3 ∧ Hid (Below w9.heap.size w9 wx)) (fun i _ => m3 - (RowKit.intOf i).toNat)
            case atStart => exact ⟨0, Nat.zero_le _, rfl, BZ⟩
            case round =>
              clear BZ
              obtain ⟨k3, hk3, rfl, BX⟩ := hrel
              by_cases hlt3 : k3 < m3
              · have hk5 : (k3 : Int) < (m3 : Int) := by omega
                obtain ⟨z, hz⟩ : ∃ z, (flagF l now)[k3]? = some z := ⟨_, List.getElem?_eq_getElem (by rw [LF.out]; exact hlt3)⟩
                obtain ⟨b1, o1, rfl, z1⟩ := int_at (RW_9.out.keep icells_len BX.out) hz
                obtain ⟨b2, o2, rfl, z2⟩ := int_at (RF_9.out.keep icells_len BX.out) hz
                have nz : (z != z) = false := by simp
                clear hz
                go_wp2_with fail
                go_quiet (fail)
                have BE := Lib.hid (BX.out.trans ((below_drew wr nq).mono BX.out.size))
                clear z1 z2 BX
                generalize wr.drewN nq = wd at *
                go_wp2
                go_roundw
                case rel => exact ⟨k3 + 1, by omega, by go_num, BE⟩
                case measure => simp [RowKit.intOf]; omega
              · obtain rfl : k3 = m3 := by omega
                have TE := Lib.hid (T_9.out.below BX.out)
                clear BX T_9 RW_9 RF_9
                obtain ⟨wq, rfl⟩ : ∃ wq : World, wq = wr := ⟨_, rfl⟩
                have NI := Lib.hid (fun W => show Calls Try.prog 15 #[.pointer none, .agg #[.int .i64 0, .int .i64 0, .int .i64 0, .int .i64 0, .int .i64 0, .int .i64 0, .int .i64 0, .int .i64 0]] W fun e w' => e = .returned (.tuple #[.int .i64 0, .int .i64 1]) ∧ Below W.heap.size W w' from I.nil_issue ct0 W)
                have NC := Lib.hid (fun W => show Calls Try.prog 17 #[.pointer none, .int .i64 1] W fun e w' => e = .returned (.tuple #[.agg #[.int .i64 0, .int .i64 0, .int .i64 0, .int .i64 0, .int .i64 0, .int .i64 0, .int .i64 0, .int .i64 0], .int .i64 1]) ∧ Below W.heap.size W w' from I.nil_cert 1 W)
                have NF := Lib.hid (fun W (hW : Below w.heap.size w W) => I.nil_flagged p2 n2 c2 now W (HN.out.keep icells_len hW) (by omega) HC2.out)
                have E0 := Lib.hid (flag_nil l)
                go_wp2_with fail
                refine (NI.out _).mono ?_
                rintro e w10 ⟨rfl, hb⟩
                have T_10 := Lib.hid (TE.out.below hb)
                clear TE
                clear hb 
                go_wp2_with fail
                refine (NC.out _).mono ?_
                rintro e w11 ⟨rfl, hb⟩
                have T_11 := Lib.hid (T_10.out.below hb)
                clear T_10
                clear hb 
                have T_12 := Lib.hid (T_11.out.below (alloc_below w11 (.cells #[.int .i64 0, .int .i64 0, .int .i64 0, .int .i64 0, .int .i64 0, .int .i64 0, .int .i64 0, .int .i64 0] 23)))
                clear T_11
                go_wp2_with fail
                refine (AL.out _).mono ?_
                rintro e w13 ⟨rfl, hb⟩
                have T_13 := Lib.hid (T_12.out.below hb)
                clear T_12
                clear hb 
                go_wp2_with fail
                refine (I.nil_all _).mono ?_
                rintro e w14 ⟨⟨q7, c7', rfl⟩, hb⟩
                have T_14 := Lib.hid (T_13.out.below hb)
                clear T_13
                clear hb 
                go_wp2_with fail
                refine (NF.out _ T_14.out.base).mono ?_
                rintro e w15 ⟨⟨q8, c8, rfl⟩, hb⟩
                have T_15 := Lib.hid (T_14.out.below hb)
                clear T_14
                clear hb 
                have FL := Lib.hid (two_flagged (p := none) (n := 0) (c := 0) (now := []) T_15.out (rw_nil w) (by decide) (Nat.le_refl _))
                rw [E0.out] at FL
                go_wp2_with fail
                refine (FL.out).mono ?_
                rintro e w16 ⟨⟨v9, d9, rfl, ho⟩, hb⟩
                have T_16 := Lib.hid (T_15.out.below hb)
                clear T_15
                clear hb ho FL
                go_wp2
                go_ret
                exact ⟨rfl, T_16.out.base⟩
          case first =>
            have y0 : w5.cell? ⟨w4.heap.size, 0, none⟩ = some (.int .i64 ya) := YB.out.cell 0
            have y1 : w5.cell? ⟨w4.heap.size, 1, none⟩ = some (.int .i64 yb) := YB.out.cell 1
            have y2 : w5.cell? ⟨w4.heap.size, 2, none⟩ = some (.int .i64 yc) := YB.out.cell 2
            have y3 : w5.cell? ⟨w4.heap.size, 3, none⟩ = some (.int .i64 yd) := YB.out.cell 3
            have y4 : w5.cell? ⟨w4.heap.size, 4, none⟩ = some (.int .i64 ye) := YB.out.cell 4
            have y5 : w5.cell? ⟨w4.heap.size, 5, none⟩ = some (.int .i64 yf) := YB.out.cell 5
            have y6 : w5.cell? ⟨w4.heap.size, 6, none⟩ = some (.int .i64 yg) := YB.out.cell 6
            have y7 : w5.cell? ⟨w4.heap.size, 7, none⟩ = some (.int .i64 yh) := YB.out.cell 7
            by_cases hone : 1 ≤ id ∧ id ≤ (k2 : Int)
            · have hy := HY.out hone
              have d0 : ob = true := by rw [← HOB.out]; simpa using hone
              subst d0
              clear HOB
              obtain ⟨j, rfl⟩ : ∃ j : Nat, id = (j : Int) + 1 := ⟨(id - 1).toNat, by omega⟩
              have hj : j < k2 := by omega
              rw [show ((j : Int) + 1 - 1).toNat = j by omega] at hy
              obtain ⟨x, hx⟩ : ∃ x, l[j]? = some x := ⟨_, List.getElem?_eq_getElem (by rw [TM.out]; exact hj)⟩
              rw [hx] at hy
              simp only [Option.getD_some, Prod.mk.injEq] at hy
              obtain ⟨hy1, hy2⟩ := hy
              subst hy1 hy2
              obtain ⟨b, o, rfl, hc⟩ := ct_at T5.out.row hx
              have x0 : w5.cell? ⟨b, o + j * 8, none⟩ = some (.int .i64 ya) := hc 0 (by decide)
              have x1 : w5.cell? ⟨b, o + j * 8 + 1, none⟩ = some (.int .i64 yb) := hc 1 (by decide)
              have x2 : w5.cell? ⟨b, o + j * 8 + 2, none⟩ = some (.int .i64 yc) := hc 2 (by decide)
              have x3 : w5.cell? ⟨b, o + j * 8 + 3, none⟩ = some (.int .i64 yd) := hc 3 (by decide)
              have x4 : w5.cell? ⟨b, o + j * 8 + 4, none⟩ = some (.int .i64 ye) := hc 4 (by decide)
              have x5 : w5.cell? ⟨b, o + j * 8 + 5, none⟩ = some (.int .i64 yf) := hc 5 (by decide)
              have x6 : w5.cell? ⟨b, o + j * 8 + 6, none⟩ = some (.int .i64 yg) := hc 6 (by decide)
              have x7 : w5.cell? ⟨b, o + j * 8 + 7, none⟩ = some (.int .i64 yh) := hc 7 (by decide)
              have hj3 : (j : Int) < (k2 : Int) := by omega
              have d3 : IntKind.i64.wrap ((j : Int) + 1 - 1) = (j : Int) := by rw [IntWalk.i64_in _ (by omega)]; omega
              have n0 : (ya != ya) = false := by simp
              have n1 : (yb != yb) = false := by simp
              have n2 : (yc != yc) = false := by simp
              have n3 : (yd != yd) = false := by simp
              have n4 : (ye != ye) = false := by simp
              have n5 : (yf != yf) = false := by simp
              have n6 : (yg != yg) = false := by simp
              have n7 : (yh != yh) = false := by simp
              clear hc hx hone HY HNo hid1 hid2 hj
              go_wp2_with fail
              go_quiet (fail)
              go_wp2_with fail
              go_meet
              exact ⟨rfl, Lib.hid (below_drew _ _)⟩
            · have hy := HNo.out hone
              simp only [ct0, Prod.mk.injEq, Ct.mk.injEq] at hy
              obtain ⟨⟨rfl, rfl, rfl, rfl, rfl, rfl, rfl, rfl⟩, rfl⟩ := hy
              have d3 : ob = false := by rw [← HOB.out]; simpa using hone
              subst d3
              clear HY HNo hone HOB
              go_wp2_with fail
              go_quiet (fail)
              go_wp2_with fail
              go_meet
              exact ⟨rfl, Lib.hid (below_drew _ _)⟩
