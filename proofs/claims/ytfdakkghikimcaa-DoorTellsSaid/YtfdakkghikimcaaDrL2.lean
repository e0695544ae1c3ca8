/- The walk over the law of any order. Conditions: the contracts of package door; the list reads as marks. -/
import Derived.Test.YtfdakkghikimcaaDrL1
import Derived.Test.YtfdakkghikimcaaDrOrd
namespace Go.Proofs.Ytfdakkghikimcaa
open Go.RowKit

namespace Dr
open Se
set_option maxRecDepth 100000 in
set_option maxHeartbeats 4000000 in
theorem order_long (I : Face) (p : Option Addr) (n c : Nat) (w : World) (hn : 100 < n) (hbig : n ≤ 9223372036854775807) :
    Calls Try.prog 4 #[.slice p n c] w fun e w' => e = .returned (.bool true) ∧ Below w.heap.size w w' := by
  have h1 : (100 : Int) < (n : Int) := by omega
  have AL := Lib.hid (fun W => alive_any I W)
  go_enter Try.func4, Try.ntmps4
  go_wp2_with fail
  refine (AL.out _).mono ?_
  rintro e w3 ⟨rfl, hb⟩
  go_wp2
  go_ret
  exact ⟨rfl, hb⟩
set_option maxRecDepth 100000 in
set_option maxHeartbeats 32000000 in
theorem order_yes (I : Face) (p : Option Addr) (n c : Nat) (l : List Rd) (w : World) (hn : n ≤ 100) (hnc : n ≤ c) (hA : Rw 3 mcells w p n l) (hbin : ∀ x ∈ l, binB x = true) :
    Calls Try.prog 4 #[.slice p n c] w fun e w' => e = .returned (.bool true) ∧ Below w.heap.size w w' := by
  have h1 : (n : Int) ≤ 100 := by omega
  have t100 : decide ((100 : Int) < (n : Int)) = false := by simp; omega
  have N := Lib.hid (fun W => I.new W)
  have A0 := Lib.hid hA
  have HL := Lib.hid hA.1
  have HBI := Lib.hid hbin
  have HBR : Hid (∀ x ∈ twice l.reverse, binB x = true) := Lib.hid (fun x hx => hbin x (by rw [twice_mem, List.mem_reverse] at hx; exact hx))
  clear hA hbin
  go_enter Try.func4, Try.ntmps4
  go_wp2_with fail
  refine (N.out _).mono ?_
  rintro e w1 ⟨h, F1, rfl, hp, hb⟩
  have P1 := Lib.hid hp
  have B1 := Lib.hid hb
  clear hb hp
  go_wp2_with fail
  refine (N.out _).mono ?_
  rintro e w2 ⟨h2, F2, rfl, hp, hb⟩
  have P2 := Lib.hid (I.keep P1.out hb)
  have Q2 := Lib.hid hp
  have B2 := Lib.hid (B1.out.trans (hb.mono B1.out.size))
  have Z1 := Lib.hid B1.out.size
  have D2 := Lib.hid (show ∀ k, F1 k → ¬ F2 k from fun k hk hk2 => by
    have a1 := (I.foot P1.out hk).2
    have a2 := (I.foot hp hk2).1
    omega)
  clear hb hp P1 B1 N
  go_wp2_with fail
  go_loopw [5] (fun i wr => ∃ (k : Nat) (F F' : Nat → Prop), k ≤ n ∧ i = .int .i64 k ∧ Hid (I.DB wr w.heap.size h F (marks (l.take k))) ∧ Hid (I.DB wr w1.heap.size h2 F' (marks ((twice l.reverse).take (2 * k)))) ∧ Hid (∀ j, F j → ¬ F' j) ∧ Hid (Below w.heap.size w wr)) (fun i _ => n - (intOf i).toNat)
  case atStart => exact ⟨0, F1, F2, Nat.zero_le _, rfl, P2, Q2, D2, B2⟩
  case round =>
    clear P2 Q2 D2 B2
    obtain ⟨k, F, F', hk, rfl, HP, HQ, HD, HB⟩ := hrel
    by_cases hlt : k < n
    · obtain ⟨x, hx⟩ : ∃ x, l[k]? = some x := ⟨_, List.getElem?_eq_getElem (by rw [HL.out]; exact hlt)⟩
      obtain ⟨y, hy⟩ : ∃ y, l[n - 1 - k]? = some y := ⟨_, List.getElem?_eq_getElem (by rw [HL.out]; omega)⟩
      have hy2 := twice_at l.reverse k y (by rw [rev_at (by rw [HL.out]; exact hlt), HL.out]; exact hy)
      obtain ⟨bk, o, rfl, hc⟩ := (A0.out.keep mcells_len HB.out).2 (Nat.lt_of_le_of_lt (Nat.zero_le _) hlt)
      have e0 : wr.cell? ⟨bk, o + k * 3, none⟩ = some (.int .i64 x.min) := hc k x hx 0 (by decide)
      have e1 : wr.cell? ⟨bk, o + k * 3 + 1, none⟩ = some (.int .i64 x.seq) := hc k x hx 1 (by decide)
      have e2 : wr.cell? ⟨bk, o + k * 3 + 2, none⟩ = some (.bool (opB x)) := hc k x hx 2 (by decide)
      have hk3 : (k : Int) < (n : Int) := by omega
      have hkc : (k : Int) < (c : Int) := by omega
      have gx := HBI.out x (List.mem_of_getElem? hx)
      have gy := HBI.out y (List.mem_of_getElem? hy)
      have m1 := marks_take HBI.out k
      have m2 := marks_take HBR.out (2 * k)
      have m3 := marks_take HBR.out (2 * k + 1)
      have PP := Lib.hid (I.put _ h F _ x wr HP.out m1.1 (by omega) gx)
      rw [marks_next hx] at PP
      have QQ := Lib.hid (fun W F0 (hq : I.DB W w1.heap.size h2 F0 (marks ((twice l.reverse).take (2 * k)))) => I.put _ h2 F0 _ y W hq m2.1 (by omega) gy)
      rw [marks_next hy2.1] at QQ
      have RR := Lib.hid (fun W F0 (hq : I.DB W w1.heap.size h2 F0 (marks ((twice l.reverse).take (2 * k + 1)))) => I.put _ h2 F0 _ y W hq m3.1 (by omega) gy)
      rw [marks_next hy2.2] at RR
      have HY := Lib.hid hy
      obtain ⟨r, hr⟩ : ∃ r : Nat, n - 1 - k = r := ⟨_, rfl⟩
      rw [hr] at HY
      have hrn : (r : Int) < (n : Int) := by omega
      have hrc : (r : Int) < (c : Int) := by omega
      have q1 : (n : Int) - 1 - (k : Int) = (r : Int) := by omega
      clear hx hc hy hy2 hr gx gy m1 m2 m3
      unfold mval at PP QQ RR
      generalize hox : opB x = ox at *
      generalize hoy : opB y = oy at *
      have HOY := Lib.hid hoy
      clear hox hoy
      go_wp2_with fail
      refine PP.out.mono ?_
      rintro e w3 ⟨rfl, hh⟩
      obtain ⟨F3, hp3, hq3, hd3, ht3⟩ := sideF I hh HQ.out HD.out
      have HB3 := Lib.hid (ht3.below HB.out HB.out.size (fun i hi => (I.foot HP.out hi).1))
      have HP3 := Lib.hid hp3
      have HQ3 := Lib.hid hq3
      have HD3 := Lib.hid (show ∀ j, F' j → ¬ F3 j from fun j h1 h2 => hd3 j h2 h1)
      clear hh hp3 hq3 hd3 ht3 e0 e1 e2 HP HQ HD HB PP
      obtain ⟨_, _, e, hc⟩ := (A0.out.keep mcells_len HB3.out).2 (Nat.lt_of_le_of_lt (Nat.zero_le _) hlt)
      cases e
      have e0 : w3.cell? ⟨bk, o + r * 3, none⟩ = some (.int .i64 y.min) := hc r _ HY.out 0 (by decide)
      have e1 : w3.cell? ⟨bk, o + r * 3 + 1, none⟩ = some (.int .i64 y.seq) := hc r _ HY.out 1 (by decide)
      have e2 : w3.cell? ⟨bk, o + r * 3 + 2, none⟩ = some (.bool oy) := HOY.out ▸ hc r _ HY.out 2 (by decide)
      clear hc
      go_wp2_with fail
      refine (QQ.out _ _ HQ3.out).mono ?_
      rintro e w4 ⟨rfl, hh⟩
      obtain ⟨F4, hq4, hp4, hd4, ht4⟩ := sideF I hh HP3.out HD3.out
      have HB4 := Lib.hid (ht4.below HB3.out HB3.out.size (fun i hi => Nat.le_trans Z1.out (I.foot HQ3.out hi).1))
      have HP4 := Lib.hid hp4
      have HQ4 := Lib.hid hq4
      have HD4 := Lib.hid hd4
      clear hh hp4 hq4 hd4 ht4 e0 e1 e2 HP3 HQ3 HD3 HB3 QQ
      obtain ⟨_, _, e, hc⟩ := (A0.out.keep mcells_len HB4.out).2 (Nat.lt_of_le_of_lt (Nat.zero_le _) hlt)
      cases e
      have e0 : w4.cell? ⟨bk, o + r * 3, none⟩ = some (.int .i64 y.min) := hc r _ HY.out 0 (by decide)
      have e1 : w4.cell? ⟨bk, o + r * 3 + 1, none⟩ = some (.int .i64 y.seq) := hc r _ HY.out 1 (by decide)
      have e2 : w4.cell? ⟨bk, o + r * 3 + 2, none⟩ = some (.bool oy) := HOY.out ▸ hc r _ HY.out 2 (by decide)
      clear hc
      go_wp2_with fail
      refine (RR.out _ _ HQ4.out).mono ?_
      rintro e w5 ⟨rfl, hh⟩
      obtain ⟨F5, hq5, hp5, hd5, ht5⟩ := sideF I hh HP4.out HD4.out
      have HB5 := Lib.hid (ht5.below HB4.out HB4.out.size (fun i hi => Nat.le_trans Z1.out (I.foot HQ4.out hi).1))
      have HP5 := Lib.hid hp5
      have HQ5 := Lib.hid (show I.DB w5 w1.heap.size h2 F5 (marks ((twice l.reverse).take (2 * (k + 1)))) from hq5)
      have HD5 := Lib.hid (show ∀ j, F3 j → ¬ F5 j from fun j h1 h2 => hd5 j h2 h1)
      clear hh hp5 hq5 hd5 ht5 e0 e1 e2 HP4 HQ4 HD4 HB4 RR HY
      go_wp2
      go_roundw
      case rel => exact ⟨k + 1, F3, F5, by omega, by go_num, HP5, HQ5, HD5, HB5⟩
      case measure => simp [intOf]; omega
    · obtain rfl : k = n := by omega
      have hT : l.take k = l := List.take_of_length_le (by rw [HL.out]; exact Nat.le_refl _)
      have hT2 : (twice l.reverse).take (2 * k) = twice l.reverse := List.take_of_length_le (by rw [twice_len, List.length_reverse, HL.out]; exact Nat.le_refl _)
      rw [hT] at HP
      rw [hT2, marks_order HBI.out] at HQ
      have hG := marks_all l HBI.out
      have hGood := hG.1
      have hsl : (marks l).length ≤ 100 := Nat.le_trans hG.2 (by rw [HL.out]; exact hn)
      have IS := Lib.hid (fun z (hz : z ∈ l) => there_all HBI.out hz)
      generalize marks l = S at *
      have hsi : (S.length : Int) ≤ 100 := by omega
      have K3 := Lib.hid (fun W (hp : I.DB W w.heap.size h F S) => I.told _ h F _ W hp hGood (by omega))
      have K4 := Lib.hid (fun W (hp : I.DB W w1.heap.size h2 F' S) => I.told _ h2 F' _ W hp hGood (by omega))
      have K5 := Lib.hid (fun q q2 d d2 W (h1 : Rw 3 mcells W q S.length S) (h2 : Rw 3 mcells W q2 S.length S) => dmarks_any q q2 _ _ d d2 _ _ W (by omega) ⟨hGood.bin, hGood.bin⟩ h1 h2)
      rw [show decide (S = S) = true by simp] at K5
      have AL := Lib.hid (fun W => alive_any I W)
      clear hT hT2 HD hG hGood hsl
      go_wp2_with fail
      refine (K3.out _ HP.out).mono ?_
      rintro e w3 ⟨va, rfl, ho, hb⟩
      obtain ⟨qa, da, rfl, hda, hra⟩ := rw_own mcells_len ho
      have HB3 := Lib.hid (HB.out.trans (hb.mono HB.out.size))
      have HQ3 := Lib.hid (I.keep HQ.out hb)
      have RA3 := Lib.hid hra
      clear ho hb hra HP HQ HB K3
      go_wp2_with fail
      refine (K4.out _ HQ3.out).mono ?_
      rintro e w4 ⟨vb, rfl, ho, hb⟩
      obtain ⟨qb, db, rfl, _, hrb⟩ := rw_own mcells_len ho
      have HB4 := Lib.hid (HB3.out.trans (hb.mono HB3.out.size))
      have RA4 := Lib.hid (RA3.out.keep mcells_len hb)
      have RB4 := Lib.hid hrb
      clear ho hb hrb HQ3 HB3 RA3 K4
      go_wp2_with fail
      refine (K5.out _ _ da db _ RA4.out RB4.out).mono ?_
      rintro e w5 ⟨rfl, j5, hw5⟩
      have hb : Below w4.heap.size w4 w5 := by rw [hw5]; exact below_drewN (Below.refl _ _) _
      have HB5 := Lib.hid (HB4.out.trans (hb.mono HB4.out.size))
      have RA5 := Lib.hid (RA4.out.keep mcells_len hb)
      have A5 := Lib.hid (A0.out.keep mcells_len HB5.out)
      clear hb HB4 RA4 RB4 K5 hw5
      go_wp2_with fail
      go_loopw [8] (fun i wr => ∃ j : Nat, j ≤ k ∧ i = .int .i64 j ∧ Hid (Below w5.heap.size w5 wr)) (fun i _ => k - (intOf i).toNat)
      case atStart => exact ⟨0, Nat.zero_le _, rfl, Lib.hid (Below.refl _ _)⟩
      case round =>
        obtain ⟨j, hj, rfl, HB⟩ := hrel
        by_cases hlt2 : j < k
        · obtain ⟨x, hx⟩ : ∃ x, l[j]? = some x := ⟨_, List.getElem?_eq_getElem (by rw [HL.out]; exact hlt2)⟩
          obtain ⟨bk, o, e, hc⟩ := (A5.out.keep mcells_len HB.out).2 (Nat.lt_of_le_of_lt (Nat.zero_le _) hlt2)
          subst e
          have e0 : wr.cell? ⟨bk, o + j * 3, none⟩ = some (.int .i64 x.min) := hc j x hx 0 (by decide)
          have e1 : wr.cell? ⟨bk, o + j * 3 + 1, none⟩ = some (.int .i64 x.seq) := hc j x hx 1 (by decide)
          have e2 : wr.cell? ⟨bk, o + j * 3 + 2, none⟩ = some (.bool (opB x)) := hc j x hx 2 (by decide)
          have hj3 : (j : Int) < (k : Int) := by omega
          have hjc : (j : Int) < (c : Int) := by omega
          have RT := Lib.hid (fun W => dright_any x W)
          have TH := Lib.hid (IS.out x (List.mem_of_getElem? hx))
          have HX := Lib.hid hx
          generalize rightM x = rb at *
          clear hx hc
          unfold mval at RT
          go_wp2_with fail
          refine (RT.out _).mono ?_
          rintro e w6 ⟨rfl, hb⟩
          have HB6 := Lib.hid (HB.out.trans (hb.mono HB.out.size))
          clear hb HB e0 e1 e2 RT
          have RA6 := Lib.hid (RA5.out.keep mcells_len HB6.out)
          obtain ⟨_, _, e, hc⟩ := (A5.out.keep mcells_len HB6.out).2 (Nat.lt_of_le_of_lt (Nat.zero_le _) hlt2)
          cases e
          have e0 : w6.cell? ⟨bk, o + j * 3, none⟩ = some (.int .i64 x.min) := hc j _ HX.out 0 (by decide)
          have e1 : w6.cell? ⟨bk, o + j * 3 + 1, none⟩ = some (.int .i64 x.seq) := hc j _ HX.out 1 (by decide)
          have e2 : w6.cell? ⟨bk, o + j * 3 + 2, none⟩ = some (.bool (opB x)) := hc j _ HX.out 2 (by decide)
          clear hc HX
          go_wp2_with fail
          go_loopw [10, 11] (fun is i wi => ∃ (t : Nat) (sb : Bool) (nq : Nat), t ≤ S.length ∧ is = .bool sb ∧ i = .int .i64 t ∧ wi = w6.drewN nq ∧ Hid (Tell sb (There S t x))) (fun _ i _ => S.length - (intOf i).toNat)
          case atStart => exact ⟨0, false, 0, Nat.zero_le _, rfl, rfl, rfl, Lib.hid ⟨fun hh => by simp at hh, fun hh => absurd hh (there_zero _ _)⟩⟩
          case round =>
            obtain ⟨t, sb, nq, ht, rfl, rfl, rfl, HT⟩ := hrel
            by_cases hlt3 : t < S.length
            · obtain ⟨y, hy⟩ : ∃ y, S[t]? = some y := ⟨_, List.getElem?_eq_getElem hlt3⟩
              obtain ⟨ob, oo, e, hc⟩ := RA6.out.2 (Nat.lt_of_le_of_lt (Nat.zero_le _) hlt3)
              subst e
              have f0 : w6.cell? ⟨ob, oo + t * 3, none⟩ = some (.int .i64 y.min) := hc t y hy 0 (by decide)
              have f1 : w6.cell? ⟨ob, oo + t * 3 + 1, none⟩ = some (.int .i64 y.seq) := hc t y hy 1 (by decide)
              have f2 : w6.cell? ⟨ob, oo + t * 3 + 2, none⟩ = some (.bool (opB y)) := hc t y hy 2 (by decide)
              have ht3 : (t : Int) < (S.length : Int) := by omega
              have YES := Lib.hid (fun hh => there_yes (x := x) hy hh)
              have NO := Lib.hid (fun hh hh2 => there_no (x := x) hh hy hh2)
              clear hy hc
              cases sb
              · have HN := Lib.hid (show ¬ There S t x from fun hh => by simpa using HT.out.2 hh)
                clear HT
                by_cases t1 : y.min = x.min
                · have d1 : (y.min == x.min) = true := by simp [t1]
                  by_cases t2 : y.seq = x.seq
                  · have d2 : (y.seq == x.seq) = true := by simp [t2]
                    rcases hoy : opB y with _ | _
                    · rcases hox : opB x with _ | _
                      · have HT2 := Lib.hid (show Tell true (There S (t + 1) x) from ⟨fun _ => YES.out ⟨t1, t2, by rw [hoy, hox]; rfl⟩, fun _ => rfl⟩)
                        rw [hox] at e2
                        rw [hoy] at f2
                        clear t1 t2 YES NO HN hox hoy
                        go_wp2_with fail
                        go_quiet (fail)
                        go_wp2
                        go_roundw
                        case rel => exact ⟨t + 1, true, _, by omega, rfl, by go_num, rfl, HT2⟩
                        case measure => simp [intOf]; omega
                      · have HT2 := Lib.hid (show Tell false (There S (t + 1) x) from ⟨fun hh => by simp at hh, fun hh => absurd hh (NO.out HN.out (fun h3 => by have := h3.2.2; rw [hoy, hox] at this; simp at this))⟩)
                        rw [hox] at e2
                        rw [hoy] at f2
                        clear t1 t2 YES NO HN hox hoy
                        go_wp2_with fail
                        go_quiet (fail)
                        go_wp2
                        go_roundw
                        case rel => exact ⟨t + 1, false, _, by omega, rfl, by go_num, rfl, HT2⟩
                        case measure => simp [intOf]; omega
                    · have HT2 := Lib.hid (show Tell true (There S (t + 1) x) from ⟨fun _ => YES.out ⟨t1, t2, by rw [hoy]; rfl⟩, fun _ => rfl⟩)
                      rw [hoy] at f2
                      clear t1 t2 YES NO HN hoy
                      go_wp2_with fail
                      go_quiet (fail)
                      go_wp2
                      go_roundw
                      case rel => exact ⟨t + 1, true, _, by omega, rfl, by go_num, rfl, HT2⟩
                      case measure => simp [intOf]; omega
                  · have d2 : (y.seq == x.seq) = false := by simp [t2]
                    have HT2 := Lib.hid (show Tell false (There S (t + 1) x) from ⟨fun hh => by simp at hh, fun hh => absurd hh (NO.out HN.out (fun h3 => t2 h3.2.1))⟩)
                    clear t1 t2 YES NO HN
                    go_wp2_with fail
                    go_quiet (fail)
                    go_wp2
                    go_roundw
                    case rel => exact ⟨t + 1, false, _, by omega, rfl, by go_num, rfl, HT2⟩
                    case measure => simp [intOf]; omega
                · have d1 : (y.min == x.min) = false := by simp [t1]
                  have HT2 := Lib.hid (show Tell false (There S (t + 1) x) from ⟨fun hh => by simp at hh, fun hh => absurd hh (NO.out HN.out (fun h3 => t1 h3.1))⟩)
                  clear t1 YES NO HN
                  go_wp2_with fail
                  go_quiet (fail)
                  go_wp2
                  go_roundw
                  case rel => exact ⟨t + 1, false, _, by omega, rfl, by go_num, rfl, HT2⟩
                  case measure => simp [intOf]; omega
              · have HT2 := Lib.hid (show Tell true (There S (t + 1) x) from ⟨fun _ => there_on (HT.out.1 rfl), fun _ => rfl⟩)
                clear HT YES NO
                go_wp2_with fail
                go_quiet (fail)
                go_wp2
                go_roundw
                case rel => exact ⟨t + 1, true, _, by omega, rfl, by go_num, rfl, HT2⟩
                case measure => simp [intOf]; omega
            · obtain rfl : t = S.length := by omega
              have HB7 := Lib.hid (below_drewN HB6.out nq)
              have hsb : sb = rb := by
                have a1 := HT.out
                have a2 := TH.out
                unfold Tell at a1
                rw [Bool.eq_iff_iff]
                exact a1.trans a2
              subst hsb
              clear HT TH
              have tne : (sb != sb) = false := by cases sb <;> rfl
              go_wp2
              go_roundw
              case rel => exact ⟨j + 1, by omega, by go_num, HB7⟩
              case measure => simp [intOf]; omega
        · obtain rfl : j = k := by omega
          have HB6 := Lib.hid (HB5.out.trans (HB.out.mono HB5.out.size))
          clear IS HB HB5
          go_wp2_with fail
          refine (AL.out _).mono ?_
          rintro e w7 ⟨rfl, hb⟩
          have HB7 := Lib.hid (HB6.out.trans (hb.mono HB6.out.size))
          clear hb
          go_wp2
          go_ret
          exact ⟨rfl, HB7.out⟩
end Dr
end Go.Proofs.Ytfdakkghikimcaa
