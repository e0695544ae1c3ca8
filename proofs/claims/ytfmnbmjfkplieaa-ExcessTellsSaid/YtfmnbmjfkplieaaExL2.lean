/- The walk over the law that sums are the same however they were kept. Conditions: the contracts of package excess; the list reads as readings; the numbers are uint32s. -/
import Derived.Test.YtfmnbmjfkplieaaExL1
import Derived.Test.YtfmnbmjfkplieaaSeL4
import Derived.Test.YtfmnbmjfkplieaaSeOrd
import Derived.Deep.RegionHeld3
namespace Go.Proofs.Ytfmnbmjfkplieaa
open Go.RowKit Se

namespace Ex
theorem both_no {wo ga li : Int} (h : ¬ (mayB wo ga = true ∧ tenB li = true)) : (mayB wo ga && tenB li) = false := by
  cases h1 : mayB wo ga
  · rfl
  · cases h2 : tenB li
    · rfl
    · exact absurd ⟨h1, h2⟩ h
/-- Two indexes, side by side: one that is written. -/
theorem sideX (I : Face) {w w' : World} {B h B2 h2 : Nat} {F F2 : Nat → Prop} {wo ga li : Int} {S' T : List Rd} (h0 : ∃ F', I.IX w' B h F' wo ga li S' ∧ Turn F w w' ∧ ∀ k, F' k → F k ∨ w.heap.size ≤ k) (hq : I.IX w B2 h2 F2 wo ga li T) (hd : ∀ k, F k → ¬ F2 k) :
    ∃ F', I.IX w' B h F' wo ga li S' ∧ I.IX w' B2 h2 F2 wo ga li T ∧ (∀ k, F' k → ¬ F2 k) ∧ Turn F w w' := by
  obtain ⟨F', hp, ht, hF⟩ := h0
  exact ⟨F', hp, I.turn hq ht (fun k hk hf => hd k hf hk), fun k hk hf => by
    rcases hF k hk with h1 | h1
    · exact hd k h1 hf
    · have := (I.foot hq hf).2
      omega, ht⟩
set_option maxRecDepth 100000 in
set_option maxHeartbeats 4000000 in
theorem same_no (I : Face) (a b li : Int) (p : Option Addr) (n c : Nat) (x y : Int) (w : World) (hm : (mayB a b && tenB li) = false) :
    Calls Try.prog 5 #[.agg #[.int .i64 a, .int .i64 b, .int .i64 li], .slice p n c, .agg #[.int .u32 x, .int .u32 y]] w fun e w' => e = .returned (.bool true) ∧ Below w.heap.size w w' := by
  have N := Lib.hid (fun W => I.new_no a b li W hm)
  have T0 := Lib.hid (two_boxes w #[.int .i64 a, .int .i64 b, .int .i64 li] #[.int .u32 x, .int .u32 y] 22 49)
  clear hm
  go_enter Try.func5, Try.ntmps5
  go_wp2_with fail
  refine (N.out _).mono ?_
  rintro e w1 ⟨rfl, hb⟩
  have B1 := Lib.hid (T0.out.1.trans (hb.mono T0.out.1.size))
  have X1 := T0.out.2.1.below hb T0.out.2.1.lt
  have x0 : w1.cell? ⟨w.heap.size, 0, none⟩ = some (.int .i64 a) := X1.cell 0
  have x1 : w1.cell? ⟨w.heap.size, 1, none⟩ = some (.int .i64 b) := X1.cell 1
  have x2 : w1.cell? ⟨w.heap.size, 2, none⟩ = some (.int .i64 li) := X1.cell 2
  clear hb X1
  go_wp2_with fail
  refine (N.out _).mono ?_
  rintro e w2 ⟨rfl, hb⟩
  have B2 := Lib.hid (B1.out.trans (hb.mono B1.out.size))
  clear hb x0 x1 x2
  go_wp2_with fail
  refine (xalive_any I _).mono ?_
  rintro e w3 ⟨rfl, hb⟩
  have B3 := Lib.hid (B2.out.trans (hb.mono B2.out.size))
  clear hb
  go_wp2
  go_ret
  exact ⟨rfl, B3.out⟩
set_option maxRecDepth 100000 in
set_option maxHeartbeats 4000000 in
theorem same_long (I : Face) (a b li : Int) (p : Option Addr) (n c : Nat) (x y : Int) (w : World) (hm : mayB a b = true) (hl : tenB li = true) (hn : 60 < n) (hbig : n ≤ 9223372036854775807) :
    Calls Try.prog 5 #[.agg #[.int .i64 a, .int .i64 b, .int .i64 li], .slice p n c, .agg #[.int .u32 x, .int .u32 y]] w fun e w' => e = .returned (.bool true) ∧ Below w.heap.size w w' := by
  have h1 : (60 : Int) < (n : Int) := by omega
  have N := Lib.hid (fun W => I.new_yes a b li W hm hl)
  have T0 := Lib.hid (two_boxes w #[.int .i64 a, .int .i64 b, .int .i64 li] #[.int .u32 x, .int .u32 y] 22 49)
  clear hm hl
  go_enter Try.func5, Try.ntmps5
  go_wp2_with fail
  refine (N.out _).mono ?_
  rintro e w1 ⟨h, F, rfl, _, hb⟩
  have B1 := Lib.hid (T0.out.1.trans (hb.mono T0.out.1.size))
  have X1 := T0.out.2.1.below hb T0.out.2.1.lt
  have x0 : w1.cell? ⟨w.heap.size, 0, none⟩ = some (.int .i64 a) := X1.cell 0
  have x1 : w1.cell? ⟨w.heap.size, 1, none⟩ = some (.int .i64 b) := X1.cell 1
  have x2 : w1.cell? ⟨w.heap.size, 2, none⟩ = some (.int .i64 li) := X1.cell 2
  clear hb X1
  go_wp2_with fail
  refine (N.out _).mono ?_
  rintro e w2 ⟨h2, F2, rfl, _, hb⟩
  have B2 := Lib.hid (B1.out.trans (hb.mono B1.out.size))
  clear hb x0 x1 x2
  go_wp2_with fail
  refine (xalive_any I _).mono ?_
  rintro e w3 ⟨rfl, hb⟩
  have B3 := Lib.hid (B2.out.trans (hb.mono B2.out.size))
  clear hb
  go_wp2
  go_ret
  exact ⟨rfl, B3.out⟩
theorem rev_take {l : List Rd} {k : Nat} {y : Rd} (hk : k < l.length) (hy : l[l.length - 1 - k]? = some y) : l.reverse[k]? = some y := by rw [rev_at hk, hy]
set_option maxRecDepth 100000 in
set_option maxHeartbeats 16000000 in
theorem same_yes (I : Face) (a b li : Int) (p : Option Addr) (n c : Nat) (l : List Rd) (x y : Nat) (w : World) (hm : mayB a b = true) (hl : tenB li = true) (hn : n ≤ 60) (hnc : n ≤ c) (hA : Rw 3 rcells w p n l) (hx : U32 x) (hy : U32 y) :
    Calls Try.prog 5 #[.agg #[.int .i64 a, .int .i64 b, .int .i64 li], .slice p n c, .agg #[.int .u32 (x : Int), .int .u32 (y : Int)]] w fun e w' => e = .returned (.bool true) ∧ Below w.heap.size w w' := by
  have h1 : (n : Int) ≤ 60 := by omega
  have t60 : decide ((60 : Int) < (n : Int)) = false := by simp; omega
  have N := Lib.hid (fun W => I.new_yes a b li W hm hl)
  have HM := Lib.hid hm
  have HLi := Lib.hid hl
  have T0 := Lib.hid (two_boxes w #[.int .i64 a, .int .i64 b, .int .i64 li] #[.int .u32 (x : Int), .int .u32 (y : Int)] 22 49)
  have A0 := Lib.hid (hA.keep rcells_len T0.out.1)
  have HL := Lib.hid hA.1
  clear hm hl hA
  obtain ⟨A, hA1⟩ : ∃ A : Int, A = (x : Int) := ⟨_, rfl⟩
  obtain ⟨Bq, hB1⟩ : ∃ Bq : Int, Bq = (x : Int) + (y : Int) := ⟨_, rfl⟩
  have HAB := Lib.hid (show A = (x : Int) ∧ Bq = (x : Int) + (y : Int) ∧ 0 ≤ A ∧ A ≤ Bq ∧ Bq ≤ 8589934592 from ⟨hA1, hB1, by omega, by omega, by have := u32_lt hx; have := u32_lt hy; omega⟩)
  have qx : wrap64 (x : Int) = A := by rw [hA1]; exact IntWalk.wrap64_in _ (by have := u32_lt hx; omega)
  have qy : wrap64 (y : Int) = (y : Int) := IntWalk.wrap64_in _ (by have := u32_lt hy; omega)
  have qs : wrap64 (A + (y : Int)) = Bq := by rw [hA1, IntWalk.wrap64_in _ (by have := u32_lt hx; have := u32_lt hy; omega), hB1]
  have QX := Lib.hid qx
  have QY := Lib.hid qy
  have QS := Lib.hid qs
  clear hA1 hB1 hx hy qx qy qs
  go_enter Try.func5, Try.ntmps5
  go_wp2_with fail
  refine (N.out _).mono ?_
  rintro e w1 ⟨h, F1, rfl, hp, hb⟩
  have P1 := Lib.hid hp
  have B1 := Lib.hid hb
  have X1 := T0.out.2.1.below hb T0.out.2.1.lt
  have x0 : w1.cell? ⟨w.heap.size, 0, none⟩ = some (.int .i64 a) := X1.cell 0
  have x1 : w1.cell? ⟨w.heap.size, 1, none⟩ = some (.int .i64 b) := X1.cell 1
  have x2 : w1.cell? ⟨w.heap.size, 2, none⟩ = some (.int .i64 li) := X1.cell 2
  clear hb X1 hp
  obtain ⟨w0, hw0⟩ : ∃ w0, (w.alloc (.cells #[.int .i64 a, .int .i64 b, .int .i64 li] 22)).alloc (.cells #[.int .u32 (x : Int), .int .u32 (y : Int)] 49) = w0 := ⟨_, rfl⟩
  rw [hw0] at T0 A0 P1 B1
  clear hw0
  go_wp2_with fail
  refine (N.out _).mono ?_
  rintro e w2 ⟨h2, F2, rfl, hp, hb⟩
  have P2 := Lib.hid (I.keep P1.out hb)
  have Q2 := Lib.hid hp
  have B2 := Lib.hid (B1.out.trans (hb.mono B1.out.size))
  have Z1 := Lib.hid B1.out.size
  have D2 := Lib.hid (show ∀ k, F1 k → ¬ F2 k from fun k hk hk2 => by
    have a1 := (I.foot P1.out hk).2
    have a2 := (I.foot hp hk2).1
    omega)
  have bx := T0.out.2.2.below B2.out T0.out.2.2.lt
  have y0 : w2.cell? ⟨w.heap.size + 1, 0, none⟩ = some (.int .u32 (x : Int)) := bx.cell 0
  have y1 : w2.cell? ⟨w.heap.size + 1, 1, none⟩ = some (.int .u32 (y : Int)) := bx.cell 1
  clear hb hp x0 x1 x2 P1 B1 N bx
  go_wp2_with fail
  rw [QX.out, QY.out, QS.out]
  clear y0 y1 QX QY QS
  go_loopw [13] (fun i wr => ∃ (k : Nat) (F F' : Nat → Prop), k ≤ n ∧ i = .int .i64 k ∧ Hid (I.IX wr w0.heap.size h F a b li (sortL (puts (l.take k)))) ∧ Hid (I.IX wr w1.heap.size h2 F' a b li (sortL (puts (l.reverse.take k)))) ∧ Hid (∀ j, F j → ¬ F' j) ∧ Hid (Below w0.heap.size w0 wr)) (fun i _ => n - (intOf i).toNat)
  case atStart => exact ⟨0, F1, F2, Nat.zero_le _, rfl, P2, Q2, D2, B2⟩
  case round =>
    clear P2 Q2 D2 B2
    obtain ⟨k, F, F', hk, rfl, HP, HQ, HD, HB⟩ := hrel
    obtain ⟨ab1, ab2, ab3, ab4, ab5⟩ := HAB.out
    clear ab1 ab2
    by_cases hlt : k < n
    · obtain ⟨xr, hx⟩ : ∃ x, l[k]? = some x := ⟨_, List.getElem?_eq_getElem (by rw [HL.out]; exact hlt)⟩
      obtain ⟨yr, hy⟩ : ∃ y, l[n - 1 - k]? = some y := ⟨_, List.getElem?_eq_getElem (by rw [HL.out]; omega)⟩
      have hy2 := rev_take (l := l) (k := k) (y := yr) (by rw [HL.out]; exact hlt) (by rw [HL.out]; exact hy)
      obtain ⟨bk, o, rfl, hc⟩ := (A0.out.keep rcells_len HB.out).2 (Nat.lt_of_le_of_lt (Nat.zero_le _) hlt)
      have e0 : wr.cell? ⟨bk, o + k * 3, none⟩ = some (.int .i64 xr.min) := hc k xr hx 0 (by decide)
      have e1 : wr.cell? ⟨bk, o + k * 3 + 1, none⟩ = some (.int .i64 xr.seq) := hc k xr hx 1 (by decide)
      have e2 : wr.cell? ⟨bk, o + k * 3 + 2, none⟩ = some (.int .i64 xr.ten) := hc k xr hx 2 (by decide)
      have hk3 : (k : Int) < (n : Int) := by omega
      have hkc : (k : Int) < (c : Int) := by omega
      have hlen : ∀ j, (l.take j).length ≤ 100 := fun j => by rw [List.length_take, HL.out]; omega
      have hlen2 : ∀ j, (l.reverse.take j).length ≤ 100 := fun j => by rw [List.length_take, List.length_reverse, HL.out]; omega
      have PP := Lib.hid (I.put _ h F a b li _ xr wr HP.out (sorted_puts _) (sright _) HM.out HLi.out (Nat.le_trans (slen _) (Nat.le_trans (hlen _) (by omega))))
      rw [(sort_next hx).2.2] at PP
      have SS := Lib.hid (fun W F0 (hq : I.IX W w0.heap.size h F0 a b li (sortL (puts (l.take (k + 1))))) => I.sum _ h F0 a b li _ A Bq W hq (sorted_puts _) (sright _) HM.out HLi.out (Nat.le_trans (slen _) (Nat.le_trans (hlen _) (by omega))) (by omega) (by omega) (by omega) (by omega))
      have QQ := Lib.hid (fun W F0 (hq : I.IX W w1.heap.size h2 F0 a b li (sortL (puts (l.reverse.take k)))) => I.put _ h2 F0 a b li _ yr W hq (sorted_puts _) (sright _) HM.out HLi.out (Nat.le_trans (slen _) (Nat.le_trans (hlen2 _) (by omega))))
      rw [(sort_next hy2).2.2] at QQ
      have HY := Lib.hid hy
      obtain ⟨r, hr⟩ : ∃ r : Nat, n - 1 - k = r := ⟨_, rfl⟩
      rw [hr] at HY
      have hrn : (r : Int) < (n : Int) := by omega
      have hrc : (r : Int) < (c : Int) := by omega
      have q1 : (n : Int) - 1 - (k : Int) = (r : Int) := by omega
      clear hx hc hlen hlen2 hy hy2 hr
      obtain ⟨xm, xs, xt⟩ := xr
      obtain ⟨ym, ys, yt⟩ := yr
      unfold rval at PP QQ
      simp only at PP QQ e0 e1 e2
      go_wp2_with fail
      refine PP.out.mono ?_
      rintro e w3 ⟨rfl, hh⟩
      obtain ⟨F3, hp3, hq3, hd3, ht3⟩ := sideX I hh HQ.out HD.out
      have HB3 := Lib.hid (ht3.below HB.out HB.out.size (fun i hi => (I.foot HP.out hi).1))
      have HP3 := Lib.hid hp3
      have HQ3 := Lib.hid hq3
      have HD3 := Lib.hid hd3
      clear hh hp3 hq3 hd3 ht3 e0 e1 e2 HP HQ HD HB PP
      go_wp2_with fail
      refine (SS.out _ _ HP3.out).mono ?_
      rintro e w4 ⟨rfl, hh⟩
      obtain ⟨F4, hp4, hq4, hd4, ht4⟩ := sideX I hh HQ3.out HD3.out
      have HB4 := Lib.hid (ht4.below HB3.out HB3.out.size (fun i hi => (I.foot HP3.out hi).1))
      have HP4 := Lib.hid hp4
      have HQ4 := Lib.hid hq4
      have HD4 := Lib.hid (show ∀ j, F' j → ¬ F4 j from fun j h1 h2 => hd4 j h2 h1)
      clear hh hp4 hq4 hd4 ht4 HP3 HQ3 HD3 HB3 SS
      obtain ⟨_, _, e, hc⟩ := (A0.out.keep rcells_len HB4.out).2 (Nat.lt_of_le_of_lt (Nat.zero_le _) hlt)
      cases e
      have e0 : w4.cell? ⟨bk, o + r * 3, none⟩ = some (.int .i64 ym) := hc r _ HY.out 0 (by decide)
      have e1 : w4.cell? ⟨bk, o + r * 3 + 1, none⟩ = some (.int .i64 ys) := hc r _ HY.out 1 (by decide)
      have e2 : w4.cell? ⟨bk, o + r * 3 + 2, none⟩ = some (.int .i64 yt) := hc r _ HY.out 2 (by decide)
      clear hc
      go_wp2_with fail
      refine (QQ.out _ _ HQ4.out).mono ?_
      rintro e w5 ⟨rfl, hh⟩
      obtain ⟨F5, hq5, hp5, hd5, ht5⟩ := sideX I hh HP4.out HD4.out
      have HB5 := Lib.hid (ht5.below HB4.out HB4.out.size (fun i hi => Nat.le_trans Z1.out (I.foot HQ4.out hi).1))
      have HP5 := Lib.hid hp5
      have HQ5 := Lib.hid hq5
      have HD5 := Lib.hid (show ∀ j, F4 j → ¬ F5 j from fun j h1 h2 => hd5 j h2 h1)
      clear hh hp5 hq5 hd5 ht5 e0 e1 e2 HP4 HQ4 HD4 HB4 QQ HY
      go_wp2
      go_roundw
      case rel => exact ⟨k + 1, F4, F5, by omega, by go_num, HP5, HQ5, HD5, HB5⟩
      case measure => simp [intOf]; omega
    · obtain rfl : k = n := by omega
      have hT : l.take k = l := List.take_of_length_le (by rw [HL.out]; exact Nat.le_refl _)
      have hT2 : l.reverse.take k = l.reverse := List.take_of_length_le (by rw [List.length_reverse, HL.out]; exact Nat.le_refl _)
      rw [hT] at HP
      rw [hT2, like_sort (puts_apart _) (puts_apart _) (puts_like fun x => List.mem_reverse)] at HQ
      have hs := sorted_puts l
      have hsr := sright l
      have hsl : (sortL (puts l)).length ≤ 100 := Nat.le_trans (slen l) (by rw [HL.out]; omega)
      generalize sortL (puts l) = S at *
      have KR := Lib.hid (fun W (hp : I.IX W w0.heap.size h F a b li S) => I.ser _ h F a b li S W hp hs hsr HM.out HLi.out (by omega))
      have KS := Lib.hid (fun B h' F0 W (hp : PSF W B h' F0 a b S) => I.ssum B h' F0 a b li S A Bq W hp hs hsr HM.out HLi.out (by omega) (by omega) (by omega) (by omega) (by omega))
      have K1 := Lib.hid (fun F0 W (hp : I.IX W w0.heap.size h F0 a b li S) => I.sum _ h F0 a b li S A Bq W hp hs hsr HM.out HLi.out (by omega) (by omega) (by omega) (by omega) (by omega))
      have K2 := Lib.hid (fun F0 W (hp : I.IX W w1.heap.size h2 F0 a b li S) => I.sum _ h2 F0 a b li S A Bq W hp hs hsr HM.out HLi.out (by omega) (by omega) (by omega) (by omega) (by omega))
      have K3 := Lib.hid (fun F0 W (hp : I.IX W w0.heap.size h F0 a b li S) => I.sum _ h F0 a b li S Bq A W hp hs hsr HM.out HLi.out (by omega) (by omega) (by omega) (by omega) (by omega))
      rw [tot_none (.inl (by omega))] at K3
      generalize tot a b li S A Bq = U at *
      clear hT hT2 hs hsr
      go_wp2_with fail
      have X2 := T0.out.2.1.below HB.out T0.out.2.1.lt
      have d2 : wr.cell? ⟨w.heap.size, 2, none⟩ = some (.int .i64 li) := X2.cell 2
      have l2 := X2.lt
      have HPd := Lib.hid (I.turn HP.out (T := fun _ => False) ((Turn.refl _ wr).drew) (fun _ _ hf => hf))
      clear X2
      go_region_held3 (fun w' => w'.cell? ⟨w.heap.size, 2, none⟩ = some (.int .i64 li))
        (first | go_keep | exact d4 | exact d3 | exact d2)
        (first | (go_at_call 14; ((with_reducible refine (KR.out _ HPd.out).mono ?_); rintro E w3 ⟨h3, F3, rfl, hq3, hb3⟩; have Q3 := Lib.hid hq3; have d3 := (hb3.cell (p := ⟨w.heap.size, 2, none⟩) l2).trans d2; have l3 := Nat.lt_of_lt_of_le l2 hb3.size)) | (go_at_call 18; ((with_reducible refine (KS.out _ h3 F3 _ Q3.out).mono ?_); rintro E w4 ⟨rfl, hb4⟩; have d4 := (hb4.cell (p := ⟨w.heap.size, 2, none⟩) l3).trans d3)))
      all_goals
        have B4 : Below wr.heap.size wr w4 := ((Below.refl _ wr).drew.trans hb3).trans (hb4.mono hb3.size)
        have HB4 := Lib.hid (HB.out.trans (B4.mono HB.out.size))
        have HP4 := Lib.hid (I.keep HP.out B4)
        have HQ4 := Lib.hid (I.keep HQ.out B4)
        clear B4 hb3 hb4 d2 d3 d4 hq3 Q3 KR KS HP HQ HPd HB
        go_wp2_with fail
        refine (xalive_any I _).mono ?_
        rintro e w5 ⟨rfl, hb⟩
        have HB5 := Lib.hid (HB4.out.trans (hb.mono HB4.out.size))
        have HP5 := Lib.hid (I.keep HP4.out hb)
        have HQ5 := Lib.hid (I.keep HQ4.out hb)
        clear hb HP4 HQ4 HB4
        go_wp2_with fail
        refine (K1.out _ _ HP5.out).mono ?_
        rintro e w6 ⟨rfl, hh⟩
        obtain ⟨F6, hp6, hq6, hd6, ht6⟩ := sideX I hh HQ5.out HD.out
        have HB6 := Lib.hid (ht6.below HB5.out HB5.out.size (fun i hi => (I.foot HP5.out hi).1))
        have HP6 := Lib.hid hp6
        have HQ6 := Lib.hid hq6
        have HD6 := Lib.hid (show ∀ j, F' j → ¬ F6 j from fun j h1 h2 => hd6 j h2 h1)
        clear hh hp6 hq6 hd6 ht6 HP5 HQ5 HD HB5 K1
        go_wp2_with fail
        refine (K2.out _ _ HQ6.out).mono ?_
        rintro e w7 ⟨rfl, hh⟩
        obtain ⟨F7, hq7, hp7, hd7, ht7⟩ := sideX I hh HP6.out HD6.out
        have HB7 := Lib.hid (ht7.below HB6.out HB6.out.size (fun i hi => Nat.le_trans Z1.out (I.foot HQ6.out hi).1))
        have HP7 := Lib.hid hp7
        clear hh hp7 hq7 hd7 ht7 HP6 HQ6 HD6 HB6 K2
        go_wp2_with fail
        refine (K3.out _ _ HP7.out).mono ?_
        rintro e w8 ⟨rfl, F8, hp8, ht8, _⟩
        have HB8 := Lib.hid (ht8.below HB7.out HB7.out.size (fun i hi => (I.foot HP7.out hi).1))
        clear hp8 ht8 HP7 HB7 K3
        go_wp2
        go_ret
        exact ⟨rfl, T0.out.1.trans (HB8.out.mono T0.out.1.size)⟩
end Ex
end Go.Proofs.Ytfmnbmjfkplieaa
