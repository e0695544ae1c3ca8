/- The walk over the law that sums add up: where nothing is asked of the readings. Conditions: the contracts of package excess. -/
import Derived.Test.YtfmnbmjfkplieaaExL2
namespace Go.Proofs.Ytfmnbmjfkplieaa
open Go.RowKit Se

namespace Ex
set_option maxRecDepth 100000 in
set_option maxHeartbeats 4000000 in
theorem added_no (I : Face) (a b li : Int) (p : Option Addr) (n c : Nat) (x y z : Int) (w : World) (hm : (mayB a b && tenB li) = false) :
    Calls Try.prog 4 #[.agg #[.int .i64 a, .int .i64 b, .int .i64 li], .slice p n c, .agg #[.int .u32 x, .int .u32 y, .int .u32 z]] w fun e w' => e = .returned (.bool true) ∧ Below w.heap.size w w' := by
  have N := Lib.hid (fun W => I.new_no a b li W hm)
  have T0 := Lib.hid (two_boxes w #[.int .i64 a, .int .i64 b, .int .i64 li] #[.int .u32 x, .int .u32 y, .int .u32 z] 22 47)
  clear hm
  go_enter Try.func4, Try.ntmps4
  go_wp2_with fail
  refine (N.out _).mono ?_
  rintro e w1 ⟨rfl, hb⟩
  have B1 := Lib.hid (T0.out.1.trans (hb.mono T0.out.1.size))
  clear hb
  go_wp2_with fail
  refine (xalive_any I _).mono ?_
  rintro e w3 ⟨rfl, hb⟩
  have B3 := Lib.hid (B1.out.trans (hb.mono B1.out.size))
  clear hb
  go_wp2
  go_ret
  exact ⟨rfl, B3.out⟩
set_option maxRecDepth 100000 in
set_option maxHeartbeats 4000000 in
theorem added_long (I : Face) (a b li : Int) (p : Option Addr) (n c : Nat) (x y z : Int) (w : World) (hm : mayB a b = true) (hl : tenB li = true) (hn : 60 < n) (hbig : n ≤ 9223372036854775807) :
    Calls Try.prog 4 #[.agg #[.int .i64 a, .int .i64 b, .int .i64 li], .slice p n c, .agg #[.int .u32 x, .int .u32 y, .int .u32 z]] w fun e w' => e = .returned (.bool true) ∧ Below w.heap.size w w' := by
  have h1 : (60 : Int) < (n : Int) := by omega
  have N := Lib.hid (fun W => I.new_yes a b li W hm hl)
  have T0 := Lib.hid (two_boxes w #[.int .i64 a, .int .i64 b, .int .i64 li] #[.int .u32 x, .int .u32 y, .int .u32 z] 22 47)
  clear hm hl
  go_enter Try.func4, Try.ntmps4
  go_wp2_with fail
  refine (N.out _).mono ?_
  rintro e w1 ⟨h, F, rfl, _, hb⟩
  have B1 := Lib.hid (T0.out.1.trans (hb.mono T0.out.1.size))
  clear hb
  go_wp2_with fail
  refine (xalive_any I _).mono ?_
  rintro e w3 ⟨rfl, hb⟩
  have B3 := Lib.hid (B1.out.trans (hb.mono B1.out.size))
  clear hb
  go_wp2
  go_ret
  exact ⟨rfl, B3.out⟩
/-- An index and a series, side by side: the index is written. -/
theorem sideS (I : Face) {w w' : World} {B h B2 h2 : Nat} {F F2 : Nat → Prop} {wo ga li : Int} {S' T : List Rd} (h0 : ∃ F', I.IX w' B h F' wo ga li S' ∧ Turn F w w' ∧ ∀ k, F' k → F k ∨ w.heap.size ≤ k) (hq : PSF w B2 h2 F2 wo ga T) (hd : ∀ k, F k → ¬ F2 k) :
    ∃ F', I.IX w' B h F' wo ga li S' ∧ PSF w' B2 h2 F2 wo ga T ∧ (∀ k, F' k → ¬ F2 k) ∧ Turn F w w' := by
  obtain ⟨F', hp, ht, hF⟩ := h0
  exact ⟨F', hp, face.turn hq ht (fun k hk hf => hd k hf hk), fun k hk hf => by
    rcases hF k hk with h1 | h1
    · exact hd k h1 hf
    · have := (face.foot hq hf).2
      omega, ht⟩
theorem high_ten {li t : Int} (h : tenB li = true) (h0 : 0 ≤ t) : tenB (min (li + t) 1099511627776) = true := by
  have h' : -1099511627776 ≤ li ∧ li ≤ 1099511627776 := by simpa [tenB] using h
  simp only [tenB, decide_eq_true_eq]
  omega
/-- A reading that is there, with greater tenths: no sum is less. -/
theorem tot_more {S : List Rd} (hs : Sorted S) (hr : ∀ x ∈ S, rightB x = true) {x : Rd} {j : Nat} (hx : S[j]? = some x) {t : Int} (h0 : 0 ≤ t) (wo ga li a b : Int) :
    tot wo ga li S a b ≤ tot wo ga li (sortL (putR S ⟨x.min, x.seq, min (x.ten + t) 1099511627776⟩).2.2) a b := by
  have hxr := right_of (hr x (List.mem_of_getElem? hx))
  have hrr : rightB ⟨x.min, x.seq, min (x.ten + t) 1099511627776⟩ = true := by
    simp only [rightB, decide_eq_true_eq]
    omega
  rw [putR_yes S hrr, tot_like (put_apart (sorted_apart hs) _) (like_sorted _)]
  exact tot_warm (sorted_apart hs) (warm_put hs hx) li a b
set_option maxRecDepth 100000 in
set_option maxHeartbeats 16000000 in
theorem added_yes (I : Face) (a b li : Int) (p : Option Addr) (n c : Nat) (l : List Rd) (x y z : Nat) (w : World) (hm : mayB a b = true) (hl : tenB li = true) (hn : n ≤ 60) (hnc : n ≤ c) (hA : Rw 3 rcells w p n l) (hx : U32 x) (hy : U32 y) (hz : U32 z) :
    Calls Try.prog 4 #[.agg #[.int .i64 a, .int .i64 b, .int .i64 li], .slice p n c, .agg #[.int .u32 (x : Int), .int .u32 (y : Int), .int .u32 (z : Int)]] w fun e w' => e = .returned (.bool true) ∧ Below w.heap.size w w' := by
  have h1 : (n : Int) ≤ 60 := by omega
  have t60 : decide ((60 : Int) < (n : Int)) = false := by simp; omega
  have N := Lib.hid (fun W => I.new_yes a b li W hm hl)
  have HM := Lib.hid hm
  have HLi := Lib.hid hl
  have T0 := Lib.hid (two_boxes w #[.int .i64 a, .int .i64 b, .int .i64 li] #[.int .u32 (x : Int), .int .u32 (y : Int), .int .u32 (z : Int)] 22 47)
  have A0 := Lib.hid (hA.keep rcells_len T0.out.1)
  have HL := Lib.hid hA.1
  clear hm hl hA
  obtain ⟨A, hA1⟩ : ∃ A : Int, A = (x : Int) := ⟨_, rfl⟩
  obtain ⟨Bq, hB1⟩ : ∃ Bq : Int, Bq = (x : Int) + (y : Int) := ⟨_, rfl⟩
  obtain ⟨Cq, hC1⟩ : ∃ Cq : Int, Cq = (x : Int) + (y : Int) + (z : Int) := ⟨_, rfl⟩
  have HAB := Lib.hid (show 0 ≤ A ∧ A ≤ Bq ∧ Bq ≤ Cq ∧ Cq ≤ 17179869184 from ⟨by omega, by omega, by omega, by have := u32_lt hx; have := u32_lt hy; have := u32_lt hz; omega⟩)
  have QX := Lib.hid (show wrap64 (x : Int) = A by rw [hA1]; exact IntWalk.wrap64_in _ (by have := u32_lt hx; omega))
  have QY := Lib.hid (show wrap64 (y : Int) = (y : Int) from IntWalk.wrap64_in _ (by have := u32_lt hy; omega))
  have QZ := Lib.hid (show wrap64 (z : Int) = (z : Int) from IntWalk.wrap64_in _ (by have := u32_lt hz; omega))
  have QS := Lib.hid (show wrap64 (A + (y : Int)) = Bq by rw [hA1, IntWalk.wrap64_in _ (by have := u32_lt hx; have := u32_lt hy; omega), hB1])
  have QT := Lib.hid (show wrap64 (Bq + (z : Int)) = Cq by rw [hB1, IntWalk.wrap64_in _ (by have := u32_lt hx; have := u32_lt hy; have := u32_lt hz; omega), hC1])
  clear hA1 hB1 hC1 hx hy hz
  go_enter Try.func4, Try.ntmps4
  go_wp2_with fail
  refine (N.out _).mono ?_
  rintro e w1 ⟨h, F1, rfl, hp, hb⟩
  have P1 := Lib.hid hp
  have B1 := Lib.hid hb
  clear hb hp N
  obtain ⟨w0, hw0⟩ : ∃ w0, (w.alloc (.cells #[.int .i64 a, .int .i64 b, .int .i64 li] 22)).alloc (.cells #[.int .u32 (x : Int), .int .u32 (y : Int), .int .u32 (z : Int)] 47) = w0 := ⟨_, rfl⟩
  rw [hw0] at T0 A0 P1 B1
  clear hw0
  go_wp2_with fail
  go_loopw [9] (fun i wr => ∃ (k : Nat) (F : Nat → Prop), k ≤ n ∧ i = .int .i64 k ∧ Hid (I.IX wr w0.heap.size h F a b li (sortL (puts (l.take k)))) ∧ Hid (Below w0.heap.size w0 wr)) (fun i _ => n - (intOf i).toNat)
  case atStart => exact ⟨0, F1, Nat.zero_le _, rfl, P1, B1⟩
  case round =>
    clear P1 B1
    obtain ⟨k, F, hk, rfl, HP, HB⟩ := hrel
    by_cases hlt : k < n
    · obtain ⟨xr, hx⟩ : ∃ x, l[k]? = some x := ⟨_, List.getElem?_eq_getElem (by rw [HL.out]; exact hlt)⟩
      obtain ⟨bk, o, rfl, hc⟩ := (A0.out.keep rcells_len HB.out).2 (Nat.lt_of_le_of_lt (Nat.zero_le _) hlt)
      have e0 : wr.cell? ⟨bk, o + k * 3, none⟩ = some (.int .i64 xr.min) := hc k xr hx 0 (by decide)
      have e1 : wr.cell? ⟨bk, o + k * 3 + 1, none⟩ = some (.int .i64 xr.seq) := hc k xr hx 1 (by decide)
      have e2 : wr.cell? ⟨bk, o + k * 3 + 2, none⟩ = some (.int .i64 xr.ten) := hc k xr hx 2 (by decide)
      have hk3 : (k : Int) < (n : Int) := by omega
      have hkc : (k : Int) < (c : Int) := by omega
      have hlen : ∀ j, (l.take j).length ≤ 100 := fun j => by rw [List.length_take, HL.out]; omega
      have PP := Lib.hid (I.put _ h F a b li _ xr wr HP.out (sorted_puts _) (sright _) HM.out HLi.out (Nat.le_trans (slen _) (Nat.le_trans (hlen _) (by omega))))
      rw [(sort_next hx).2.2] at PP
      clear hx hc hlen
      obtain ⟨xm, xs, xt⟩ := xr
      unfold rval at PP
      simp only at PP e0 e1 e2
      go_wp2_with fail
      refine PP.out.mono ?_
      rintro e w3 ⟨rfl, F3, hp3, ht3, _⟩
      have HB3 := Lib.hid (ht3.below HB.out HB.out.size (fun i hi => (I.foot HP.out hi).1))
      have HP3 := Lib.hid hp3
      clear hp3 ht3 e0 e1 e2 HP HB PP
      go_wp2
      go_roundw
      case rel => exact ⟨k + 1, F3, by omega, by go_num, HP3, HB3⟩
      case measure => simp [intOf]; omega
    · obtain rfl : k = n := by omega
      have hT : l.take k = l := List.take_of_length_le (by rw [HL.out]; exact Nat.le_refl _)
      rw [hT] at HP
      have hs := sorted_puts l
      have hsr := sright l
      have hsl : (sortL (puts l)).length ≤ 100 := Nat.le_trans (slen l) (by rw [HL.out]; omega)
      generalize sortL (puts l) = S at *
      obtain ⟨ab1, ab2, ab3, ab4⟩ := HAB.out
      have HSL := Lib.hid hsl
      have HS := Lib.hid hs
      have HSR := Lib.hid hsr
      have K1 := Lib.hid (fun F0 W (hp : I.IX W w0.heap.size h F0 a b li S) => I.sum _ h F0 a b li S A Cq W hp hs hsr HM.out HLi.out (by omega) (by omega) (by omega) (by omega) (by omega))
      have K2 := Lib.hid (fun F0 W (hp : I.IX W w0.heap.size h F0 a b li S) => I.sum _ h F0 a b li S A Bq W hp hs hsr HM.out HLi.out (by omega) (by omega) (by omega) (by omega) (by omega))
      have K3 := Lib.hid (fun F0 W (hp : I.IX W w0.heap.size h F0 a b li S) => I.sum _ h F0 a b li S Bq Cq W hp hs hsr HM.out HLi.out (by omega) (by omega) (by omega) (by omega) (by omega))
      have KR := Lib.hid (fun F0 W (hp : I.IX W w0.heap.size h F0 a b li S) => I.ser _ h F0 a b li S W hp hs hsr HM.out HLi.out (by omega))
      have TA := tot_add a b li S ab2 ab3
      have TB1 := tot_bd HM.out hsr HLi.out A Bq
      have TB2 := tot_bd HM.out hsr HLi.out Bq Cq
      have TB3 := tot_bd HM.out hsr HLi.out A Cq
      have TM := Lib.hid (fun xr j (hx : S[j]? = some xr) t (h0 : 0 ≤ t) => tot_more hs hsr hx (t := t) h0 a b li A Cq)
      have TL := Lib.hid (fun t (hh : li ≤ t) => tot_lim hh a b S A Cq)
      have y0 : wr.cell? ⟨w.heap.size + 1, 0, none⟩ = some (.int .u32 (x : Int)) := (T0.out.2.2.below HB.out T0.out.2.2.lt).cell 0
      have y1 : wr.cell? ⟨w.heap.size + 1, 1, none⟩ = some (.int .u32 (y : Int)) := (T0.out.2.2.below HB.out T0.out.2.2.lt).cell 1
      have y2 : wr.cell? ⟨w.heap.size + 1, 2, none⟩ = some (.int .u32 (z : Int)) := (T0.out.2.2.below HB.out T0.out.2.2.lt).cell 2
      clear hT hs hsr
      go_wp2_with fail
      rw [QX.out, QY.out, QS.out, QZ.out, QT.out]
      generalize hUe : tot a b li S A Cq = U at *
      have HUE := Lib.hid hUe
      clear hUe
      generalize tot a b li S A Bq = V at *
      generalize tot a b li S Bq Cq = X at *
      have TAn := Lib.hid TA
      clear TA
      refine (K1.out _ _ HP.out).mono ?_
      rintro e w2 ⟨rfl, F2, hp, ht, _⟩
      have P2 := Lib.hid hp
      have B2 := Lib.hid (ht.below HB.out HB.out.size (fun i hi => (I.foot HP.out hi).1))
      clear hp ht HP HB y0 y1 y2
      go_wp2_with fail
      refine (K2.out _ _ P2.out).mono ?_
      rintro e w3 ⟨rfl, F3, hp, ht, _⟩
      have P3 := Lib.hid hp
      have B3 := Lib.hid (ht.below B2.out B2.out.size (fun i hi => (I.foot P2.out hi).1))
      clear hp ht P2 B2 K2
      go_wp2_with fail
      refine (K3.out _ _ P3.out).mono ?_
      rintro e w4 ⟨rfl, F4, hp, ht, _⟩
      have P4 := Lib.hid hp
      have B4 := Lib.hid (ht.below B3.out B3.out.size (fun i hi => (I.foot P3.out hi).1))
      clear hp ht P3 B3 K3
      obtain ⟨v1, v2⟩ := TB1
      obtain ⟨u1, u2⟩ := TB2
      obtain ⟨s1, s2⟩ := TB3
      have TA := TAn.out
      have k1 : decide (U < 0) = false := by simp; omega
      have k2 : decide ((4611686018427387904 : Int) < U) = false := by simp; omega
      have k3 : decide (U < V) = false := by simp; omega
      have k4 : decide (U < X) = false := by simp; omega
      have k5 : decide (U < 4611686018427387904) = true := by simp; omega
      have k6 : (V + X != U) = false := by simp; omega
      clear TA
      go_wp2_with fail
      refine (KR.out _ _ P4.out).mono ?_
      rintro e w5 ⟨h3, F5, rfl, hq, hb⟩
      have Q5 := Lib.hid hq
      have P5 := Lib.hid (I.keep P4.out hb)
      have B5 := Lib.hid (B4.out.trans (hb.mono B4.out.size))
      have DD := Lib.hid (show ∀ k, F4 k → ¬ F5 k from fun k hk hk2 => by
        have a1 := (I.foot P4.out hk).2
        have a2 := (face.foot hq hk2).1
        omega)
      have KT := Lib.hid (face.told _ h3 F5 a b S w5 hq HS.out (by have := HSL.out; omega))
      clear hq hb P4 B4 KR k1 k2 k3 k4 k5 k6 v1 v2 u1 u2
      go_wp2_with fail
      refine KT.out.mono ?_
      rintro e w6 ⟨va, rfl, ho, hb⟩
      obtain ⟨qa, da, rfl, hda, hRa⟩ := rw_own rcells_len ho
      have Q6 := Lib.hid (face.keep Q5.out hb)
      have P6 := Lib.hid (I.keep P5.out hb)
      have B6 := Lib.hid (B5.out.trans (hb.mono B5.out.size))
      have RA := Lib.hid hRa
      have HDA := Lib.hid hda
      clear ho hb hRa hda Q5 P5 B5 KT
      obtain ⟨li1, li2⟩ : -1099511627776 ≤ li ∧ li ≤ 1099511627776 := by simpa [tenB] using HLi.out
      have c1 : 0 ≤ Cq % 100 := by omega
      have c2 : Cq % 100 < 100 := by omega
      have SH := Lib.hid (fun B0 W (hp : PSF W B0 h3 F5 a b S) => (I.ssum B0 h3 F5 a b (min (li + Cq % 100) 1099511627776) S A Cq W hp HS.out HSR.out HM.out (high_ten HLi.out c1) (by have := HSL.out; omega) (by omega) (by omega) (by omega) (by omega)))
      have SL := Lib.hid (fun B0 W (hp : PSF W B0 h3 F5 a b S) => (I.ssum B0 h3 F5 a b li S A Cq W hp HS.out HSR.out HM.out HLi.out (by have := HSL.out; omega) (by omega) (by omega) (by omega) (by omega)))
      rw [HUE.out] at SL
      have TH := TL.out (min (li + Cq % 100) 1099511627776) (by omega)
      have TMn := Lib.hid TH
      clear TH
      have LS := Lib.hid (show S.length ≤ 100 from HSL.out)
      by_cases hS0 : S.length = 0
      · have t0 : decide (0 < S.length) = false := decide_eq_false (by omega)
        have x2 : w6.cell? ⟨w.heap.size, 2, none⟩ = some (.int .i64 li) := (T0.out.2.1.below B6.out T0.out.2.1.lt).cell 2
        have BB := Lib.hid B6.out
        have PP := Lib.hid P6.out
        have QQ := Lib.hid Q6.out
        have E1 := Lib.hid hS0
        clear B6 P6 Q6 RA HDA hS0 s1 s2 TM
        generalize hhi : tot a b (min (li + Cq % 100) 1099511627776) S A Cq = UH at *
        have HU := TMn.out
        clear hhi
        generalize hfh : min (li + Cq % 100) 1099511627776 = hi at *
        have r1 : decide (UH ≤ U) = true := by simpa using HU
        have HUn := Lib.hid HU
        clear HU
        go_wp2_with fail
        refine (xalive_any I _).mono ?_
        rintro e w8 ⟨rfl, hb⟩
        have B8 := Lib.hid (BB.out.trans (hb.mono BB.out.size))
        have P8 := Lib.hid (I.keep PP.out hb)
        have Q8 := Lib.hid (face.keep QQ.out hb)
        clear hb PP QQ BB x2
        go_wp2_with fail
        refine (K1.out _ _ P8.out).mono ?_
        rintro e w9 ⟨rfl, hh⟩
        obtain ⟨F9, hp9, hq9, _, ht9⟩ := sideS I hh Q8.out DD.out
        have B9 := Lib.hid (ht9.below B8.out B8.out.size (fun i hi => (I.foot P8.out hi).1))
        have Q9 := Lib.hid hq9
        clear hh hp9 hq9 ht9 P8 Q8 B8 K1 DD
        go_wp2_with fail
        refine (SH.out _ _ Q9.out).mono ?_
        rintro e w10 ⟨rfl, hb⟩
        have B10 := Lib.hid (B9.out.trans (hb.mono B9.out.size))
        have Q10 := Lib.hid (face.keep Q9.out hb)
        have z2 : w10.cell? ⟨w.heap.size, 2, none⟩ = some (.int .i64 li) := (T0.out.2.1.below B10.out T0.out.2.1.lt).cell 2
        clear hb Q9 B9 SH
        go_wp2_with fail
        refine (SL.out _ _ Q10.out).mono ?_
        rintro e w11 ⟨rfl, hb⟩
        have B11 := Lib.hid (B10.out.trans (hb.mono B10.out.size))
        clear hb Q10 B10 z2 SL
        go_wp2
        go_ret
        exact ⟨rfl, T0.out.1.trans (B11.out.mono T0.out.1.size)⟩
      · have hSp : 0 < S.length := by omega
        obtain ⟨j, hj, hjl⟩ : ∃ j : Nat, A % (S.length : Int) = (j : Int) ∧ j < S.length := by
          have e1 := Int.emod_nonneg A (show (S.length : Int) ≠ 0 by omega)
          have e2 := Int.emod_lt_of_pos A (show (0 : Int) < (S.length : Int) by omega)
          exact ⟨(A % (S.length : Int)).toNat, by omega, by omega⟩
        obtain ⟨xr, hx⟩ : ∃ x, S[j]? = some x := ⟨_, List.getElem?_eq_getElem hjl⟩
        have hb0 : 0 ≤ Bq % 100 := by omega
        have hb1 : Bq % 100 < 100 := by omega
        have hrx := right_of (HSR.out xr (List.mem_of_getElem? hx))
        have MU := Lib.hid (TM.out xr j hx (Bq % 100) hb0)
        have hrr : rightB ⟨xr.min, xr.seq, min (xr.ten + Bq % 100) 1099511627776⟩ = true := by
          simp only [rightB, decide_eq_true_eq]
          omega
        have PU := Lib.hid (fun F0 W (hp : I.IX W w0.heap.size h F0 a b li S) => I.put _ h F0 a b li S ⟨xr.min, xr.seq, min (xr.ten + Bq % 100) 1099511627776⟩ W hp HS.out HSR.out HM.out HLi.out (by have := LS.out; omega))
        have hs2 : Sorted (sortL (putR S ⟨xr.min, xr.seq, min (xr.ten + Bq % 100) 1099511627776⟩).2.2) := by
          rw [putR_yes S hrr]
          exact sorted_sort (put_apart (sorted_apart HS.out) _)
        have hr2 : ∀ x ∈ sortL (putR S ⟨xr.min, xr.seq, min (xr.ten + Bq % 100) 1099511627776⟩).2.2, rightB x = true := fun x hx => by
          rw [putR_yes S hrr, mem_sort] at hx
          exact put_right HSR.out hrr x hx
        have hl2 : (sortL (putR S ⟨xr.min, xr.seq, min (xr.ten + Bq % 100) 1099511627776⟩).2.2).length ≤ 1000 := by
          rw [putR_yes S hrr, len_sort]
          have := put_len S ⟨xr.min, xr.seq, min (xr.ten + Bq % 100) 1099511627776⟩
          have := LS.out
          omega
        obtain ⟨S2, hS2⟩ : ∃ S2, sortL (putR S ⟨xr.min, xr.seq, min (xr.ten + Bq % 100) 1099511627776⟩).2.2 = S2 := ⟨_, rfl⟩
        rw [hS2] at hs2 hr2 hl2 MU
        have K4 := Lib.hid (fun F0 W (hp : I.IX W w0.heap.size h F0 a b li S2) => I.sum _ h F0 a b li S2 A Cq W hp hs2 hr2 HM.out HLi.out hl2 (by omega) (by omega) (by omega) (by omega))
        generalize hU2 : tot a b li S2 A Cq = U2 at *
        clear hU2
        simp only [hS2] at PU
        have MU2 := MU.out
        have HMU := Lib.hid MU2
        have r2 : decide (U ≤ U2) = true := by simpa using MU2
        obtain ⟨bk, o, rfl, hc⟩ := RA.out.2 hSp
        have e0 : w6.cell? ⟨bk, o + j * 3, none⟩ = some (.int .i64 xr.min) := hc j xr hx 0 (by decide)
        have e1 : w6.cell? ⟨bk, o + j * 3 + 1, none⟩ = some (.int .i64 xr.seq) := hc j xr hx 1 (by decide)
        have e2 : w6.cell? ⟨bk, o + j * 3 + 2, none⟩ = some (.int .i64 xr.ten) := hc j xr hx 2 (by decide)
        have hj1 : (j : Int) < (S.length : Int) := by omega
        have hj2 : (j : Int) < (da : Int) := by have := HDA.out; omega
        have hS3 : (0 : Int) < (S.length : Int) := by omega
        have hS4 : ((S.length : Int) == 0) = false := beq_eq_false_iff_ne.2 (by omega)
        have t0 : decide (0 < S.length) = true := decide_eq_true hSp
        clear hc hx hrr hs2 hr2 hl2 hS2 MU MU2 RA TM K1 hS0 hSp hjl
        obtain ⟨xm, xs, xt⟩ := xr
        simp only at PU e0 e1 e2 hrx
        obtain ⟨hr3, hr4, _⟩ := hrx
        unfold rval at PU
        simp only at PU
        obtain ⟨ls, hls⟩ : ∃ ls, S.length = ls := ⟨_, rfl⟩
        rw [hls] at hj hj1 hS3 hS4 t0 HDA LS HSL ⊢
        clear hls
        go_wp2_with fail
        have BA := Lib.hid (alloc_below w6 (.cells #[.int .i64 xm, .int .i64 xs, .int .i64 (min (xt + Bq % 100) 1099511627776)] 37))
        refine (PU.out _ _ (I.keep P6.out BA.out)).mono ?_
        rintro e w7 ⟨rfl, hh⟩
        obtain ⟨F7, hp7, hq7, hd7, ht7⟩ := sideS I hh (face.keep Q6.out BA.out) DD.out
        have BB := Lib.hid (ht7.below (B6.out.trans (BA.out.mono B6.out.size)) (Nat.le_trans B6.out.size BA.out.size) (fun i hi => (I.foot P6.out hi).1))
        have PP := Lib.hid hp7
        have QQ := Lib.hid hq7
        replace DD := Lib.hid hd7
        have x2 : w7.cell? ⟨w.heap.size, 2, none⟩ = some (.int .i64 li) := (T0.out.2.1.below BB.out T0.out.2.1.lt).cell 2
        clear hh hp7 hq7 hd7 ht7 BA B6 P6 Q6 PU e0 e1 e2 hj hj1 hj2 hS3 hS4 t0 HDA hr3 hr4 hb0 hb1 s1 s2
        generalize hhi : tot a b (min (li + Cq % 100) 1099511627776) S A Cq = UH at *
        have HU := TMn.out
        clear hhi
        generalize hfh : min (li + Cq % 100) 1099511627776 = hi at *
        have r1 : decide (UH ≤ U) = true := by simpa using HU
        have HUn := Lib.hid HU
        clear HU
        go_wp2_with fail
        refine (xalive_any I _).mono ?_
        rintro e w8 ⟨rfl, hb⟩
        have B8 := Lib.hid (BB.out.trans (hb.mono BB.out.size))
        have P8 := Lib.hid (I.keep PP.out hb)
        have Q8 := Lib.hid (face.keep QQ.out hb)
        clear hb PP QQ BB x2
        go_wp2_with fail
        refine (K4.out _ _ P8.out).mono ?_
        rintro e w9 ⟨rfl, hh⟩
        obtain ⟨F9, hp9, hq9, _, ht9⟩ := sideS I hh Q8.out DD.out
        have B9 := Lib.hid (ht9.below B8.out B8.out.size (fun i hi => (I.foot P8.out hi).1))
        have Q9 := Lib.hid hq9
        clear hh hp9 hq9 ht9 P8 Q8 B8 K4 DD
        go_wp2_with fail
        refine (SH.out _ _ Q9.out).mono ?_
        rintro e w10 ⟨rfl, hb⟩
        have B10 := Lib.hid (B9.out.trans (hb.mono B9.out.size))
        have Q10 := Lib.hid (face.keep Q9.out hb)
        have z2 : w10.cell? ⟨w.heap.size, 2, none⟩ = some (.int .i64 li) := (T0.out.2.1.below B10.out T0.out.2.1.lt).cell 2
        clear hb Q9 B9 SH
        go_wp2_with fail
        refine (SL.out _ _ Q10.out).mono ?_
        rintro e w11 ⟨rfl, hb⟩
        have B11 := Lib.hid (B10.out.trans (hb.mono B10.out.size))
        clear hb Q10 B10 z2 SL
        go_wp2
        go_ret
        exact ⟨rfl, T0.out.1.trans (B11.out.mono T0.out.1.size)⟩
end Ex
end Go.Proofs.Ytfmnbmjfkplieaa
