/- The walk over the law of any order. Conditions: the contracts of package series; the list reads as readings. -/
import Derived.Test.YthlpbkkglaaofaaSeL2
import Derived.Test.YthlpbkkglaaofaaSeOrd
namespace Go.Proofs.Ythlpbkkglaaofaa
open Go.RowKit

namespace Se
set_option maxRecDepth 100000 in
set_option maxHeartbeats 4000000 in
theorem order_no (I : Face) (a b : Int) (p : Option Addr) (n c : Nat) (m : Int) (w : World) (hm : mayB a b = false) :
    Calls Try.prog 4 #[.agg #[.int .i64 a, .int .i64 b], .slice p n c, .int .i64 m] w fun e w' => e = .returned (.bool true) ∧ Below w.heap.size w w' := by
  have N := Lib.hid (fun W => I.new_no a b W hm)
  have B0 := Lib.hid (alloc_below w (.cells #[.int .i64 a, .int .i64 b] 22))
  have X0 := Lib.hid (Lies.new w 22 #[.int .i64 a, .int .i64 b])
  clear hm
  go_enter Try.func4, Try.ntmps4
  go_wp2_with fail
  refine (N.out _).mono ?_
  rintro e w1 ⟨rfl, hb⟩
  have B1 := Lib.hid (B0.out.trans (hb.mono B0.out.size))
  have X1 := X0.out.below hb X0.out.lt
  have x0 : w1.cell? ⟨w.heap.size, 0, none⟩ = some (.int .i64 a) := X1.cell 0
  have x1 : w1.cell? ⟨w.heap.size, 1, none⟩ = some (.int .i64 b) := X1.cell 1
  clear hb X1
  go_wp2_with fail
  refine (N.out _).mono ?_
  rintro e w2 ⟨rfl, hb⟩
  have B2 := Lib.hid (B1.out.trans (hb.mono B1.out.size))
  clear hb x0 x1
  go_wp2_with fail
  refine (alive_any I _).mono ?_
  rintro e w3 ⟨rfl, hb⟩
  have B3 := Lib.hid (B2.out.trans (hb.mono B2.out.size))
  clear hb
  go_wp2
  go_ret
  exact ⟨rfl, B3.out⟩
set_option maxRecDepth 100000 in
set_option maxHeartbeats 4000000 in
theorem order_long (I : Face) (a b : Int) (p : Option Addr) (n c : Nat) (m : Int) (w : World) (hm : mayB a b = true) (hn : 100 < n) (hbig : n ≤ 9223372036854775807) :
    Calls Try.prog 4 #[.agg #[.int .i64 a, .int .i64 b], .slice p n c, .int .i64 m] w fun e w' => e = .returned (.bool true) ∧ Below w.heap.size w w' := by
  have h1 : (100 : Int) < (n : Int) := by omega
  have N := Lib.hid (fun W => I.new_yes a b W hm)
  have B0 := Lib.hid (alloc_below w (.cells #[.int .i64 a, .int .i64 b] 22))
  have X0 := Lib.hid (Lies.new w 22 #[.int .i64 a, .int .i64 b])
  clear hm
  go_enter Try.func4, Try.ntmps4
  go_wp2_with fail
  refine (N.out _).mono ?_
  rintro e w1 ⟨h, F, rfl, _, hb⟩
  have B1 := Lib.hid (B0.out.trans (hb.mono B0.out.size))
  have X1 := X0.out.below hb X0.out.lt
  have x0 : w1.cell? ⟨w.heap.size, 0, none⟩ = some (.int .i64 a) := X1.cell 0
  have x1 : w1.cell? ⟨w.heap.size, 1, none⟩ = some (.int .i64 b) := X1.cell 1
  clear hb X1
  go_wp2_with fail
  refine (N.out _).mono ?_
  rintro e w2 ⟨h2, F2, rfl, _, hb⟩
  have B2 := Lib.hid (B1.out.trans (hb.mono B1.out.size))
  clear hb x0 x1
  go_wp2_with fail
  refine (alive_any I _).mono ?_
  rintro e w3 ⟨rfl, hb⟩
  have B3 := Lib.hid (B2.out.trans (hb.mono B2.out.size))
  clear hb
  go_wp2
  go_ret
  exact ⟨rfl, B3.out⟩
/-- Two series, side by side: one that is written. -/
theorem sideF (I : Face) {w w' : World} {B h B2 h2 : Nat} {F F2 : Nat → Prop} {wo ga : Int} {S' T : List Rd} (h0 : ∃ F', I.PS w' B h F' wo ga S' ∧ Turn F w w' ∧ ∀ k, F' k → F k ∨ w.heap.size ≤ k) (hq : I.PS w B2 h2 F2 wo ga T) (hd : ∀ k, F k → ¬ F2 k) :
    ∃ F', I.PS w' B h F' wo ga S' ∧ I.PS w' B2 h2 F2 wo ga T ∧ (∀ k, F' k → ¬ F2 k) ∧ Turn F w w' := by
  obtain ⟨F', hp, ht, hF⟩ := h0
  exact ⟨F', hp, I.turn hq ht (fun k hk hf => hd k hf hk), fun k hk hf => by
    rcases hF k hk with h1 | h1
    · exact hd k h1 hf
    · have := (I.foot hq hf).2
      omega, ht⟩
theorem twice_len (l : List Rd) : (twice l).length = 2 * l.length := by
  unfold twice
  induction l with
  | nil => rfl
  | cons x l ih =>
    rw [List.flatMap_cons, List.length_append, ih]
    simp
    omega
theorem twice_at (l : List Rd) : ∀ (k : Nat) (x : Rd), l[k]? = some x → (twice l)[2 * k]? = some x ∧ (twice l)[2 * k + 1]? = some x := by
  unfold twice
  induction l with
  | nil =>
    intro k x h
    simp at h
  | cons y l ih =>
    intro k x h
    cases k with
    | zero =>
      simp only [List.getElem?_cons_zero, Option.some.injEq] at h
      subst h
      exact ⟨rfl, rfl⟩
    | succ k =>
      rw [List.getElem?_cons_succ] at h
      obtain ⟨h1, h2⟩ := ih k x h
      rw [List.flatMap_cons]
      refine ⟨?_, ?_⟩
      · rw [show 2 * (k + 1) = (2 * k) + 1 + 1 by omega]
        exact h1
      · rw [show 2 * (k + 1) + 1 = (2 * k + 1) + 1 + 1 by omega]
        exact h2
/-- Whether it is so. -/
def Tell (b : Bool) (P : Prop) : Prop := b = true ↔ P
/-- A reading at that place, that is as great, is among the first ones. -/
def There (S : List Rd) (t : Nat) (x : Rd) : Prop := ∃ (u : Nat) (y : Rd), u < t ∧ S[u]? = some y ∧ y.min = x.min ∧ y.seq = x.seq ∧ x.ten ≤ y.ten
theorem there_zero (S : List Rd) (x : Rd) : ¬ There S 0 x := fun ⟨_, _, h, _⟩ => by omega
theorem there_on {S : List Rd} {t : Nat} {x : Rd} (h : There S t x) : There S (t + 1) x := by
  obtain ⟨u, y, h1, h2⟩ := h
  exact ⟨u, y, by omega, h2⟩
theorem there_yes {S : List Rd} {t : Nat} {x y : Rd} (hy : S[t]? = some y) (h : y.min = x.min ∧ y.seq = x.seq ∧ x.ten ≤ y.ten) : There S (t + 1) x := ⟨t, y, by omega, hy, h⟩
theorem there_no {S : List Rd} {t : Nat} {x y : Rd} (hn : ¬ There S t x) (hy : S[t]? = some y) (h : ¬ (y.min = x.min ∧ y.seq = x.seq ∧ x.ten ≤ y.ten)) : ¬ There S (t + 1) x := by
  rintro ⟨u, z, h1, h2, h3⟩
  by_cases hu : u = t
  · subst hu
    rw [hy] at h2
    cases h2
    exact h h3
  · exact hn ⟨u, z, by omega, h2, h3⟩
/-- A reading is among the first ones that were put. -/
def Among (l : List Rd) (t : Nat) (y : Rd) : Prop := ∃ u : Nat, u < t ∧ l[u]? = some y
theorem among_zero (l : List Rd) (y : Rd) : ¬ Among l 0 y := fun ⟨_, h, _⟩ => by omega
theorem among_on {l : List Rd} {t : Nat} {y : Rd} (h : Among l t y) : Among l (t + 1) y := by
  obtain ⟨u, h1, h2⟩ := h
  exact ⟨u, by omega, h2⟩
theorem among_no {l : List Rd} {t : Nat} {x y : Rd} (hn : ¬ Among l t y) (hx : l[t]? = some x) (h : x ≠ y) : ¬ Among l (t + 1) y := by
  rintro ⟨u, h1, h2⟩
  by_cases hu : u = t
  · subst hu
    rw [hx] at h2
    exact h (Option.some.inj h2)
  · exact hn ⟨u, by omega, h2⟩
set_option maxRecDepth 100000 in
set_option maxHeartbeats 32000000 in
theorem order_yes (I : Face) (a b : Int) (p : Option Addr) (n c : Nat) (m : Int) (l : List Rd) (w : World) (hm : mayB a b = true) (hn : n ≤ 100) (hnc : n ≤ c) (hA : Rw 3 rcells w p n l) (m0 : -9223372036854775808 ≤ m) (m1 : m ≤ 9223372036854775807) :
    Calls Try.prog 4 #[.agg #[.int .i64 a, .int .i64 b], .slice p n c, .int .i64 m] w fun e w' => e = .returned (.bool true) ∧ Below w.heap.size w w' := by
  have h1 : (n : Int) ≤ 100 := by omega
  have t100 : decide ((100 : Int) < (n : Int)) = false := by simp; omega
  have N := Lib.hid (fun W => I.new_yes a b W hm)
  have HM := Lib.hid hm
  have B0 := Lib.hid (alloc_below w (.cells #[.int .i64 a, .int .i64 b] 22))
  have X0 := Lib.hid (Lies.new w 22 #[.int .i64 a, .int .i64 b])
  have A0 := Lib.hid (hA.keep rcells_len B0.out)
  have HL := Lib.hid hA.1
  clear hm hA
  go_enter Try.func4, Try.ntmps4
  go_wp2_with fail
  refine (N.out _).mono ?_
  rintro e w1 ⟨h, F1, rfl, hp, hb⟩
  have P1 := Lib.hid hp
  have B1 := Lib.hid hb
  have X1 := X0.out.below hb X0.out.lt
  have x0 : w1.cell? ⟨w.heap.size, 0, none⟩ = some (.int .i64 a) := X1.cell 0
  have x1 : w1.cell? ⟨w.heap.size, 1, none⟩ = some (.int .i64 b) := X1.cell 1
  clear hb X1 hp X0
  obtain ⟨w0, hw0⟩ : ∃ w0, w.alloc (.cells #[.int .i64 a, .int .i64 b] 22) = w0 := ⟨_, rfl⟩
  rw [hw0] at B0 A0 P1 B1
  clear hw0
  go_wp2_with fail
  refine (N.out _).mono ?_
  rintro e w2 ⟨h2, F2, rfl, hp, hb⟩
  have P2 := Lib.hid (I.keep P1.out hb)
  have Q2 := Lib.hid hp
  have B2 := Lib.hid (B1.out.trans (hb.mono B1.out.size))
  have Z1 := Lib.hid B1.out.size
  have D2 := Lib.hid (show ∀ k, F1 k → ¬ F2 k from fun k hk hk2 => by
    have a1 := (I.foot P1.out hk).2
    have a2 := (I.foot hp hk2).1
    omega)
  clear hb hp x0 x1 P1 B1 N
  go_wp2_with fail
  go_loopw [11] (fun i wr => ∃ (k : Nat) (F F' : Nat → Prop), k ≤ n ∧ i = .int .i64 k ∧ Hid (I.PS wr w0.heap.size h F a b (sortL (puts (l.take k)))) ∧ Hid (I.PS wr w1.heap.size h2 F' a b (sortL (puts ((twice l.reverse).take (2 * k))))) ∧ Hid (∀ j, F j → ¬ F' j) ∧ Hid (Below w0.heap.size w0 wr)) (fun i _ => n - (intOf i).toNat)
  case atStart => exact ⟨0, F1, F2, Nat.zero_le _, rfl, P2, Q2, D2, B2⟩
  case round =>
    clear P2 Q2 D2 B2
    obtain ⟨k, F, F', hk, rfl, HP, HQ, HD, HB⟩ := hrel
    by_cases hlt : k < n
    · obtain ⟨x, hx⟩ : ∃ x, l[k]? = some x := ⟨_, List.getElem?_eq_getElem (by rw [HL.out]; exact hlt)⟩
      obtain ⟨y, hy⟩ : ∃ y, l[n - 1 - k]? = some y := ⟨_, List.getElem?_eq_getElem (by rw [HL.out]; omega)⟩
      have hy2 := twice_at l.reverse k y (by rw [rev_at (by rw [HL.out]; exact hlt), HL.out]; exact hy)
      obtain ⟨bk, o, rfl, hc⟩ := (A0.out.keep rcells_len HB.out).2 (Nat.lt_of_le_of_lt (Nat.zero_le _) hlt)
      have e0 : wr.cell? ⟨bk, o + k * 3, none⟩ = some (.int .i64 x.min) := hc k x hx 0 (by decide)
      have e1 : wr.cell? ⟨bk, o + k * 3 + 1, none⟩ = some (.int .i64 x.seq) := hc k x hx 1 (by decide)
      have e2 : wr.cell? ⟨bk, o + k * 3 + 2, none⟩ = some (.int .i64 x.ten) := hc k x hx 2 (by decide)
      have hk3 : (k : Int) < (n : Int) := by omega
      have hkc : (k : Int) < (c : Int) := by omega
      have hlen : (l.take k).length ≤ 100 := by rw [List.length_take]; omega
      have hlen2 : ∀ j, ((twice l.reverse).take j).length ≤ 200 := fun j => by
        rw [List.length_take, twice_len, List.length_reverse, HL.out]
        omega
      obtain ⟨g1, g2, g3⟩ := sort_next hx
      have PP := Lib.hid (I.put _ h F a b _ x wr HP.out (sorted_puts _) (sright _) (Nat.le_trans (slen _) (by omega)))
      rw [g3] at PP
      have QQ := Lib.hid (fun W F0 (hq : I.PS W w1.heap.size h2 F0 a b (sortL (puts ((twice l.reverse).take (2 * k))))) => I.put _ h2 F0 a b _ y W hq (sorted_puts _) (sright _) (Nat.le_trans (slen _) (Nat.le_trans (hlen2 _) (by omega))))
      rw [(sort_next hy2.1).2.2] at QQ
      have RR := Lib.hid (fun W F0 (hq : I.PS W w1.heap.size h2 F0 a b (sortL (puts ((twice l.reverse).take (2 * k + 1))))) => I.put _ h2 F0 a b _ y W hq (sorted_puts _) (sright _) (Nat.le_trans (slen _) (Nat.le_trans (hlen2 _) (by omega))))
      rw [(sort_next hy2.2).2.2] at RR
      have HY := Lib.hid hy
      obtain ⟨r, hr⟩ : ∃ r : Nat, n - 1 - k = r := ⟨_, rfl⟩
      rw [hr] at HY
      have hrn : (r : Int) < (n : Int) := by omega
      have hrc : (r : Int) < (c : Int) := by omega
      have q1 : (n : Int) - 1 - (k : Int) = (r : Int) := by omega
      clear hx hc g1 g2 g3 hlen hlen2 hy hy2 hr
      obtain ⟨xm, xs, xt⟩ := x
      obtain ⟨ym, ys, yt⟩ := y
      unfold rval at PP QQ RR
      simp only at PP QQ RR e0 e1 e2
      go_wp2_with fail
      refine PP.out.mono ?_
      rintro e w3 ⟨rfl, hh⟩
      obtain ⟨F3, hp3, hq3, hd3, ht3⟩ := sideF I hh HQ.out HD.out
      have HB3 := Lib.hid (ht3.below HB.out HB.out.size (fun i hi => (I.foot HP.out hi).1))
      have HP3 := Lib.hid hp3
      have HQ3 := Lib.hid hq3
      have HD3 := Lib.hid (show ∀ j, F' j → ¬ F3 j from fun j h1 h2 => hd3 j h2 h1)
      clear hh hp3 hq3 hd3 ht3 e0 e1 e2 HP HQ HD HB PP
      obtain ⟨_, _, e, hc⟩ := (A0.out.keep rcells_len HB3.out).2 (Nat.lt_of_le_of_lt (Nat.zero_le _) hlt)
      cases e
      have e0 : w3.cell? ⟨bk, o + r * 3, none⟩ = some (.int .i64 ym) := hc r _ HY.out 0 (by decide)
      have e1 : w3.cell? ⟨bk, o + r * 3 + 1, none⟩ = some (.int .i64 ys) := hc r _ HY.out 1 (by decide)
      have e2 : w3.cell? ⟨bk, o + r * 3 + 2, none⟩ = some (.int .i64 yt) := hc r _ HY.out 2 (by decide)
      clear hc
      go_wp2_with fail
      refine (QQ.out _ _ HQ3.out).mono ?_
      rintro e w4 ⟨rfl, hh⟩
      obtain ⟨F4, hq4, hp4, hd4, ht4⟩ := sideF I hh HP3.out HD3.out
      have HB4 := Lib.hid (ht4.below HB3.out HB3.out.size (fun i hi => Nat.le_trans Z1.out (I.foot HQ3.out hi).1))
      have HP4 := Lib.hid hp4
      have HQ4 := Lib.hid hq4
      have HD4 := Lib.hid hd4
      clear hh hp4 hq4 hd4 ht4 e0 e1 e2 HP3 HQ3 HD3 HB3 QQ
      obtain ⟨_, _, e, hc⟩ := (A0.out.keep rcells_len HB4.out).2 (Nat.lt_of_le_of_lt (Nat.zero_le _) hlt)
      cases e
      have e0 : w4.cell? ⟨bk, o + r * 3, none⟩ = some (.int .i64 ym) := hc r _ HY.out 0 (by decide)
      have e1 : w4.cell? ⟨bk, o + r * 3 + 1, none⟩ = some (.int .i64 ys) := hc r _ HY.out 1 (by decide)
      have e2 : w4.cell? ⟨bk, o + r * 3 + 2, none⟩ = some (.int .i64 yt) := hc r _ HY.out 2 (by decide)
      clear hc
      go_wp2_with fail
      refine (RR.out _ _ HQ4.out).mono ?_
      rintro e w5 ⟨rfl, hh⟩
      obtain ⟨F5, hq5, hp5, hd5, ht5⟩ := sideF I hh HP4.out HD4.out
      have HB5 := Lib.hid (ht5.below HB4.out HB4.out.size (fun i hi => Nat.le_trans Z1.out (I.foot HQ4.out hi).1))
      have HP5 := Lib.hid hp5
      have HQ5 := Lib.hid (show I.PS w5 w1.heap.size h2 F5 a b (sortL (puts ((twice l.reverse).take (2 * (k + 1))))) from hq5)
      have HD5 := Lib.hid (show ∀ j, F3 j → ¬ F5 j from fun j h1 h2 => hd5 j h2 h1)
      clear hh hp5 hq5 hd5 ht5 e0 e1 e2 HP4 HQ4 HD4 HB4 RR HY
      go_wp2
      go_roundw
      case rel => exact ⟨k + 1, F3, F5, by omega, by go_num, HP5, HQ5, HD5, HB5⟩
      case measure => simp [intOf]; omega
    · obtain rfl : k = n := by omega
      have hT : l.take k = l := List.take_of_length_le (by rw [HL.out]; exact Nat.le_refl _)
      have hT2 : (twice l.reverse).take (2 * k) = twice l.reverse := List.take_of_length_le (by rw [twice_len, List.length_reverse, HL.out]; exact Nat.le_refl _)
      rw [hT] at HP
      rw [hT2, like_sort (puts_apart _) (puts_apart _) (order_like l)] at HQ
      have hs := sorted_puts l
      have hsr := sright l
      have hsl : (sortL (puts l)).length ≤ 100 := Nat.le_trans (slen l) (by rw [HL.out]; exact hn)
      have IS := Lib.hid (fun z (hz : z ∈ l) hr => is_there (l := l) (z := z) hz hr)
      have WP := Lib.hid (fun j y (hy : (sortL (puts l))[j]? = some y) => was_put hy)
      have IR := Lib.hid (fun j x y (hx : (sortL (puts l))[j]? = some x) (hy : (sortL (puts l))[j + 1]? = some y) => in_row hx hy)
      generalize sortL (puts l) = S at *
      have hsi : (S.length : Int) ≤ 100 := by omega
      have K3 := Lib.hid (fun W (hp : I.PS W w0.heap.size h F a b S) => I.told _ h F a b _ W hp hs (by omega))
      have K4 := Lib.hid (fun W (hp : I.PS W w1.heap.size h2 F' a b S) => I.told _ h2 F' a b _ W hp hs (by omega))
      have K5 := Lib.hid (fun q q2 d d2 W (h1 : Rw 3 rcells W q S.length S) (h2 : Rw 3 rcells W q2 S.length S) => rsame_any q q2 _ _ d d2 _ _ W (by omega) h1 h2)
      rw [show decide (S = S) = true by simp] at K5
      have KA := Lib.hid (fun W (hp : I.PS W w0.heap.size h F a b S) => I.airAt _ h F a b _ m W hp hs hsr HM.out (by omega) m0 m1)
      have KB := Lib.hid (fun W (hp : I.PS W w1.heap.size h2 F' a b S) => I.airAt _ h2 F' a b _ m W hp hs hsr HM.out (by omega) m0 m1)
      clear hT hT2 hs hsr HD
      go_wp2_with fail
      refine (K3.out _ HP.out).mono ?_
      rintro e w3 ⟨va, rfl, ho, hb⟩
      obtain ⟨qa, da, rfl, hda, hra⟩ := rw_own rcells_len ho
      have HB3 := Lib.hid (HB.out.trans (hb.mono HB.out.size))
      have HP3 := Lib.hid (I.keep HP.out hb)
      have HQ3 := Lib.hid (I.keep HQ.out hb)
      have RA3 := Lib.hid hra
      clear ho hb hra HP HQ HB K3
      go_wp2_with fail
      refine (K4.out _ HQ3.out).mono ?_
      rintro e w4 ⟨vb, rfl, ho, hb⟩
      obtain ⟨qb, db, rfl, _, hrb⟩ := rw_own rcells_len ho
      have HB4 := Lib.hid (HB3.out.trans (hb.mono HB3.out.size))
      have HP4 := Lib.hid (I.keep HP3.out hb)
      have HQ4 := Lib.hid (I.keep HQ3.out hb)
      have RA4 := Lib.hid (RA3.out.keep rcells_len hb)
      have RB4 := Lib.hid hrb
      clear ho hb hrb HP3 HQ3 HB3 RA3 K4
      go_wp2_with fail
      refine (K5.out _ _ da db _ RA4.out RB4.out).mono ?_
      rintro e w5 ⟨rfl, j5, hw5⟩
      have hb : Below w4.heap.size w4 w5 := by rw [hw5]; exact below_drewN (Below.refl _ _) _
      have HB5 := Lib.hid (HB4.out.trans (hb.mono HB4.out.size))
      have HP5 := Lib.hid (I.keep HP4.out hb)
      have HQ5 := Lib.hid (I.keep HQ4.out hb)
      have RA5 := Lib.hid (RA4.out.keep rcells_len hb)
      have A5 := Lib.hid (A0.out.keep rcells_len HB5.out)
      clear hb HP4 HQ4 HB4 RA4 RB4 K5 hw5
      go_wp2_with fail
      go_loopw [14] (fun i wr => ∃ j : Nat, j ≤ k ∧ i = .int .i64 j ∧ Hid (Below w5.heap.size w5 wr)) (fun i _ => k - (intOf i).toNat)
      case atStart => exact ⟨0, Nat.zero_le _, rfl, Lib.hid (Below.refl _ _)⟩
      case round =>
        obtain ⟨j, hj, rfl, HB⟩ := hrel
        by_cases hlt2 : j < k
        · obtain ⟨x, hx⟩ : ∃ x, l[j]? = some x := ⟨_, List.getElem?_eq_getElem (by rw [HL.out]; exact hlt2)⟩
          obtain ⟨bk, o, e, hc⟩ := (A5.out.keep rcells_len HB.out).2 (Nat.lt_of_le_of_lt (Nat.zero_le _) hlt2)
          subst e
          have e0 : wr.cell? ⟨bk, o + j * 3, none⟩ = some (.int .i64 x.min) := hc j x hx 0 (by decide)
          have e1 : wr.cell? ⟨bk, o + j * 3 + 1, none⟩ = some (.int .i64 x.seq) := hc j x hx 1 (by decide)
          have e2 : wr.cell? ⟨bk, o + j * 3 + 2, none⟩ = some (.int .i64 x.ten) := hc j x hx 2 (by decide)
          have hj3 : (j : Int) < (k : Int) := by omega
          have hjc : (j : Int) < (c : Int) := by omega
          have RT := Lib.hid (fun W => rright_any x W)
          have TH := Lib.hid (fun hr => IS.out x (List.mem_of_getElem? hx) hr)
          have HX := Lib.hid hx
          generalize rightB x = rb at *
          clear hx hc
          obtain ⟨xm, xs, xt⟩ := x
          unfold rval at RT
          simp only at RT e0 e1 e2 TH
          go_wp2_with fail
          refine (RT.out _).mono ?_
          rintro e w6 ⟨rfl, hb⟩
          have HB6 := Lib.hid (HB.out.trans (hb.mono HB.out.size))
          clear hb HB e0 e1 e2 RT
          have RA6 := Lib.hid (RA5.out.keep rcells_len HB6.out)
          obtain ⟨_, _, e, hc⟩ := (A5.out.keep rcells_len HB6.out).2 (Nat.lt_of_le_of_lt (Nat.zero_le _) hlt2)
          cases e
          have e0 : w6.cell? ⟨bk, o + j * 3, none⟩ = some (.int .i64 xm) := hc j _ HX.out 0 (by decide)
          have e1 : w6.cell? ⟨bk, o + j * 3 + 1, none⟩ = some (.int .i64 xs) := hc j _ HX.out 1 (by decide)
          have e2 : w6.cell? ⟨bk, o + j * 3 + 2, none⟩ = some (.int .i64 xt) := hc j _ HX.out 2 (by decide)
          clear hc HX
          go_wp2_with fail
          go_loopw [16, 17] (fun is i wi => ∃ (t : Nat) (sb : Bool) (nq : Nat), t ≤ S.length ∧ is = .bool sb ∧ i = .int .i64 t ∧ wi = w6.drewN nq ∧ Hid (Tell sb (There S t ⟨xm, xs, xt⟩))) (fun _ i _ => S.length - (intOf i).toNat)
          case atStart => exact ⟨0, false, 0, Nat.zero_le _, rfl, rfl, rfl, Lib.hid ⟨fun hh => by simp at hh, fun hh => absurd hh (there_zero _ _)⟩⟩
          case round =>
            obtain ⟨t, sb, nq, ht, rfl, rfl, rfl, HT⟩ := hrel
            by_cases hlt3 : t < S.length
            · obtain ⟨y, hy⟩ : ∃ y, S[t]? = some y := ⟨_, List.getElem?_eq_getElem hlt3⟩
              obtain ⟨ob, oo, e, hc⟩ := RA6.out.2 (Nat.lt_of_le_of_lt (Nat.zero_le _) hlt3)
              subst e
              have f0 : w6.cell? ⟨ob, oo + t * 3, none⟩ = some (.int .i64 y.min) := hc t y hy 0 (by decide)
              have f1 : w6.cell? ⟨ob, oo + t * 3 + 1, none⟩ = some (.int .i64 y.seq) := hc t y hy 1 (by decide)
              have f2 : w6.cell? ⟨ob, oo + t * 3 + 2, none⟩ = some (.int .i64 y.ten) := hc t y hy 2 (by decide)
              have ht3 : (t : Int) < (S.length : Int) := by omega
              have YES := Lib.hid (fun hh => there_yes (x := ⟨xm, xs, xt⟩) hy hh)
              have NO := Lib.hid (fun hh hh2 => there_no (x := ⟨xm, xs, xt⟩) hh hy hh2)
              clear hy hc
              obtain ⟨ym, ys, yt⟩ := y
              simp only at f0 f1 f2 YES NO
              cases sb
              · have HN := Lib.hid (show ¬ There S t ⟨xm, xs, xt⟩ from fun hh => by simpa using HT.out.2 hh)
                clear HT
                by_cases t1 : ym = xm
                · have d1 : (ym == xm) = true := by simp [t1]
                  by_cases t2 : ys = xs
                  · have d2 : (ys == xs) = true := by simp [t2]
                    by_cases t3 : xt ≤ yt
                    · have d3 : decide (xt ≤ yt) = true := by simpa using t3
                      have HT2 := Lib.hid (show Tell true (There S (t + 1) ⟨xm, xs, xt⟩) from ⟨fun _ => YES.out ⟨t1, t2, t3⟩, fun _ => rfl⟩)
                      clear t1 t2 t3 YES NO HN
                      go_wp2_with fail
                      go_quiet (fail)
                      go_wp2
                      go_roundw
                      case rel => exact ⟨t + 1, true, _, by omega, rfl, by go_num, rfl, HT2⟩
                      case measure => simp [intOf]; omega
                    · have d3 : decide (xt ≤ yt) = false := by simpa using t3
                      have HT2 := Lib.hid (show Tell false (There S (t + 1) ⟨xm, xs, xt⟩) from ⟨fun hh => by simp at hh, fun hh => absurd hh (NO.out HN.out (fun h3 => t3 h3.2.2))⟩)
                      clear t1 t2 t3 YES NO HN
                      go_wp2_with fail
                      go_quiet (fail)
                      go_wp2
                      go_roundw
                      case rel => exact ⟨t + 1, false, _, by omega, rfl, by go_num, rfl, HT2⟩
                      case measure => simp [intOf]; omega
                  · have d2 : (ys == xs) = false := by simp [t2]
                    have HT2 := Lib.hid (show Tell false (There S (t + 1) ⟨xm, xs, xt⟩) from ⟨fun hh => by simp at hh, fun hh => absurd hh (NO.out HN.out (fun h3 => t2 h3.2.1))⟩)
                    clear t1 t2 YES NO HN
                    go_wp2_with fail
                    go_quiet (fail)
                    go_wp2
                    go_roundw
                    case rel => exact ⟨t + 1, false, _, by omega, rfl, by go_num, rfl, HT2⟩
                    case measure => simp [intOf]; omega
                · have d1 : (ym == xm) = false := by simp [t1]
                  have HT2 := Lib.hid (show Tell false (There S (t + 1) ⟨xm, xs, xt⟩) from ⟨fun hh => by simp at hh, fun hh => absurd hh (NO.out HN.out (fun h3 => t1 h3.1))⟩)
                  clear t1 YES NO HN
                  go_wp2_with fail
                  go_quiet (fail)
                  go_wp2
                  go_roundw
                  case rel => exact ⟨t + 1, false, _, by omega, rfl, by go_num, rfl, HT2⟩
                  case measure => simp [intOf]; omega
              · have HT2 := Lib.hid (show Tell true (There S (t + 1) ⟨xm, xs, xt⟩) from ⟨fun _ => there_on (HT.out.1 rfl), fun _ => rfl⟩)
                clear HT YES NO
                go_wp2_with fail
                go_quiet (fail)
                go_wp2
                go_roundw
                case rel => exact ⟨t + 1, true, _, by omega, rfl, by go_num, rfl, HT2⟩
                case measure => simp [intOf]; omega
            · obtain rfl : t = S.length := by omega
              have HB7 := Lib.hid (below_drewN HB6.out nq)
              cases rb
              · clear HT TH
                go_wp2
                go_roundw
                case rel => exact ⟨j + 1, by omega, by go_num, HB7⟩
                case measure => simp [intOf]; omega
              · have hsb : sb = true := HT.out.2 (by
                  obtain ⟨u, y, h1, h2, h3⟩ := TH.out rfl
                  exact ⟨u, y, h1, h2, h3⟩)
                subst hsb
                clear HT TH
                go_wp2
                go_roundw
                case rel => exact ⟨j + 1, by omega, by go_num, HB7⟩
                case measure => simp [intOf]; omega
        · obtain rfl : j = k := by omega
          clear IS
          have RA6 := Lib.hid (RA5.out.keep rcells_len HB.out)
          have A6 := Lib.hid (A5.out.keep rcells_len HB.out)
          have HP6 := Lib.hid (I.keep HP5.out HB.out)
          have HQ6 := Lib.hid (I.keep HQ5.out HB.out)
          have HB6 := Lib.hid (HB5.out.trans (HB.out.mono HB5.out.size))
          obtain ⟨w6, hw6⟩ : ∃ w6, wr = w6 := ⟨_, rfl⟩
          rw [hw6] at RA6 A6 HP6 HQ6 HB6
          rw [hw6]
          clear hw6 HB RA5 A5 HP5 HQ5 HB5
          go_wp2_with fail
          go_loopw [18] (fun i wi => ∃ (t nq : Nat), t ≤ S.length ∧ i = .int .i64 t ∧ wi = w6.drewN nq) (fun i _ => S.length - (intOf i).toNat)
          case atStart => exact ⟨0, 0, Nat.zero_le _, rfl, rfl⟩
          case round =>
            obtain ⟨t, nt, ht, rfl, rfl⟩ := hrel
            by_cases hlt3 : t < S.length
            · obtain ⟨y, hy⟩ : ∃ y, S[t]? = some y := ⟨_, List.getElem?_eq_getElem hlt3⟩
              obtain ⟨u9, hu9, hx9⟩ := WP.out t y hy
              have WY := Lib.hid (show Among l j y from ⟨u9, by rw [← HL.out]; exact hu9, hx9⟩)
              have hj0 : 0 < j := by rw [← HL.out]; omega
              clear hx9 hu9 u9
              obtain ⟨bk, o, e, hcl⟩ := A6.out.2 hj0
              subst e
              have HCL := Lib.hid hcl
              obtain ⟨ob, oo, e, hc⟩ := RA6.out.2 (Nat.lt_of_le_of_lt (Nat.zero_le _) hlt3)
              subst e
              have f0 : w6.cell? ⟨ob, oo + t * 3, none⟩ = some (.int .i64 y.min) := hc t y hy 0 (by decide)
              have f1 : w6.cell? ⟨ob, oo + t * 3 + 1, none⟩ = some (.int .i64 y.seq) := hc t y hy 1 (by decide)
              have f2 : w6.cell? ⟨ob, oo + t * 3 + 2, none⟩ = some (.int .i64 y.ten) := hc t y hy 2 (by decide)
              have ht3 : (t : Int) < (S.length : Int) := by omega
              have HY := Lib.hid hy
              have HC := Lib.hid hc
              clear hy hc hcl
              obtain ⟨ym, ys, yt⟩ := y
              simp only at f0 f1 f2
              go_wp2_with fail
              go_loopw [19, 20] (fun is i wi => ∃ (u : Nat) (sb : Bool) (nq : Nat), u ≤ j ∧ is = .bool sb ∧ i = .int .i64 u ∧ wi = w6.drewN nq ∧ Hid (Tell sb (Among l u ⟨ym, ys, yt⟩))) (fun _ i _ => j - (intOf i).toNat)
              case atStart => exact ⟨0, false, nt, Nat.zero_le _, rfl, rfl, rfl, Lib.hid ⟨fun hh => by simp at hh, fun hh => absurd hh (among_zero _ _)⟩⟩
              case round =>
                obtain ⟨u, sb, nq, hu, rfl, rfl, rfl, HT⟩ := hrel
                by_cases hlt4 : u < j
                · obtain ⟨x, hx⟩ : ∃ x, l[u]? = some x := ⟨_, List.getElem?_eq_getElem (by rw [HL.out]; exact hlt4)⟩
                  have e0 : w6.cell? ⟨bk, o + u * 3, none⟩ = some (.int .i64 x.min) := HCL.out u x hx 0 (by decide)
                  have e1 : w6.cell? ⟨bk, o + u * 3 + 1, none⟩ = some (.int .i64 x.seq) := HCL.out u x hx 1 (by decide)
                  have e2 : w6.cell? ⟨bk, o + u * 3 + 2, none⟩ = some (.int .i64 x.ten) := HCL.out u x hx 2 (by decide)
                  have hu3 : (u : Int) < (j : Int) := by omega
                  have huc : (u : Int) < (c : Int) := by omega
                  have YES := Lib.hid (fun (hh : x = ⟨ym, ys, yt⟩) => show Among l (u + 1) ⟨ym, ys, yt⟩ from ⟨u, by omega, by rw [hx, hh]⟩)
                  have NO := Lib.hid (fun hh hh2 => among_no (y := ⟨ym, ys, yt⟩) hh hx hh2)
                  clear hx
                  obtain ⟨xm, xs, xt⟩ := x
                  simp only at e0 e1 e2 YES NO
                  cases sb
                  · have HN := Lib.hid (show ¬ Among l u ⟨ym, ys, yt⟩ from fun hh => by simpa using HT.out.2 hh)
                    clear HT
                    by_cases t1 : xm = ym
                    · have d1 : (xm == ym) = true := by simp [t1]
                      by_cases t2 : xs = ys
                      · have d2 : (xs == ys) = true := by simp [t2]
                        by_cases t3 : xt = yt
                        · have d3 : (xt == yt) = true := by simp [t3]
                          have HT2 := Lib.hid (show Tell true (Among l (u + 1) ⟨ym, ys, yt⟩) from ⟨fun _ => YES.out (by rw [t1, t2, t3]), fun _ => rfl⟩)
                          clear t1 t2 t3 YES NO HN
                          go_wp2_with fail
                          go_quiet (fail)
                          go_wp2
                          go_roundw
                          case rel => exact ⟨u + 1, true, _, by omega, rfl, by go_num, rfl, HT2⟩
                          case measure => simp [intOf]; omega
                        · have d3 : (xt == yt) = false := by simp [t3]
                          have HT2 := Lib.hid (show Tell false (Among l (u + 1) ⟨ym, ys, yt⟩) from ⟨fun hh => by simp at hh, fun hh => absurd hh (NO.out HN.out (fun h3 => by injection h3 with _ _ h3; exact t3 h3))⟩)
                          clear t1 t2 t3 YES NO HN
                          go_wp2_with fail
                          go_quiet (fail)
                          go_wp2
                          go_roundw
                          case rel => exact ⟨u + 1, false, _, by omega, rfl, by go_num, rfl, HT2⟩
                          case measure => simp [intOf]; omega
                      · have d2 : (xs == ys) = false := by simp [t2]
                        have HT2 := Lib.hid (show Tell false (Among l (u + 1) ⟨ym, ys, yt⟩) from ⟨fun hh => by simp at hh, fun hh => absurd hh (NO.out HN.out (fun h3 => by injection h3 with _ h3 _; exact t2 h3))⟩)
                        clear t1 t2 YES NO HN
                        go_wp2_with fail
                        go_quiet (fail)
                        go_wp2
                        go_roundw
                        case rel => exact ⟨u + 1, false, _, by omega, rfl, by go_num, rfl, HT2⟩
                        case measure => simp [intOf]; omega
                    · have d1 : (xm == ym) = false := by simp [t1]
                      have HT2 := Lib.hid (show Tell false (Among l (u + 1) ⟨ym, ys, yt⟩) from ⟨fun hh => by simp at hh, fun hh => absurd hh (NO.out HN.out (fun h3 => by injection h3 with h3 _ _; exact t1 h3))⟩)
                      clear t1 YES NO HN
                      go_wp2_with fail
                      go_quiet (fail)
                      go_wp2
                      go_roundw
                      case rel => exact ⟨u + 1, false, _, by omega, rfl, by go_num, rfl, HT2⟩
                      case measure => simp [intOf]; omega
                  · have HT2 := Lib.hid (show Tell true (Among l (u + 1) ⟨ym, ys, yt⟩) from ⟨fun _ => among_on (HT.out.1 rfl), fun _ => rfl⟩)
                    clear HT YES NO
                    go_wp2_with fail
                    go_quiet (fail)
                    go_wp2
                    go_roundw
                    case rel => exact ⟨u + 1, true, _, by omega, rfl, by go_num, rfl, HT2⟩
                    case measure => simp [intOf]; omega
                · obtain rfl : u = j := by omega
                  have hsb : sb = true := HT.out.2 WY.out
                  subst hsb
                  clear HT WY
                  by_cases ht0 : t = 0
                  · have d0 : decide (0 < t) = false := by simp; omega
                    clear HY HC ht0
                    go_wp2_with fail
                    go_quiet (fail)
                    go_wp2
                    go_roundw
                    case rel => exact ⟨t + 1, _, by omega, by go_num, rfl⟩
                    case measure => simp [intOf]; omega
                  · obtain ⟨r, hr⟩ : ∃ r, r + 1 = t := ⟨t - 1, by omega⟩
                    obtain ⟨z, hz⟩ : ∃ z, S[r]? = some z := ⟨_, List.getElem?_eq_getElem (by omega)⟩
                    have hlt5 := IR.out r z _ hz (by rw [hr]; exact HY.out)
                    have g0 : w6.cell? ⟨ob, oo + r * 3, none⟩ = some (.int .i64 z.min) := HC.out r z hz 0 (by decide)
                    have g1 : w6.cell? ⟨ob, oo + r * 3 + 1, none⟩ = some (.int .i64 z.seq) := HC.out r z hz 1 (by decide)
                    have d0 : decide (0 < t) = true := by simp; omega
                    have q1 : IntKind.i64.wrap ((t : Int) - 1) = (r : Int) := by rw [IntWalk.i64_in _ (by omega)]; omega
                    have hr3 : (r : Int) < (S.length : Int) := by omega
                    clear hz HY HC hr ht0
                    obtain ⟨zm, zs, zt⟩ := z
                    simp only at g0 g1 hlt5
                    rcases hlt5 with h5 | ⟨h5, h6⟩
                    · have d1 : decide (ym < zm) = false := by simp; omega
                      have d2 : (zm == ym) = false := by simp; omega
                      clear h5
                      go_wp2_with fail
                      go_quiet (fail)
                      go_wp2
                      go_roundw
                      case rel => exact ⟨t + 1, _, by omega, by go_num, rfl⟩
                      case measure => simp [intOf]; omega
                    · have d1 : decide (ym < zm) = false := by simp; omega
                      have d2 : (zm == ym) = true := by simp; omega
                      have d3 : decide (ys ≤ zs) = false := by simp; omega
                      clear h5 h6
                      go_wp2_with fail
                      go_quiet (fail)
                      go_wp2
                      go_roundw
                      case rel => exact ⟨t + 1, _, by omega, by go_num, rfl⟩
                      case measure => simp [intOf]; omega
            · obtain rfl : t = S.length := by omega
              have HP7 := Lib.hid (I.turn HP6.out (T := fun _ => False) (turn_drewN w6 _ nt) (fun _ _ hf => hf))
              have HQ7 := Lib.hid (I.turn HQ6.out (T := fun _ => False) (turn_drewN w6 _ nt) (fun _ _ hf => hf))
              have HB7 := Lib.hid (below_drewN HB6.out nt)
              obtain ⟨w7, hw7⟩ : ∃ w7, w6.drewN nt = w7 := ⟨_, rfl⟩
              rw [hw7] at HP7 HQ7 HB7
              rw [hw7]
              generalize air a b S m = U at *
              have eU : (U == U) = true := by simp
              clear hw7 HP6 HQ6 HB6 RA6 A6 WP IR
              go_wp2_with fail
              refine (alive_any I _).mono ?_
              rintro e w8 ⟨rfl, hb⟩
              have HB8 := Lib.hid (HB7.out.trans (hb.mono HB7.out.size))
              have HP8 := Lib.hid (I.keep HP7.out hb)
              have HQ8 := Lib.hid (I.keep HQ7.out hb)
              clear hb HP7 HQ7 HB7
              go_wp2_with fail
              refine (KA.out _ HP8.out).mono ?_
              rintro e w9 ⟨rfl, hb⟩
              have HB9 := Lib.hid (HB8.out.trans (hb.mono HB8.out.size))
              have HQ9 := Lib.hid (I.keep HQ8.out hb)
              clear hb HP8 HQ8 HB8
              go_wp2_with fail
              refine (KB.out _ HQ9.out).mono ?_
              rintro e w10 ⟨rfl, hb⟩
              have HB10 := Lib.hid (HB9.out.trans (hb.mono HB9.out.size))
              clear hb HQ9 HB9
              go_wp2
              go_ret
              exact ⟨rfl, B0.out.trans (HB10.out.mono B0.out.size)⟩
end Se
end Go.Proofs.Ythlpbkkglaaofaa
