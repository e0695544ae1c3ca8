/- The walk over the law that holds package series against the document's answer. Conditions: the contracts of package series; the list reads as readings. -/
import Derived.Test.YthlpbkkglaaofaaSeL1
namespace Go.Proofs.Ythlpbkkglaaofaa
open Go.RowKit

namespace Se
theorem right7 : rightB ⟨7, 65535, 1099511627776⟩ = true := by decide
/-- A reading that is as great as can be, at its place, is the air. -/
theorem air7 {wo ga : Int} (hg : 0 ≤ ga) {S : List Rd} (hs : Sorted S) (hr : ∀ x ∈ S, rightB x = true) : air wo ga (sortL (putR S ⟨7, 65535, 1099511627776⟩).2.2) 7 = 1099511627776 := by
  have ha := sorted_apart hs
  rw [putR_yes _ right7]
  have hA := put_apart ha ⟨7, 65535, 1099511627776⟩
  have hR := put_right hr right7
  rw [like_air hA (like_sorted _)]
  generalize hL : (put S ⟨7, 65535, 1099511627776⟩).2 = L at *
  have hm : (⟨7, 65535, 1099511627776⟩ : Rd) ∈ L := by
    rw [← hL, put_mem ha]
    by_cases hex : ∃ y ∈ S, one y ⟨7, 65535, 1099511627776⟩
    · obtain ⟨y, hy, hyr⟩ := hex
      refine .inr (.inl ⟨y, hy, hyr, ?_⟩)
      have := right_of (hr y hy)
      show (⟨7, 65535, 1099511627776⟩ : Rd) = ⟨7, 65535, max y.ten 1099511627776⟩
      rw [show max y.ten 1099511627776 = 1099511627776 by omega]
    · exact .inr (.inr ⟨fun y hy hyr => hex ⟨y, hy, hyr⟩, rfl⟩)
  have hl : lastL L 7 = some ⟨7, 65535, 1099511627776⟩ := by
    rcases lastL_spec L 7 with ⟨_, h2⟩ | ⟨y, h1, h2, h3, h4⟩
    · have := h2 _ hm
      simp only at this
      omega
    · rw [h1]
      congr 1
      have hy := right_of (hR y h2)
      have := h4 _ hm (by simp)
      refine apart_one hA h2 hm ?_
      unfold lt at this
      unfold one
      simp only at this ⊢
      omega
  unfold air cnt
  rw [hl]
  simp only [cntOf]
  rw [if_neg (by omega)]
theorem puts_apart (l : List Rd) : Apart (puts l) := (puts_spec l).1
theorem puts_next {l : List Rd} {i : Nat} {x : Rd} (hx : l[i]? = some x) : puts (l.take (i + 1)) = (putR (puts (l.take i)) x).2.2 := by
  rw [List.take_add_one, hx, Option.toList_some, puts_snoc]
theorem putR_like {S L : List Rd} (hs : Apart S) (hl : Apart L) (h : Like S L) (r : Rd) : (putR S r).1 = (putR L r).1 ∧ (putR S r).2.1 = (putR L r).2.1 ∧ Like (putR S r).2.2 (putR L r).2.2 ∧ Apart (putR S r).2.2 ∧ Apart (putR L r).2.2 := by
  unfold putR
  split
  · exact ⟨like_fst hs hl h r, rfl, like_put hs hl h r, put_apart hs r, put_apart hl r⟩
  · exact ⟨rfl, rfl, h, hs, hl⟩
theorem sort_next {l : List Rd} {i : Nat} {x : Rd} (hx : l[i]? = some x) : (putR (sortL (puts (l.take i))) x).1 = (putR (puts (l.take i)) x).1 ∧ (putR (sortL (puts (l.take i))) x).2.1 = (putR (puts (l.take i)) x).2.1 ∧
    sortL (putR (sortL (puts (l.take i))) x).2.2 = sortL (puts (l.take (i + 1))) := by
  obtain ⟨h1, h2, h3, h4, h5⟩ := putR_like (sorted_apart (sorted_sort (puts_apart (l.take i)))) (puts_apart _) (like_sorted _) x
  exact ⟨h1, h2, by rw [puts_next hx]; exact like_sort h4 h5 h3⟩
theorem sorted_puts (l : List Rd) : Sorted (sortL (puts l)) := sorted_sort (puts_apart l)
theorem sright (l : List Rd) : ∀ x ∈ sortL (puts l), rightB x = true := fun x hx => puts_right l x ((mem_sort _ x).1 hx)
theorem slen (l : List Rd) : (sortL (puts l)).length ≤ l.length := by
  rw [len_sort]
  exact puts_len l
theorem rser_new (w : World) (a b : Int) : RSer (w.alloc (.cells #[.int .i64 a, .int .i64 b, .slice none 0 0] 32)) w.heap.size w.heap.size (.slice none 0 0) a b [] :=
  ⟨Nat.le_refl _, Lies.new w 32 _, World.ownsRow_nil _ _ _ _⟩
/-- Two objects, side by side: the one that is written first. -/
theorem side1 {w w' : World} {g : Nat} {F F' : Nat → Prop} {v : Value} {wo ga : Int} {L : List Rd} {B2 : Nat} (hm : RSer w B2 g v wo ga L) (hd : ∀ k, F k → ¬ Feet g v k) (ht : Turn F w w') (hF : ∀ k, F' k → F k ∨ w.heap.size ≤ k) :
    RSer w' B2 g v wo ga L ∧ ∀ k, F' k → ¬ Feet g v k :=
  ⟨hm.turn ht (fun k hk hf => hd k hf hk), fun k hk hf => by
    rcases hF k hk with h | h
    · exact hd k h hf
    · have := (hm.foot hf).2
      omega⟩
theorem side2 (I : Face) {w w' : World} {B h g : Nat} {F : Nat → Prop} {v : Value} {wo ga : Int} {S L' : List Rd} {B2 : Nat} (hp : I.PS w B h F wo ga S) (hd : ∀ k, F k → ¬ Feet g v k) (hm : RPut w B2 g v wo ga L' w') :
    ∃ v', RSer w' B2 g v' wo ga L' ∧ I.PS w' B h F wo ga S ∧ (∀ k, F k → ¬ Feet g v' k) ∧ Turn (Feet g v) w w' := by
  obtain ⟨v', hr, ht, hv⟩ := hm
  refine ⟨v', hr, I.turn hp ht hd, fun k hk hf => ?_, ht⟩
  rcases hf with rfl | hf
  · exact hd k hk (.inl rfl)
  · rcases hv k hf with h | h
    · exact hd k hk (.inr h)
    · have := (I.foot hp hk).2
      omega
theorem tells_long (I : Face) (a b : Int) (p : Option Addr) (n c : Nat) (m : Int) (w : World) (hn : 100 < n) (hbig : n ≤ 9223372036854775807) :
    Calls Try.prog 3 #[.agg #[.int .i64 a, .int .i64 b], .slice p n c, .int .i64 m] w fun e w' => e = .returned (.bool true) ∧ Below w.heap.size w w' := by
  have h1 : (100 : Int) < (n : Int) := by omega
  have B0 := Lib.hid (alloc_below w (.cells #[.int .i64 a, .int .i64 b] 22))
  go_enter Try.func3, Try.ntmps3
  go_wp2_with fail
  refine (alive_any I _).mono ?_
  rintro e w1 ⟨rfl, hb⟩
  have B1 := Lib.hid (B0.out.trans (hb.mono B0.out.size))
  clear hb
  go_wp2
  go_ret
  exact ⟨rfl, B1.out⟩
set_option maxRecDepth 100000 in
set_option maxHeartbeats 4000000 in
theorem tells_no (I : Face) (a b : Int) (p : Option Addr) (n c : Nat) (m : Int) (w : World) (hn : n ≤ 100) (hm : mayB a b = false) :
    Calls Try.prog 3 #[.agg #[.int .i64 a, .int .i64 b], .slice p n c, .int .i64 m] w fun e w' => e = .returned (.bool true) ∧ Below w.heap.size w w' := by
  have h1 : (n : Int) ≤ 100 := by omega
  have N := Lib.hid (fun W => I.new_no a b W hm)
  have M := Lib.hid (fun W => rmay_any a b W)
  rw [hm] at M
  have B0 := Lib.hid (alloc_below w (.cells #[.int .i64 a, .int .i64 b] 22))
  have X0 := Lib.hid (Lies.new w 22 #[.int .i64 a, .int .i64 b])
  clear hm
  go_enter Try.func3, Try.ntmps3
  go_wp2_with fail
  refine (N.out _).mono ?_
  rintro e w1 ⟨rfl, hb⟩
  have B1 := Lib.hid (B0.out.trans (hb.mono B0.out.size))
  have X1 := X0.out.below hb X0.out.lt
  have x0 : w1.cell? ⟨w.heap.size, 0, none⟩ = some (.int .i64 a) := X1.cell 0
  have x1 : w1.cell? ⟨w.heap.size, 1, none⟩ = some (.int .i64 b) := X1.cell 1
  clear hb X1
  go_wp2_with fail
  refine (M.out _).mono ?_
  rintro e w2 ⟨rfl, rfl⟩
  go_wp2_with fail
  refine (alive_any I _).mono ?_
  rintro e w3 ⟨rfl, hb⟩
  have B3 := Lib.hid (B1.out.trans (hb.mono B1.out.size))
  clear hb
  go_wp2
  go_ret
  exact ⟨rfl, B3.out⟩
set_option maxRecDepth 100000 in
set_option maxHeartbeats 16000000 in
theorem tells_yes (I : Face) (a b : Int) (p : Option Addr) (n c : Nat) (m : Int) (l : List Rd) (w : World) (hn : n ≤ 100) (hm : mayB a b = true) (hnc : n ≤ c) (hA : Rw 3 rcells w p n l) (m0 : -9223372036854775808 ≤ m) (m1 : m ≤ 9223372036854775807) :
    Calls Try.prog 3 #[.agg #[.int .i64 a, .int .i64 b], .slice p n c, .int .i64 m] w fun e w' => e = .returned (.bool true) ∧ Below w.heap.size w w' := by
  have h1 : (n : Int) ≤ 100 := by omega
  have N := Lib.hid (fun W => I.new_yes a b W hm)
  have M := Lib.hid (fun W => rmay_any a b W)
  rw [hm] at M
  have HM := Lib.hid hm
  have hab := may_of hm
  have HG := Lib.hid (show 0 ≤ b ∧ b ≤ 1048575 from ⟨hab.2.2.1, hab.2.2.2⟩)
  have B0 := Lib.hid (alloc_below w (.cells #[.int .i64 a, .int .i64 b] 22))
  have X0 := Lib.hid (Lies.new w 22 #[.int .i64 a, .int .i64 b])
  have A0 := Lib.hid (hA.keep rcells_len B0.out)
  have HL := Lib.hid hA.1
  clear hm hA hab
  go_enter Try.func3, Try.ntmps3
  go_wp2_with fail
  refine (N.out _).mono ?_
  rintro e w1 ⟨h, F1, rfl, hp, hb⟩
  have B1 := Lib.hid hb
  have X1 := X0.out.below hb X0.out.lt
  have x0 : w1.cell? ⟨w.heap.size, 0, none⟩ = some (.int .i64 a) := X1.cell 0
  have x1 : w1.cell? ⟨w.heap.size, 1, none⟩ = some (.int .i64 b) := X1.cell 1
  have P1 := Lib.hid (I.keep hp (alloc_below w1 (.cells #[.int .i64 a, .int .i64 b, .slice none 0 0] 32)))
  have R1 := Lib.hid (rser_new w1 a b)
  have D1 := Lib.hid (show ∀ k, F1 k → ¬ Feet w1.heap.size (.slice none 0 0) k from fun k hk hf => by
    have h1 := (I.foot hp hk).2
    rcases hf with h2 | h2
    · omega
    · cases h2)
  have C1 := Lib.hid (hb.alloc hb.size (.cells #[.int .i64 a, .int .i64 b, .slice none 0 0] 32))
  clear hb X1 hp
  go_wp2_with fail
  refine (M.out _).mono ?_
  rintro e w2 ⟨rfl, rfl⟩
  go_wp2_with fail
  generalize hW0 : w.alloc (.cells #[.int .i64 a, .int .i64 b] 22) = w0 at *
  have H01 := B1.out.size
  go_loopw [11] (fun i wr => ∃ (k : Nat) (F : Nat → Prop) (v : Value), k ≤ n ∧ i = .int .i64 k ∧ Hid (I.PS wr w0.heap.size h F a b (sortL (puts (l.take k)))) ∧ Hid (RSer wr w1.heap.size w1.heap.size v a b (puts (l.take k))) ∧ Hid (∀ j, F j → ¬ Feet w1.heap.size v j) ∧ Hid (Below w0.heap.size w0 wr)) (fun i _ => n - (intOf i).toNat)
  case atStart => exact ⟨0, F1, _, Nat.zero_le _, rfl, P1, R1, D1, C1⟩
  case round =>
    clear P1 R1 D1 C1 x0 x1 B1 N M X0
    obtain ⟨k, F, v, hk, rfl, HP, HR, HD, HB⟩ := hrel
    by_cases hlt : k < n
    · obtain ⟨x, hx⟩ : ∃ x, l[k]? = some x := ⟨_, List.getElem?_eq_getElem (by rw [HL.out]; exact hlt)⟩
      obtain ⟨bk, o, rfl, hc⟩ := (A0.out.keep rcells_len HB.out).2 (Nat.lt_of_le_of_lt (Nat.zero_le _) hlt)
      have e0 : wr.cell? ⟨bk, o + k * 3, none⟩ = some (.int .i64 x.min) := hc k x hx 0 (by decide)
      have e1 : wr.cell? ⟨bk, o + k * 3 + 1, none⟩ = some (.int .i64 x.seq) := hc k x hx 1 (by decide)
      have e2 : wr.cell? ⟨bk, o + k * 3 + 2, none⟩ = some (.int .i64 x.ten) := hc k x hx 2 (by decide)
      have hk3 : (k : Int) < (n : Int) := by omega
      have hkc : (k : Int) < (c : Int) := by omega
      have hlen : (l.take k).length ≤ 100 := by rw [List.length_take]; omega
      obtain ⟨g1, g2, g3⟩ := sort_next hx
      have PP := Lib.hid (I.put _ h F a b _ x wr HP.out (sorted_puts _) (sright _) (Nat.le_trans (slen _) (by omega)))
      have RR := Lib.hid (fun W (hr : RSer W w1.heap.size w1.heap.size v a b (puts (l.take k))) => rput_any _ _ v a b _ x W hr (Nat.le_trans (puts_len _) (by omega)))
      rw [g1, g2, g3] at PP
      rw [← puts_next hx] at RR
      have HX := Lib.hid hx
      clear hx hc g1 g2 g3 hlen
      generalize (putR (puts (l.take k)) x).1 = u1 at *
      generalize (putR (puts (l.take k)) x).2.1 = u2 at *
      obtain ⟨xm, xs, xt⟩ := x
      unfold rval at PP RR
      simp only at PP RR e0 e1 e2
      go_wp2_with fail
      refine PP.out.mono ?_
      rintro e w2 ⟨rfl, F2, hp2, ht2, hF2⟩
      obtain ⟨hr2, hd2⟩ := side1 HR.out HD.out ht2 hF2
      have HB2 := Lib.hid (ht2.below HB.out HB.out.size (fun i hi => (I.foot HP.out hi).1))
      have HP2 := Lib.hid hp2
      have HR2 := Lib.hid hr2
      have HD2 := Lib.hid hd2
      clear hp2 ht2 hF2 hr2 hd2 e0 e1 e2 HP HR HD HB PP
      obtain ⟨_, _, e, hc⟩ := (A0.out.keep rcells_len HB2.out).2 (Nat.lt_of_le_of_lt (Nat.zero_le _) hlt)
      cases e
      have e0 : w2.cell? ⟨bk, o + k * 3, none⟩ = some (.int .i64 xm) := hc k _ HX.out 0 (by decide)
      have e1 : w2.cell? ⟨bk, o + k * 3 + 1, none⟩ = some (.int .i64 xs) := hc k _ HX.out 1 (by decide)
      have e2 : w2.cell? ⟨bk, o + k * 3 + 2, none⟩ = some (.int .i64 xt) := hc k _ HX.out 2 (by decide)
      clear hc
      go_wp2_with fail
      refine (RR.out _ HR2.out).mono ?_
      rintro e w3 ⟨rfl, hr3⟩
      obtain ⟨v3, hr3, hp3, hd3, ht3⟩ := side2 I HP2.out HD2.out hr3
      have HB3 := Lib.hid (ht3.below HB2.out HB2.out.size (fun i hi => Nat.le_trans H01 (HR2.out.foot hi).1))
      have HP3 := Lib.hid hp3
      have HR3 := Lib.hid hr3
      have HD3 := Lib.hid hd3
      clear hp3 hr3 hd3 ht3 e0 e1 e2 HP2 HR2 HD2 HB2 RR
      go_wp2
      go_roundw
      case rel => exact ⟨k + 1, F2, v3, by omega, by go_num, HP3, HR3, HD3, HB3⟩
      case measure => simp [intOf]; omega
    · obtain rfl : k = n := by omega
      have hT : l.take k = l := List.take_of_length_le (by rw [HL.out]; exact Nat.le_refl _)
      rw [hT] at HP HR
      have hlen : (puts l).length ≤ 100 := Nat.le_trans (puts_len l) (by rw [HL.out]; exact hn)
      have ha := puts_apart l
      have hr := puts_right l
      generalize puts l = L at *
      have hs := sorted_sort ha
      have hsr : ∀ x ∈ sortL L, rightB x = true := fun x hx => hr x ((mem_sort _ x).1 hx)
      have hsl : (sortL L).length ≤ 100 := by rw [len_sort]; exact hlen
      have K1 := Lib.hid (fun W (hp : I.PS W w0.heap.size h F a b (sortL L)) => I.twin _ h F a b _ W hp hs hsr HM.out (by omega))
      have K2 := Lib.hid (fun B h2 F2 W (hp : I.PS W B h2 F2 a b (sortL L)) => I.put _ h2 F2 a b _ ⟨7, 65535, 1099511627776⟩ W hp hs hsr (by omega))
      have K3 := Lib.hid (fun W (hp : I.PS W w0.heap.size h F a b (sortL L)) => I.told _ h F a b _ W hp hs (by omega))
      have K4 := Lib.hid (fun W (hp : RSer W w1.heap.size w1.heap.size v a b L) => rall_any _ _ v a b L W hp ha (by omega))
      have K5 := Lib.hid (fun q q2 d d2 W (h1 : Rw 3 rcells W q (sortL L).length (sortL L)) (h2 : Rw 3 rcells W q2 (sortL L).length (sortL L)) => rsame_any q q2 _ _ d d2 _ _ W (by omega) h1 h2)
      have K6 := Lib.hid (fun W => I.nil_put ⟨0, 0, 0⟩ W)
      have K8 := Lib.hid (fun W (hp : I.PS W w0.heap.size h F a b (sortL L)) => I.airAt _ h F a b _ m W hp hs hsr HM.out (by omega) m0 m1)
      have K9 := Lib.hid (fun W (hp : RSer W w1.heap.size w1.heap.size v a b L) => rat_any _ _ v a b L m W hp hr HG.out m1 (by omega))
      have K10 := Lib.hid (fun W (hp : I.PS W w0.heap.size h F a b (sortL L)) => I.nextAt _ h F a b _ m W hp hs hsr HM.out (by omega) m0 m1)
      have K11 := Lib.hid (fun W (hp : RSer W w1.heap.size w1.heap.size v a b L) => rnext_any _ _ v a b L m W hp hr HG.out m1 (by omega))
      have hA2 := (putR_like (sorted_apart hs) (sorted_apart hs) (fun _ => Iff.rfl) ⟨7, 65535, 1099511627776⟩).2.2.2.1
      have K12 := Lib.hid (fun B h2 F2 W (hp : I.PS W B h2 F2 a b (sortL (putR (sortL L) ⟨7, 65535, 1099511627776⟩).2.2)) => I.airAt B h2 F2 a b _ 7 W hp (sorted_sort hA2)
        (fun x hx => by
          have := (mem_sort _ x).1 hx
          rw [putR_yes _ right7] at this
          exact put_right hsr right7 x this) HM.out (by
          rw [len_sort, putR_yes _ right7]
          have := put_len (sortL L) ⟨7, 65535, 1099511627776⟩
          omega) (by decide) (by decide))
      rw [air7 HG.out.1 hs hsr] at K12
      rw [like_air ha (like_sorted L)] at K8
      rw [like_next ha (like_sorted L) (fun x hx => (right_of (hr x hx)).2.2.1)] at K10
      rw [show decide (sortL L = sortL L) = true by simp] at K5
      unfold rval at K2 K6
      simp only at K2 K6
      clear hT hlen ha hr hs hsr hsl hA2
      generalize air a b L m = U at *
      generalize next b L m = U2 at *
      have HN := Lib.hid hn
      clear hn hk h1
      go_wp2_with fail
      refine (K1.out _ HP.out).mono ?_
      rintro e w2 ⟨h2, F2, rfl, hp2, hb⟩
      have HB2 := Lib.hid (HB.out.trans (hb.mono HB.out.size))
      have HP2 := Lib.hid (I.keep HP.out hb)
      have HR2 := Lib.hid (HR.out.below hb)
      have DF := Lib.hid (show ∀ j, F j → ¬ F2 j from fun j hj hj2 => by
        have a1 := (I.foot HP.out hj).2
        have a2 := (I.foot hp2 hj2).1
        omega)
      have DR := Lib.hid (show ∀ j, Feet w1.heap.size v j → ¬ F2 j from fun j hj hj2 => by
        have a1 := (HR.out.foot hj).2
        have a2 := (I.foot hp2 hj2).1
        omega)
      have HQ2 := Lib.hid hp2
      have hz := Lib.hid HB.out.size
      clear hb hp2 HP HR HB HD K1
      go_wp2_with fail
      refine (K2.out _ h2 F2 _ HQ2.out).mono ?_
      rintro e w3 ⟨rfl, F3, hq3, ht, hF3⟩
      have HB3 := Lib.hid (ht.below HB2.out HB2.out.size (fun i hi => Nat.le_trans hz.out (I.foot HQ2.out hi).1))
      have HP3 := Lib.hid (I.turn HP2.out ht DF.out)
      have HR3 := Lib.hid (HR2.out.turn ht DR.out)
      have HQ3 := Lib.hid hq3
      clear hq3 ht hF3 HP2 HR2 HQ2 HB2 DF DR K2
      go_wp2_with fail
      refine (K3.out _ HP3.out).mono ?_
      rintro e w4 ⟨va, rfl, ho, hb⟩
      obtain ⟨qa, da, rfl, _, hra⟩ := rw_own rcells_len ho
      have HB4 := Lib.hid (HB3.out.trans (hb.mono HB3.out.size))
      have HP4 := Lib.hid (I.keep HP3.out hb)
      have HR4 := Lib.hid (HR3.out.below hb)
      have HQ4 := Lib.hid (I.keep HQ3.out hb)
      have RA4 := Lib.hid hra
      clear ho hb hra HP3 HR3 HQ3 HB3 K3
      go_wp2_with fail
      refine (K4.out _ HR4.out).mono ?_
      rintro e w5 ⟨vb, rfl, ho, hb⟩
      obtain ⟨qb, db, rfl, _, hrb⟩ := rw_own rcells_len ho
      have HB5 := Lib.hid (HB4.out.trans (hb.mono HB4.out.size))
      have HP5 := Lib.hid (I.keep HP4.out hb)
      have HR5 := Lib.hid (HR4.out.below hb)
      have HQ5 := Lib.hid (I.keep HQ4.out hb)
      have RA5 := Lib.hid (RA4.out.keep rcells_len hb)
      have RB5 := Lib.hid hrb
      clear ho hb hrb HP4 HR4 HQ4 HB4 RA4 K4
      go_wp2_with fail
      refine (K5.out _ _ da db _ RA5.out RB5.out).mono ?_
      rintro e w6 ⟨rfl, j6, hw6⟩
      have hb : Below w5.heap.size w5 w6 := by rw [hw6]; exact below_drewN (Below.refl _ _) _
      have HB6 := Lib.hid (HB5.out.trans (hb.mono HB5.out.size))
      have HP6 := Lib.hid (I.keep HP5.out hb)
      have HR6 := Lib.hid (HR5.out.below hb)
      have HQ6 := Lib.hid (I.keep HQ5.out hb)
      clear hb HP5 HR5 HQ5 HB5
      clear hw6 RA5 RB5 K5
      go_wp2_with fail
      refine (K6.out _).mono ?_
      rintro e w7 ⟨rfl, hb⟩
      have HB7 := Lib.hid (HB6.out.trans (hb.mono HB6.out.size))
      have HP7 := Lib.hid (I.keep HP6.out hb)
      have HR7 := Lib.hid (HR6.out.below hb)
      have HQ7 := Lib.hid (I.keep HQ6.out hb)
      clear hb HP6 HR6 HQ6 HB6
      go_wp2_with fail
      refine (alive_any I _).mono ?_
      rintro e w8 ⟨rfl, hb⟩
      have HB8 := Lib.hid (HB7.out.trans (hb.mono HB7.out.size))
      have HP8 := Lib.hid (I.keep HP7.out hb)
      have HR8 := Lib.hid (HR7.out.below hb)
      have HQ8 := Lib.hid (I.keep HQ7.out hb)
      clear hb HP7 HR7 HQ7 HB7
      go_wp2_with fail
      refine (K8.out _ HP8.out).mono ?_
      rintro e w9 ⟨rfl, hb⟩
      have HB9 := Lib.hid (HB8.out.trans (hb.mono HB8.out.size))
      have HP9 := Lib.hid (I.keep HP8.out hb)
      have HR9 := Lib.hid (HR8.out.below hb)
      have HQ9 := Lib.hid (I.keep HQ8.out hb)
      clear hb HP8 HR8 HQ8 HB8
      go_wp2_with fail
      refine (K9.out _ HR9.out).mono ?_
      rintro e w10 ⟨rfl, hb⟩
      have HB10 := Lib.hid (HB9.out.trans (hb.mono HB9.out.size))
      have HP10 := Lib.hid (I.keep HP9.out hb)
      have HR10 := Lib.hid (HR9.out.below hb)
      have HQ10 := Lib.hid (I.keep HQ9.out hb)
      clear hb HP9 HR9 HQ9 HB9
      go_wp2_with fail
      refine (K10.out _ HP10.out).mono ?_
      rintro e w11 ⟨rfl, hb⟩
      have HB11 := Lib.hid (HB10.out.trans (hb.mono HB10.out.size))
      have HP11 := Lib.hid (I.keep HP10.out hb)
      have HR11 := Lib.hid (HR10.out.below hb)
      have HQ11 := Lib.hid (I.keep HQ10.out hb)
      clear hb HP10 HR10 HQ10 HB10
      go_wp2_with fail
      refine (K11.out _ HR11.out).mono ?_
      rintro e w12 ⟨rfl, hb⟩
      have HB12 := Lib.hid (HB11.out.trans (hb.mono HB11.out.size))
      have HP12 := Lib.hid (I.keep HP11.out hb)
      have HR12 := Lib.hid (HR11.out.below hb)
      have HQ12 := Lib.hid (I.keep HQ11.out hb)
      clear hb HP11 HR11 HQ11 HB11
      go_wp2_with fail
      refine (K12.out _ _ _ _ HQ12.out).mono ?_
      rintro e w13 ⟨rfl, hb⟩
      have HB13 := Lib.hid (HB12.out.trans (hb.mono HB12.out.size))
      have HP13 := Lib.hid (I.keep HP12.out hb)
      have HR13 := Lib.hid (HR12.out.below hb)
      have HQ13 := Lib.hid (I.keep HQ12.out hb)
      clear hb HP12 HR12 HQ12 HB12
      go_wp2_with fail
      refine (I.nil_at 1 _).mono ?_
      rintro e w14 ⟨rfl, hb⟩
      have HB14 := Lib.hid (HB13.out.trans (hb.mono HB13.out.size))
      have HP14 := Lib.hid (I.keep HP13.out hb)
      have HR14 := Lib.hid (HR13.out.below hb)
      have HQ14 := Lib.hid (I.keep HQ13.out hb)
      clear hb HP13 HR13 HQ13 HB13
      go_wp2_with fail
      refine (I.nil_next 1 _).mono ?_
      rintro e w15 ⟨rfl, hb⟩
      have HB15 := Lib.hid (HB14.out.trans (hb.mono HB14.out.size))
      have HP15 := Lib.hid (I.keep HP14.out hb)
      have HR15 := Lib.hid (HR14.out.below hb)
      have HQ15 := Lib.hid (I.keep HQ14.out hb)
      clear hb HP14 HR14 HQ14 HB14
      go_wp2_with fail
      refine (I.nil_told _).mono ?_
      rintro e w16 ⟨rfl, hb⟩
      have HB16 := Lib.hid (HB15.out.trans (hb.mono HB15.out.size))
      have HP16 := Lib.hid (I.keep HP15.out hb)
      have HR16 := Lib.hid (HR15.out.below hb)
      have HQ16 := Lib.hid (I.keep HQ15.out hb)
      clear hb HP15 HR15 HQ15 HB15
      go_wp2_with fail
      refine (I.nil_twin _).mono ?_
      rintro e w17 ⟨rfl, hb⟩
      have HB17 := Lib.hid (HB16.out.trans (hb.mono HB16.out.size))
      have HP17 := Lib.hid (I.keep HP16.out hb)
      have HR17 := Lib.hid (HR16.out.below hb)
      have HQ17 := Lib.hid (I.keep HQ16.out hb)
      clear hb HP16 HR16 HQ16 HB16
      go_wp2
      go_ret
      exact ⟨rfl, B0.out.trans (HB17.out.mono B0.out.size)⟩
end Se
end Go.Proofs.Ythlpbkkglaaofaa
