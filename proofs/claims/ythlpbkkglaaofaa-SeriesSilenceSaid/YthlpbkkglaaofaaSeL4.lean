/- The walk over the law of silence. Conditions: the contracts of package series; the list reads as readings; the numbers are uint32s. -/
import Derived.Test.YthlpbkkglaaofaaSeL2
import Derived.Lib.QuietBelow
namespace Go.Proofs.Ythlpbkkglaaofaa
open Go.RowKit

namespace Se
/-- A uint32. -/
def U32 (x : Nat) : Prop := x < 4294967296
theorem u32_lt {x : Nat} (h : U32 x) : (x : Int) < 4294967296 := by
  unfold U32 at h
  omega
theorem next_le {ga m : Int} {l : List Rd} (hr : ∀ x ∈ l, rightB x = true) (hg : 0 ≤ ga ∧ ga ≤ 1048575) : -1 ≤ next ga l m ∧ next ga l m ≤ 2097151 := by
  have hs := nextL_spec l m (fun x hx => (right_of (hr x hx)).2.2.1)
  have hL : -1 ≤ nextL l m ∧ nextL l m ≤ 1048575 := by
    rcases hs with ⟨h1, _⟩ | ⟨_, h2, ⟨y, hy, h3⟩, _⟩
    · omega
    · have := right_of (hr y hy)
      omega
  unfold next
  rcases hc : cnt ga l m with _ | y
  · simp only
    omega
  · have hy := right_of (hr y (cnt_some hc).1)
    simp only
    split <;> omega
theorem two_boxes (w : World) (c1 c2 : Array Value) (t1 t2 : TypeId) : Below w.heap.size w ((w.alloc (.cells c1 t1)).alloc (.cells c2 t2)) ∧ Lies ((w.alloc (.cells c1 t1)).alloc (.cells c2 t2)) w.heap.size t1 c1 ∧ Lies ((w.alloc (.cells c1 t1)).alloc (.cells c2 t2)) (w.heap.size + 1) t2 c2 :=
  ⟨(alloc_below w _).alloc (size_alloc _ _) _, (Lies.new w t1 c1).alloc _, by
    have := Lies.new (w.alloc (.cells c1 t1)) t2 c2
    rwa [show (w.alloc (.cells c1 t1)).heap.size = w.heap.size + 1 by simp] at this⟩
set_option maxRecDepth 100000 in
set_option maxHeartbeats 4000000 in
theorem silence_no (I : Face) (a b : Int) (p : Option Addr) (n c : Nat) (x y : Int) (w : World) (hm : mayB a b = false) :
    Calls Try.prog 5 #[.agg #[.int .i64 a, .int .i64 b], .slice p n c, .agg #[.int .u32 x, .int .u32 y]] w fun e w' => e = .returned (.bool true) ∧ Below w.heap.size w w' := by
  have N := Lib.hid (fun W => I.new_no a b W hm)
  have B0 := Lib.hid (two_boxes w #[.int .i64 a, .int .i64 b] #[.int .u32 x, .int .u32 y] 22 44).1
  clear hm
  go_enter Try.func5, Try.ntmps5
  go_wp2_with fail
  refine (N.out _).mono ?_
  rintro e w1 ⟨rfl, hb⟩
  have B1 := Lib.hid (B0.out.trans (hb.mono B0.out.size))
  clear hb
  go_wp2_with fail
  refine (alive_any I _).mono ?_
  rintro e w3 ⟨rfl, hb⟩
  have B3 := Lib.hid (B1.out.trans (hb.mono B1.out.size))
  clear hb
  go_wp2
  go_ret
  exact ⟨rfl, B3.out⟩
set_option maxRecDepth 100000 in
set_option maxHeartbeats 4000000 in
theorem silence_long (I : Face) (a b : Int) (p : Option Addr) (n c : Nat) (x y : Int) (w : World) (hm : mayB a b = true) (hn : 100 < n) (hbig : n ≤ 9223372036854775807) :
    Calls Try.prog 5 #[.agg #[.int .i64 a, .int .i64 b], .slice p n c, .agg #[.int .u32 x, .int .u32 y]] w fun e w' => e = .returned (.bool true) ∧ Below w.heap.size w w' := by
  have h1 : (100 : Int) < (n : Int) := by omega
  have N := Lib.hid (fun W => I.new_yes a b W hm)
  have B0 := Lib.hid (two_boxes w #[.int .i64 a, .int .i64 b] #[.int .u32 x, .int .u32 y] 22 44).1
  clear hm
  go_enter Try.func5, Try.ntmps5
  go_wp2_with fail
  refine (N.out _).mono ?_
  rintro e w1 ⟨h, F, rfl, _, hb⟩
  have B1 := Lib.hid (B0.out.trans (hb.mono B0.out.size))
  clear hb
  go_wp2_with fail
  refine (alive_any I _).mono ?_
  rintro e w3 ⟨rfl, hb⟩
  have B3 := Lib.hid (B1.out.trans (hb.mono B1.out.size))
  clear hb
  go_wp2
  go_ret
  exact ⟨rfl, B3.out⟩
theorem any_next {S : List Rd} {k : Nat} {z : Rd} {a U : Int} {sb : Bool} (h : sb = true ↔ (U = a ∨ ∃ (j : Nat) (y : Rd), j < k ∧ S[j]? = some y ∧ y.ten = U)) (hz : S[k]? = some z) (s2 : Bool) (h2 : s2 = true ↔ (sb = true ∨ z.ten = U)) :
    s2 = true ↔ (U = a ∨ ∃ (j : Nat) (y : Rd), j < k + 1 ∧ S[j]? = some y ∧ y.ten = U) := by
  rw [h2, h]
  constructor
  · rintro ((h | ⟨j, y, h1, h2, h3⟩) | h)
    · exact .inl h
    · exact .inr ⟨j, y, by omega, h2, h3⟩
    · exact .inr ⟨k, z, by omega, hz, h⟩
  · rintro (h | ⟨j, y, h1, h2, h3⟩)
    · exact .inl (.inl h)
    · by_cases hj : j < k
      · exact .inl (.inr ⟨j, y, hj, h2, h3⟩)
      · obtain rfl : j = k := by omega
        rw [hz] at h2
        cases h2
        exact .inr h3
set_option maxRecDepth 100000 in
set_option maxHeartbeats 16000000 in
theorem silence_yes (I : Face) (a b : Int) (p : Option Addr) (n c : Nat) (l : List Rd) (x y : Nat) (w : World) (hm : mayB a b = true) (hn : n ≤ 100) (hnc : n ≤ c) (hA : Rw 3 rcells w p n l) (hy : U32 y) :
    Calls Try.prog 5 #[.agg #[.int .i64 a, .int .i64 b], .slice p n c, .agg #[.int .u32 (x : Int), .int .u32 (y : Int)]] w fun e w' => e = .returned (.bool true) ∧ Below w.heap.size w w' := by
  have h1 : (n : Int) ≤ 100 := by omega
  have N := Lib.hid (fun W => I.new_yes a b W hm)
  have HM := Lib.hid hm
  have hab := may_of hm
  have T0 := Lib.hid (two_boxes w #[.int .i64 a, .int .i64 b] #[.int .u32 (x : Int), .int .u32 (y : Int)] 22 44)
  have A0 := Lib.hid (hA.keep rcells_len T0.out.1)
  have HL := Lib.hid hA.1
  have HAB := Lib.hid hab
  clear hm hA hab
  go_enter Try.func5, Try.ntmps5
  go_wp2_with fail
  refine (N.out _).mono ?_
  rintro e w1 ⟨h, F1, rfl, hp, hb⟩
  have P1 := Lib.hid hp
  have C1 := Lib.hid hb
  clear hb hp N
  obtain ⟨w0, hw0⟩ : ∃ w0, (w.alloc (.cells #[.int .i64 a, .int .i64 b] 22)).alloc (.cells #[.int .u32 (x : Int), .int .u32 (y : Int)] 44) = w0 := ⟨_, rfl⟩
  rw [hw0] at T0 A0 P1 C1
  clear hw0
  go_wp2_with fail
  go_loopw [10] (fun i wr => ∃ (k : Nat) (F : Nat → Prop), k ≤ n ∧ i = .int .i64 k ∧ Hid (I.PS wr w0.heap.size h F a b (sortL (puts (l.take k)))) ∧ Hid (Below w0.heap.size w0 wr)) (fun i _ => n - (intOf i).toNat)
  case atStart => exact ⟨0, F1, Nat.zero_le _, rfl, P1, C1⟩
  case round =>
    clear P1 C1
    obtain ⟨k, F, hk, rfl, HP, HB⟩ := hrel
    by_cases hlt : k < n
    · obtain ⟨z, hz⟩ : ∃ x, l[k]? = some x := ⟨_, List.getElem?_eq_getElem (by rw [HL.out]; exact hlt)⟩
      obtain ⟨bk, o, rfl, hc⟩ := (A0.out.keep rcells_len HB.out).2 (Nat.lt_of_le_of_lt (Nat.zero_le _) hlt)
      have e0 : wr.cell? ⟨bk, o + k * 3, none⟩ = some (.int .i64 z.min) := hc k z hz 0 (by decide)
      have e1 : wr.cell? ⟨bk, o + k * 3 + 1, none⟩ = some (.int .i64 z.seq) := hc k z hz 1 (by decide)
      have e2 : wr.cell? ⟨bk, o + k * 3 + 2, none⟩ = some (.int .i64 z.ten) := hc k z hz 2 (by decide)
      have hk3 : (k : Int) < (n : Int) := by omega
      have hkc : (k : Int) < (c : Int) := by omega
      have hlen : (l.take k).length ≤ 100 := by rw [List.length_take]; omega
      obtain ⟨g1, g2, g3⟩ := sort_next hz
      have PP := Lib.hid (I.put _ h F a b _ z wr HP.out (sorted_puts _) (sright _) (Nat.le_trans (slen _) (by omega)))
      rw [g3] at PP
      clear hz hc g1 g2 g3 hlen
      obtain ⟨zm, zs, zt⟩ := z
      unfold rval at PP
      simp only at PP e0 e1 e2
      go_wp2_with fail
      refine PP.out.mono ?_
      rintro e w2 ⟨rfl, F2, hp2, ht2, hF2⟩
      have HB2 := Lib.hid (ht2.below HB.out HB.out.size (fun i hi => (I.foot HP.out hi).1))
      have HP2 := Lib.hid hp2
      clear hp2 ht2 hF2 e0 e1 e2 HP HB PP
      go_wp2
      go_roundw
      case rel => exact ⟨k + 1, F2, by omega, by go_num, HP2, HB2⟩
      case measure => simp [intOf]; omega
    · obtain rfl : k = n := by omega
      have hT : l.take k = l := List.take_of_length_le (by rw [HL.out]; exact Nat.le_refl _)
      rw [hT] at HP
      have hs := sorted_puts l
      have hsr := sright l
      have hsl : (sortL (puts l)).length ≤ 100 := Nat.le_trans (slen l) (by rw [HL.out]; exact hn)
      generalize sortL (puts l) = S at *
      have h0 : ∀ x ∈ S, 0 ≤ x.min := fun x hx => (right_of (hsr x hx)).2.2.1
      have K3 := Lib.hid (fun W (hp : I.PS W w0.heap.size h F a b S) => I.told _ h F a b _ W hp hs (by omega))
      have KN := Lib.hid (fun W m (hp : I.PS W w0.heap.size h F a b S) (m0 : (-9223372036854775808 : Int) ≤ m) (m1 : m ≤ (9223372036854775807 : Int)) => I.nextAt _ h F a b _ m W hp hs hsr HM.out (by omega) m0 m1)
      have KA := Lib.hid (fun W m (hp : I.PS W w0.heap.size h F a b S) (m0 : (-9223372036854775808 : Int) ≤ m) (m1 : m ≤ (9223372036854775807 : Int)) => I.airAt _ h F a b _ m W hp hs hsr HM.out (by omega) m0 m1)
      have HS := Lib.hid hs
      have H0 := Lib.hid h0
      have HSR := Lib.hid hsr
      clear hT hs hsr h0
      go_wp2_with fail
      refine (K3.out _ HP.out).mono ?_
      rintro e w2 ⟨va, rfl, ho, hb⟩
      obtain ⟨qa, da, rfl, hda, hra⟩ := rw_own rcells_len ho
      have HB2 := Lib.hid (HB.out.trans (hb.mono HB.out.size))
      have HP2 := Lib.hid (I.keep HP.out hb)
      have RA2 := Lib.hid hra
      clear ho hb hra HP HB K3
      obtain ⟨M, hM, hM2⟩ : ∃ M : Nat, (x : Int) % 1048577 = (M : Int) ∧ M ≤ 1048576 := ⟨x % 1048577, by omega, by omega⟩
      have hMi : (M : Int) ≤ 1048576 := by omega
      obtain ⟨b0, b1⟩ := (show 0 ≤ b ∧ b ≤ 1048575 from ⟨HAB.out.2.2.1, HAB.out.2.2.2⟩)
      have YB := Lib.hid hy
      have hsi : (S.length : Int) ≤ 100 := by omega
      by_cases hS : 0 < S.length
      · have hs0 : (0 : Int) < (S.length : Int) := by omega
        obtain ⟨yy, hyy⟩ : ∃ z, S[S.length - 1]? = some z := ⟨_, List.getElem?_eq_getElem (by omega)⟩
        have SL := Lib.hid (sorted_last HS.out hyy)
        have hyr := right_of (HSR.out yy (List.mem_of_getElem? hyy))
        obtain ⟨ob, oo, rfl, hc⟩ := RA2.out.2 hS
        have u0 : w2.cell? ⟨ob, oo + (S.length - 1) * 3, none⟩ = some (.int .i64 yy.min) := hc _ yy hyy 0 (by decide)
        obtain ⟨ym, ys, yt⟩ := yy
        simp only at u0 SL hyr
        obtain ⟨_, _, ym0, ym1, _, _⟩ := hyr
        clear hyy hc
        have bx := T0.out.2.2.below HB2.out T0.out.2.2.lt
        have a0 : w2.cell? ⟨w.heap.size + 1, 0, none⟩ = some (.int .u32 (x : Int)) := bx.cell 0
        clear bx
        go_wp2_with fail
        rw [hM]
        refine (KN.out _ (M : Int) HP2.out (by omega) (by omega)).mono ?_
        rintro e w3 ⟨rfl, hb⟩
        have HB3 := Lib.hid (HB2.out.trans (hb.mono HB2.out.size))
        have HP3 := Lib.hid (I.keep HP2.out hb)
        have RA3 := Lib.hid (RA2.out.keep rcells_len hb)
        clear hb HB2 HP2 RA2 a0
        go_wp2_with fail
        refine (KA.out _ (M : Int) HP3.out (by omega) (by omega)).mono ?_
        rintro e w4 ⟨rfl, hb⟩
        have HB5 := Lib.hid (HB3.out.trans (hb.mono HB3.out.size))
        have HP5 := Lib.hid (I.keep HP3.out hb)
        have RA4 := Lib.hid (RA3.out.keep rcells_len hb)
        have by_ := T0.out.2.1.below HB5.out T0.out.2.1.lt
        have d4 : w4.cell? ⟨w.heap.size, 0, none⟩ = some (.int .i64 a) := by_.cell 0
        have d41 : w4.cell? ⟨w.heap.size, 1, none⟩ = some (.int .i64 b) := by_.cell 1
        have l4 := by_.lt
        have bx := T0.out.2.2.below HB5.out T0.out.2.2.lt
        have a1 : w4.cell? ⟨w.heap.size + 1, 1, none⟩ = some (.int .u32 (y : Int)) := bx.cell 1
        clear hb by_ bx HB3 HP3 RA3
        have OR := Lib.hid (air_or a b (M : Int) S)
        have NG := Lib.hid (fun hh => next_gt (ga := b) (m := (M : Int)) H0.out hh)
        have NN := Lib.hid (fun hh => next_no (wo := a) (ga := b) (m := (M : Int)) H0.out hh)
        have N01 := next_le (ga := b) (m := (M : Int)) HSR.out ⟨b0, b1⟩
        have SA := Lib.hid (fun f hf hh => air_same (wo := a) (ga := b) (m := (M : Int)) (f := f) H0.out hf hh)
        have SF := Lib.hid (show air a b S (ym + b + 1 + (y : Int)) = a from air_far (t := ym) SL.out (by omega))
        generalize air a b S (M : Int) = U at *
        generalize next b S (M : Int) = N at *
        go_wp2_with fail
        go_loop [15, 16] (fun sm i => ∃ (k : Nat) (sb : Bool), k ≤ S.length ∧ i = .int .i64 k ∧ sm = .bool sb ∧ Hid (sb = true ↔ (U = a ∨ ∃ (j : Nat) (y : Rd), j < k ∧ S[j]? = some y ∧ y.ten = U))) (fun _ i => S.length - (intOf i).toNat)
        case atStart => exact ⟨0, (U == a), Nat.zero_le _, rfl, rfl, Lib.hid (by simp)⟩
        case round =>
          obtain ⟨k, sb, hk, rfl, rfl, HSB⟩ := hrel
          by_cases hlt : k < S.length
          · obtain ⟨z, hz⟩ : ∃ x, S[k]? = some x := ⟨_, List.getElem?_eq_getElem hlt⟩
            obtain ⟨ob, oo, e, hc⟩ := RA4.out.2 (Nat.lt_of_le_of_lt (Nat.zero_le _) hlt)
            cases e
            have e2 : w4.cell? ⟨ob, oo + k * 3 + 2, none⟩ = some (.int .i64 z.ten) := hc k z hz 2 (by decide)
            have AN := Lib.hid (fun s2 h2 => any_next HSB.out hz s2 h2)
            have hk3 : (k : Int) < (S.length : Int) := by omega
            clear hz hc
            obtain ⟨zm, zs, zt⟩ := z
            simp only at e2 AN
            cases sb
            · have HN2 := Lib.hid (AN.out (zt == U) (by simp))
              go_wp2
              go_round
              case rel => exact ⟨k + 1, (zt == U), by omega, by go_num, rfl, HN2⟩
              case measure => simp [intOf]; omega
            · have HN2 := Lib.hid (AN.out true (by simp))
              go_wp2
              go_round
              case rel => exact ⟨k + 1, true, by omega, by go_num, rfl, HN2⟩
              case measure => simp [intOf]; omega
          · obtain rfl : k = S.length := by omega
            have hsb : sb = true := HSB.out.2 (by
              rcases OR.out with h | ⟨x, hx, h⟩
              · exact .inl h
              · obtain ⟨j, hj⟩ := List.mem_iff_getElem?.1 hx
                exact .inr ⟨j, x, (List.getElem?_eq_some_iff.1 hj).1, hj, h⟩)
            subst hsb
            clear HSB OR RA4 hlt hk
            by_cases hN : N < 0
            · have hU := NN.out hN
              have hN' : ¬ 0 ≤ N := by omega
              subst hU
              clear NG NN
              have i1 : IntKind.i64.wrap ((M : Int) + (y : Int)) = (M : Int) + (y : Int) := IntWalk.i64_in _ (by have := u32_lt YB.out; omega)
              have HPd := Lib.hid (I.turn HP5.out (T := fun _ => False) ((Turn.refl _ w4).drew) (fun _ _ hf => hf))
              have KM := Lib.hid (fun W (hp : I.PS W w0.heap.size h F U b S) => KA.out W ((M : Int) + (y : Int)) hp (by have := u32_lt YB.out; omega) (by have := u32_lt YB.out; omega))
              rw [SA.out (y : Int) (by omega) (.inl hN)] at KM
              have tN : decide (0 ≤ N) = false := by simp; omega
              have qy : wrap64 (y : Int) = (y : Int) := IntWalk.wrap64_in _ (by have := u32_lt YB.out; omega)
              clear SA
              go_wp2_with fail
              clear qy
              have sq : wrap64 (ym + b + 1 + (y : Int)) = ym + b + 1 + (y : Int) := IntWalk.wrap64_in _ (by have := u32_lt YB.out; omega)
              obtain ⟨sl, hsl⟩ : ∃ sl, wrap64 (ym + b + 1 + (y : Int)) = sl := ⟨_, rfl⟩
              rw [hsl]
              rw [hsl] at sq
              have KS := Lib.hid (fun W (hp : I.PS W w0.heap.size h F U b S) => KA.out W sl hp (by have := u32_lt YB.out; omega) (by have := u32_lt YB.out; omega))
              rw [show air U b S sl = U by rw [sq]; exact SF.out] at KS
              have ty : decide (ym < 0) = false := by simp; omega
              clear sq hsl SF
              clear KA YB
              have cA : ∀ d os, Calls Try.prog 6 #[] (Sort.grow (redrawn w4 d) os) fun e w'' => e = .returned (.bool true) ∧ ∃ q : Regrown, w'' = Sort.grow (redrawn w4 q.d) q.os := fun d os => Calls.regrown_of (alive_any I _)
              have cM : ∀ d os, Calls Try.prog 15 #[.pointer (some ⟨h, 0, none⟩), .int .i64 ((M : Int) + (y : Int))] (Sort.grow (redrawn w4 d) os) fun e w'' => e = .returned (.int .i64 U) ∧ ∃ q : Regrown, w'' = Sort.grow (redrawn w4 q.d) q.os := fun d os => Calls.regrown_of (KM.out _ (I.keep HP5.out (below_regrown w4 d os)))
              have cS : ∀ d os, Calls Try.prog 15 #[.pointer (some ⟨h, 0, none⟩), .int .i64 sl] (Sort.grow (redrawn w4 d) os) fun e w'' => e = .returned (.int .i64 U) ∧ ∃ q : Regrown, w'' = Sort.grow (redrawn w4 q.d) q.os := fun d os => Calls.regrown_of (KS.out _ (I.keep HP5.out (below_regrown w4 d os)))
              have kd := cell_regrown d4
              have CA := Lib.hid cA
              have CM := Lib.hid cM
              have CS := Lib.hid cS
              clear cA cM cS d4 d41 a1
              refine wp_region_quiet_below (by kernel_rfl) (by kernel_rfl) ?_
              repeat (go_big_quiet_step ((first | with_reducible exact CA.out _ _ | with_reducible exact CM.out _ _ | with_reducible exact CS.out _ _)))
              refine wpQuiet_nil ?_
              intro _ hw'
              obtain ⟨⟨dq, osq⟩, hw''⟩ := hw'
              subst hw''
              go_wp2
              go_ret
              exact ⟨rfl, T0.out.1.trans ((then_ HB5.out (below_regrown w4 dq osq)).mono T0.out.1.size)⟩
            · have hN' : 0 ≤ N := by omega
              have hG := NG.out hN'
              have hG' : ¬ N ≤ (M : Int) := by omega
              obtain ⟨f, hf, f0, f1⟩ : ∃ f : Int, (y : Int) % (N - (M : Int)) = f ∧ 0 ≤ f ∧ (M : Int) + f < N :=
                ⟨_, rfl, Int.emod_nonneg _ (by omega), by have := Int.emod_lt_of_pos (y : Int) (show 0 < N - (M : Int) by omega); omega⟩
              have hd1 : (1 : Int) ≤ N - (M : Int) := by omega
              have hf2 : (y : Int).tmod (N - (M : Int)) = f := by rw [Int.tmod_eq_emod_of_nonneg (by omega)]; exact hf
              clear NG NN
              have i1 : IntKind.i64.wrap ((M : Int) + f) = (M : Int) + f := IntWalk.i64_in _ (by have := u32_lt YB.out; omega)
              have HPd := Lib.hid (I.turn HP5.out (T := fun _ => False) ((Turn.refl _ w4).drew) (fun _ _ hf => hf))
              have KM := Lib.hid (fun W (hp : I.PS W w0.heap.size h F a b S) => KA.out W ((M : Int) + f) hp (by have := u32_lt YB.out; omega) (by have := u32_lt YB.out; omega))
              rw [SA.out f f0 (.inr f1)] at KM
              have tN : decide (0 ≤ N) = true := by simp; omega
              have qy : wrap64 (y : Int) = (y : Int) := IntWalk.wrap64_in _ (by have := u32_lt YB.out; omega)
              clear SA
              go_wp2_with fail
              clear qy
              have sq : wrap64 (ym + b + 1 + (y : Int)) = ym + b + 1 + (y : Int) := IntWalk.wrap64_in _ (by have := u32_lt YB.out; omega)
              obtain ⟨sl, hsl⟩ : ∃ sl, wrap64 (ym + b + 1 + (y : Int)) = sl := ⟨_, rfl⟩
              rw [hsl]
              rw [hsl] at sq
              have KS := Lib.hid (fun W (hp : I.PS W w0.heap.size h F a b S) => KA.out W sl hp (by have := u32_lt YB.out; omega) (by have := u32_lt YB.out; omega))
              rw [show air a b S sl = a by rw [sq]; exact SF.out] at KS
              have ty : decide (ym < 0) = false := by simp; omega
              clear sq hsl SF
              clear KA YB
              have cA : ∀ d os, Calls Try.prog 6 #[] (Sort.grow (redrawn w4 d) os) fun e w'' => e = .returned (.bool true) ∧ ∃ q : Regrown, w'' = Sort.grow (redrawn w4 q.d) q.os := fun d os => Calls.regrown_of (alive_any I _)
              have cM : ∀ d os, Calls Try.prog 15 #[.pointer (some ⟨h, 0, none⟩), .int .i64 ((M : Int) + f)] (Sort.grow (redrawn w4 d) os) fun e w'' => e = .returned (.int .i64 U) ∧ ∃ q : Regrown, w'' = Sort.grow (redrawn w4 q.d) q.os := fun d os => Calls.regrown_of (KM.out _ (I.keep HP5.out (below_regrown w4 d os)))
              have cS : ∀ d os, Calls Try.prog 15 #[.pointer (some ⟨h, 0, none⟩), .int .i64 sl] (Sort.grow (redrawn w4 d) os) fun e w'' => e = .returned (.int .i64 a) ∧ ∃ q : Regrown, w'' = Sort.grow (redrawn w4 q.d) q.os := fun d os => Calls.regrown_of (KS.out _ (I.keep HP5.out (below_regrown w4 d os)))
              have kd := cell_regrown d4
              have CA := Lib.hid cA
              have CM := Lib.hid cM
              have CS := Lib.hid cS
              clear cA cM cS d4 d41 a1
              refine wp_region_quiet_below (by kernel_rfl) (by kernel_rfl) ?_
              repeat (go_big_quiet_step ((first | with_reducible exact CA.out _ _ | with_reducible exact CM.out _ _ | with_reducible exact CS.out _ _)))
              refine wpQuiet_nil ?_
              intro _ hw'
              obtain ⟨⟨dq, osq⟩, hw''⟩ := hw'
              subst hw''
              go_wp2
              go_ret
              exact ⟨rfl, T0.out.1.trans ((then_ HB5.out (below_regrown w4 dq osq)).mono T0.out.1.size)⟩
      · have hs0 : ¬ (0 : Int) < (S.length : Int) := by omega
        have bx := T0.out.2.2.below HB2.out T0.out.2.2.lt
        have a0 : w2.cell? ⟨w.heap.size + 1, 0, none⟩ = some (.int .u32 (x : Int)) := bx.cell 0
        clear bx
        go_wp2_with fail
        rw [hM]
        refine (KN.out _ (M : Int) HP2.out (by omega) (by omega)).mono ?_
        rintro e w3 ⟨rfl, hb⟩
        have HB3 := Lib.hid (HB2.out.trans (hb.mono HB2.out.size))
        have HP3 := Lib.hid (I.keep HP2.out hb)
        have RA3 := Lib.hid (RA2.out.keep rcells_len hb)
        clear hb HB2 HP2 RA2 a0
        go_wp2_with fail
        refine (KA.out _ (M : Int) HP3.out (by omega) (by omega)).mono ?_
        rintro e w4 ⟨rfl, hb⟩
        have HB5 := Lib.hid (HB3.out.trans (hb.mono HB3.out.size))
        have HP5 := Lib.hid (I.keep HP3.out hb)
        have RA4 := Lib.hid (RA3.out.keep rcells_len hb)
        have by_ := T0.out.2.1.below HB5.out T0.out.2.1.lt
        have d4 : w4.cell? ⟨w.heap.size, 0, none⟩ = some (.int .i64 a) := by_.cell 0
        have d41 : w4.cell? ⟨w.heap.size, 1, none⟩ = some (.int .i64 b) := by_.cell 1
        have l4 := by_.lt
        have bx := T0.out.2.2.below HB5.out T0.out.2.2.lt
        have a1 : w4.cell? ⟨w.heap.size + 1, 1, none⟩ = some (.int .u32 (y : Int)) := bx.cell 1
        clear hb by_ bx HB3 HP3 RA3
        have OR := Lib.hid (air_or a b (M : Int) S)
        have NG := Lib.hid (fun hh => next_gt (ga := b) (m := (M : Int)) H0.out hh)
        have NN := Lib.hid (fun hh => next_no (wo := a) (ga := b) (m := (M : Int)) H0.out hh)
        have N01 := next_le (ga := b) (m := (M : Int)) HSR.out ⟨b0, b1⟩
        have SA := Lib.hid (fun f hf hh => air_same (wo := a) (ga := b) (m := (M : Int)) (f := f) H0.out hf hh)
        generalize air a b S (M : Int) = U at *
        generalize next b S (M : Int) = N at *
        go_wp2_with fail
        go_loop [15, 16] (fun sm i => ∃ (k : Nat) (sb : Bool), k ≤ S.length ∧ i = .int .i64 k ∧ sm = .bool sb ∧ Hid (sb = true ↔ (U = a ∨ ∃ (j : Nat) (y : Rd), j < k ∧ S[j]? = some y ∧ y.ten = U))) (fun _ i => S.length - (intOf i).toNat)
        case atStart => exact ⟨0, (U == a), Nat.zero_le _, rfl, rfl, Lib.hid (by simp)⟩
        case round =>
          obtain ⟨k, sb, hk, rfl, rfl, HSB⟩ := hrel
          by_cases hlt : k < S.length
          · exfalso
            omega
          · obtain rfl : k = S.length := by omega
            have hsb : sb = true := HSB.out.2 (by
              rcases OR.out with h | ⟨x, hx, h⟩
              · exact .inl h
              · obtain ⟨j, hj⟩ := List.mem_iff_getElem?.1 hx
                exact .inr ⟨j, x, (List.getElem?_eq_some_iff.1 hj).1, hj, h⟩)
            subst hsb
            clear HSB OR RA4 hlt hk
            by_cases hN : N < 0
            · have hU := NN.out hN
              have hN' : ¬ 0 ≤ N := by omega
              subst hU
              clear NG NN
              have i1 : IntKind.i64.wrap ((M : Int) + (y : Int)) = (M : Int) + (y : Int) := IntWalk.i64_in _ (by have := u32_lt YB.out; omega)
              have HPd := Lib.hid (I.turn HP5.out (T := fun _ => False) ((Turn.refl _ w4).drew) (fun _ _ hf => hf))
              have KM := Lib.hid (fun W (hp : I.PS W w0.heap.size h F U b S) => KA.out W ((M : Int) + (y : Int)) hp (by have := u32_lt YB.out; omega) (by have := u32_lt YB.out; omega))
              rw [SA.out (y : Int) (by omega) (.inl hN)] at KM
              have tl : decide ((-1 : Int) < 0) = true := by decide
              have tl2 : ((-1 : Int) < 0) = True := by simp
              have tN : decide (0 ≤ N) = false := by simp; omega
              have qy : wrap64 (y : Int) = (y : Int) := IntWalk.wrap64_in _ (by have := u32_lt YB.out; omega)
              clear SA
              go_wp2_with fail
              clear qy
              clear KA YB
              have cA : ∀ d os, Calls Try.prog 6 #[] (Sort.grow (redrawn w4 d) os) fun e w'' => e = .returned (.bool true) ∧ ∃ q : Regrown, w'' = Sort.grow (redrawn w4 q.d) q.os := fun d os => Calls.regrown_of (alive_any I _)
              have cM : ∀ d os, Calls Try.prog 15 #[.pointer (some ⟨h, 0, none⟩), .int .i64 ((M : Int) + (y : Int))] (Sort.grow (redrawn w4 d) os) fun e w'' => e = .returned (.int .i64 U) ∧ ∃ q : Regrown, w'' = Sort.grow (redrawn w4 q.d) q.os := fun d os => Calls.regrown_of (KM.out _ (I.keep HP5.out (below_regrown w4 d os)))
              have kd := cell_regrown d4
              have CA := Lib.hid cA
              have CM := Lib.hid cM
              clear cA cM d4 d41 a1
              refine wp_region_quiet_below (by kernel_rfl) (by kernel_rfl) ?_
              repeat (go_big_quiet_step ((first | with_reducible exact CA.out _ _ | with_reducible exact CM.out _ _)))
              refine wpQuiet_nil ?_
              intro _ hw'
              obtain ⟨⟨dq, osq⟩, hw''⟩ := hw'
              subst hw''
              go_wp2
              go_ret
              exact ⟨rfl, T0.out.1.trans ((then_ HB5.out (below_regrown w4 dq osq)).mono T0.out.1.size)⟩
            · have hN' : 0 ≤ N := by omega
              have hG := NG.out hN'
              have hG' : ¬ N ≤ (M : Int) := by omega
              obtain ⟨f, hf, f0, f1⟩ : ∃ f : Int, (y : Int) % (N - (M : Int)) = f ∧ 0 ≤ f ∧ (M : Int) + f < N :=
                ⟨_, rfl, Int.emod_nonneg _ (by omega), by have := Int.emod_lt_of_pos (y : Int) (show 0 < N - (M : Int) by omega); omega⟩
              have hd1 : (1 : Int) ≤ N - (M : Int) := by omega
              have hf2 : (y : Int).tmod (N - (M : Int)) = f := by rw [Int.tmod_eq_emod_of_nonneg (by omega)]; exact hf
              clear NG NN
              have i1 : IntKind.i64.wrap ((M : Int) + f) = (M : Int) + f := IntWalk.i64_in _ (by have := u32_lt YB.out; omega)
              have HPd := Lib.hid (I.turn HP5.out (T := fun _ => False) ((Turn.refl _ w4).drew) (fun _ _ hf => hf))
              have KM := Lib.hid (fun W (hp : I.PS W w0.heap.size h F a b S) => KA.out W ((M : Int) + f) hp (by have := u32_lt YB.out; omega) (by have := u32_lt YB.out; omega))
              rw [SA.out f f0 (.inr f1)] at KM
              have tl : decide ((-1 : Int) < 0) = true := by decide
              have tl2 : ((-1 : Int) < 0) = True := by simp
              have tN : decide (0 ≤ N) = true := by simp; omega
              have qy : wrap64 (y : Int) = (y : Int) := IntWalk.wrap64_in _ (by have := u32_lt YB.out; omega)
              clear SA
              go_wp2_with fail
              clear qy
              clear KA YB
              have cA : ∀ d os, Calls Try.prog 6 #[] (Sort.grow (redrawn w4 d) os) fun e w'' => e = .returned (.bool true) ∧ ∃ q : Regrown, w'' = Sort.grow (redrawn w4 q.d) q.os := fun d os => Calls.regrown_of (alive_any I _)
              have cM : ∀ d os, Calls Try.prog 15 #[.pointer (some ⟨h, 0, none⟩), .int .i64 ((M : Int) + f)] (Sort.grow (redrawn w4 d) os) fun e w'' => e = .returned (.int .i64 U) ∧ ∃ q : Regrown, w'' = Sort.grow (redrawn w4 q.d) q.os := fun d os => Calls.regrown_of (KM.out _ (I.keep HP5.out (below_regrown w4 d os)))
              have kd := cell_regrown d4
              have CA := Lib.hid cA
              have CM := Lib.hid cM
              clear cA cM d4 d41 a1
              refine wp_region_quiet_below (by kernel_rfl) (by kernel_rfl) ?_
              repeat (go_big_quiet_step ((first | with_reducible exact CA.out _ _ | with_reducible exact CM.out _ _)))
              refine wpQuiet_nil ?_
              intro _ hw'
              obtain ⟨⟨dq, osq⟩, hw''⟩ := hw'
              subst hw''
              go_wp2
              go_ret
              exact ⟨rfl, T0.out.1.trans ((then_ HB5.out (below_regrown w4 dq osq)).mono T0.out.1.size)⟩
end Se
end Go.Proofs.Ythlpbkkglaaofaa
