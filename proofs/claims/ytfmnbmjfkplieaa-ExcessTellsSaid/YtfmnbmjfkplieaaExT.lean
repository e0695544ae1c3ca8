/- Three numbers that came in. No condition but those written. The walk over the law that holds package excess against the document's answer: the questions that are not gone through; one round. Conditions: the contracts of package excess. The walk over the law that holds package excess against the document's answer. Conditions: the contracts of package excess; the list reads as readings. ExcessTells over arguments that came in. No condition but those written. -/
import Derived.Test.YtfmnbmjfkplieaaSeArg
import Derived.Test.YtfmnbmjfkplieaaExL1
import Derived.Test.YtfmnbmjfkplieaaEx1
import Derived.Test.YtfmnbmjfkplieaaSeL2
import Derived.Test.YtfmnbmjfkplieaaSeL4
import Derived.Test.YtfmnbmjfkplieaaExL2
import Derived.Test.YtfmnbmjfkplieaaRng
import Derived.Test.YtfmnbmjfkplieaaExL3
import Derived.Test.YtfmnbmjfkplieaaExP9
namespace Go.Proofs.Ytfmnbmjfkplieaa
open Go.RowKit Go.ChangeShapes Go.WideShapes

namespace Ex
/-- Three numbers that came in. -/
def In3 (k : IntKind) (v : Value) (x : Int × Int × Int) : Prop := v = .agg #[.int k x.1, .int k x.2.1, .int k x.2.2] ∧ (Lit.int k x.1).wf = true ∧ (Lit.int k x.2.1).wf = true ∧ (Lit.int k x.2.2).wf = true
theorem in3_of {H : Type} {enc : TypeId × Value → H} {W : World} {base : Nat} {v : Value} {d : DataW H} {ps : List MemPlace} {t e : TypeId} {k : IntKind} (ht : Try.prog.underlying t = some (.array 3 e)) (he : Try.prog.underlying e = some (.int k)) (hm : Try.prog.cellsOf t = 3) (hc : Try.prog.cellsOf e = 1) (hv : Value.okWide Try.prog W .any base t v)
    (h : DataW.Trod enc Try.prog W 0 (fun _ => true) true t v d ps) : ∃ x, In3 k v x := by
  obtain ⟨cs, rfl, hl, hf⟩ := open_array ht hm hc hv h
  match cs, hl with
  | [v0, v1, v2], _ =>
    obtain ⟨n0, y0, f0⟩ := hf 0 (by decide)
    obtain ⟨n1, y1, f1⟩ := hf 1 (by decide)
    obtain ⟨n2, y2, f2⟩ := hf 2 (by decide)
    simp only [Nat.zero_mul, Nat.one_mul, List.drop_zero, List.drop_succ_cons, List.take_succ_cons, List.take_zero] at f0 f1 f2
    obtain ⟨m0, e0, _, g0⟩ := DataW.trod_int he f0
    obtain ⟨m1, e1, _, g1⟩ := DataW.trod_int he f1
    obtain ⟨m2, e2, _, g2⟩ := DataW.trod_int he f2
    simp only [List.cons.injEq, and_true] at e0 e1 e2
    subst e0 e1 e2
    exact ⟨(m0, m1, m2), rfl, g0, g1, g2⟩
end Ex
end Go.Proofs.Ytfmnbmjfkplieaa

namespace Go.Proofs.Ytfmnbmjfkplieaa
open Go.RowKit Se

namespace Ex
/-- It tells something. -/
def Tells (w : World) (e : Ending) (w' : World) : Prop := (∃ t : Bool, e = .returned (.bool t)) ∧ w = w'
theorem fits_any (a b : Int) (w : World) (a0 : -9223372036854775808 ≤ a) (a1 : a ≤ 9223372036854775807) (b0 : -9223372036854775808 ≤ b) (b1 : b ≤ 9223372036854775807) :
    Calls Try.prog 6 #[.int .i64 a, .int .i64 b] w (Tells w) := by
  by_cases h1 : b ≤ a
  · go_enter Try.func6, Try.ntmps6
    go_wp2
    go_ret
    exact ⟨⟨_, rfl⟩, rfl⟩
  · have h1' : a < b := by omega
    by_cases h2 : b ≤ 0
    · go_enter Try.func6, Try.ntmps6
      go_wp2
      go_ret
      exact ⟨⟨_, rfl⟩, rfl⟩
    · have h2' : 0 < b := by omega
      by_cases h3 : 1048575 < a
      · go_enter Try.func6, Try.ntmps6
        go_wp2
        go_ret
        exact ⟨⟨_, rfl⟩, rfl⟩
      · have h3' : a ≤ 1048575 := by omega
        go_enter Try.func6, Try.ntmps6
        go_wp2
        go_ret
        exact ⟨⟨_, rfl⟩, rfl⟩
/-- The answer's series is written, the index is kept. -/
theorem sideR (I : Face) {w w' : World} {B h g : Nat} {F : Nat → Prop} {v : Value} {wo ga li : Int} {S L' : List Rd} {B2 : Nat} (hp : I.IX w B h F wo ga li S) (hd : ∀ k, F k → ¬ Feet g v k) (hm : RPut w B2 g v wo ga L' w') :
    ∃ v', RSer w' B2 g v' wo ga L' ∧ I.IX w' B h F wo ga li S ∧ (∀ k, F k → ¬ Feet g v' k) ∧ Turn (Feet g v) w w' := by
  obtain ⟨v', hr, ht, hv⟩ := hm
  refine ⟨v', hr, I.turn hp ht hd, fun k hk hf => ?_, ht⟩
  rcases hf with rfl | hf
  · exact hd k hk (.inl rfl)
  · rcases hv k hf with h | h
    · exact hd k hk (.inr h)
    · have := (I.foot hp hk).2
      omega
set_option maxRecDepth 100000 in
set_option maxHeartbeats 4000000 in
theorem xtells_no (I : Face) (a b li : Int) (p : Option Addr) (n c : Nat) (f t : Int) (w : World) (hn : n ≤ 9223372036854775807) (hm : (mayB a b && tenB li) = false) (f0 : -9223372036854775808 ≤ f) (f1 : f ≤ 9223372036854775807) (t0 : -9223372036854775808 ≤ t) (t1 : t ≤ 9223372036854775807) :
    Calls Try.prog 3 #[.agg #[.int .i64 a, .int .i64 b, .int .i64 li], .slice p n c, .agg #[.int .i64 f, .int .i64 t]] w fun e w' => e = .returned (.bool true) ∧ Below w.heap.size w w' := by
  have hn' : (n : Int) ≤ 9223372036854775807 := by omega
  have N := Lib.hid (fun W => I.new_no a b li W hm)
  have M := Lib.hid (fun W => rmay_any a b W)
  have FT := Lib.hid (fun W => fits_any f t W f0 f1 t0 t1)
  have T0 := Lib.hid (two_boxes w #[.int .i64 a, .int .i64 b, .int .i64 li] #[.int .i64 f, .int .i64 t] 22 24)
  have TB := Lib.hid (show mayB a b = true → ¬ (-1099511627776 ≤ li ∧ li ≤ 1099511627776) from fun h1 h2 => by
    rw [h1, Bool.true_and] at hm
    have : tenB li = true := by simpa [tenB] using h2
    rw [this] at hm
    cases hm)
  clear hm f0 f1 t0 t1 hn
  go_enter Try.func3, Try.ntmps3
  go_wp2_with fail
  refine (FT.out _).mono ?_
  rintro e w1 ⟨⟨ok, rfl⟩, rfl⟩
  cases ok with
  | false =>
    go_wp2_with fail
    refine (xalive_any I _).mono ?_
    rintro e w3 ⟨rfl, hb⟩
    have B3 := Lib.hid (T0.out.1.trans (hb.mono T0.out.1.size))
    clear hb
    go_wp2
    go_ret
    exact ⟨rfl, B3.out⟩
  | true =>
    by_cases h60 : (60 : Int) < (n : Int)
    · go_wp2_with fail
      refine (xalive_any I _).mono ?_
      rintro e w3 ⟨rfl, hb⟩
      have B3 := Lib.hid (T0.out.1.trans (hb.mono T0.out.1.size))
      clear hb
      go_wp2
      go_ret
      exact ⟨rfl, B3.out⟩
    · have h60' : (n : Int) ≤ 60 := by omega
      have t60 : decide ((60 : Int) < (n : Int)) = false := decide_eq_false h60
      go_wp2_with fail
      refine (N.out _).mono ?_
      rintro e w1 ⟨rfl, hb⟩
      have B1 := Lib.hid (T0.out.1.trans (hb.mono T0.out.1.size))
      have X1 := T0.out.2.1.below hb T0.out.2.1.lt
      have x0 : w1.cell? ⟨w.heap.size, 0, none⟩ = some (.int .i64 a) := X1.cell 0
      have x1 : w1.cell? ⟨w.heap.size, 1, none⟩ = some (.int .i64 b) := X1.cell 1
      have x2 : w1.cell? ⟨w.heap.size, 2, none⟩ = some (.int .i64 li) := X1.cell 2
      clear hb X1 N
      go_wp2_with fail
      refine (M.out _).mono ?_
      rintro e w2 ⟨rfl, rfl⟩
      cases hmb : mayB a b with
      | false =>
        go_wp2_with fail
        refine (xalive_any I _).mono ?_
        rintro e w3 ⟨rfl, hb⟩
        have B3 := Lib.hid (B1.out.trans (hb.mono B1.out.size))
        clear hb
        go_wp2
        go_ret
        exact ⟨rfl, B3.out⟩
      | true =>
        have hli := TB.out hmb
        by_cases hlo : li < -1099511627776
        · go_wp2_with fail
          refine (xalive_any I _).mono ?_
          rintro e w3 ⟨rfl, hb⟩
          have B3 := Lib.hid (B1.out.trans (hb.mono B1.out.size))
          clear hb
          go_wp2
          go_ret
          exact ⟨rfl, B3.out⟩
        · have hlo' : -1099511627776 ≤ li := by omega
          have hhi : 1099511627776 < li := by
            have : ¬ li ≤ 1099511627776 := fun h => hli ⟨hlo', h⟩
            omega
          clear hli
          go_wp2_with fail
          refine (xalive_any I _).mono ?_
          rintro e w3 ⟨rfl, hb⟩
          have B3 := Lib.hid (B1.out.trans (hb.mono B1.out.size))
          clear hb
          go_wp2
          go_ret
          exact ⟨rfl, B3.out⟩
end Ex
end Go.Proofs.Ytfmnbmjfkplieaa

namespace Go.Proofs.Ytfmnbmjfkplieaa
open Go.RowKit Se

namespace Ex
set_option maxRecDepth 100000 in
set_option maxHeartbeats 16000000 in
theorem xtells_yes (I : Face) (a b li : Int) (p : Option Addr) (n c : Nat) (l : List Rd) (f t : Int) (w : World) (hn : n ≤ 9223372036854775807) (hm : mayB a b = true) (hl : tenB li = true) (hnc : n ≤ c) (hA : Rw 3 rcells w p n l) (f0 : -9223372036854775808 ≤ f) (f1 : f ≤ 9223372036854775807) (t0 : -9223372036854775808 ≤ t) (t1 : t ≤ 9223372036854775807) :
    Calls Try.prog 3 #[.agg #[.int .i64 a, .int .i64 b, .int .i64 li], .slice p n c, .agg #[.int .i64 f, .int .i64 t]] w fun e w' => e = .returned (.bool true) ∧ Below w.heap.size w w' := by
  have hn' : (n : Int) ≤ 9223372036854775807 := by omega
  have N := Lib.hid (fun W => I.new_yes a b li W hm hl)
  have M := Lib.hid (fun W => rmay_any a b W)
  rw [hm] at M
  have HM := Lib.hid hm
  have HLi := Lib.hid hl
  have hab := may_of hm
  have HG := Lib.hid (show 0 ≤ b ∧ b ≤ 1048575 from ⟨hab.2.2.1, hab.2.2.2⟩)
  obtain ⟨li1, li2⟩ : -1099511627776 ≤ li ∧ li ≤ 1099511627776 := by simpa [tenB] using hl
  have FT := Lib.hid (fun W => fits_any f t W f0 f1 t0 t1)
  have FB := Lib.hid (And.intro f0 (And.intro f1 (And.intro t0 t1)))
  have T0 := Lib.hid (two_boxes w #[.int .i64 a, .int .i64 b, .int .i64 li] #[.int .i64 f, .int .i64 t] 22 24)
  have A0 := Lib.hid (hA.keep rcells_len T0.out.1)
  have HL := Lib.hid hA.1
  have HNC := Lib.hid hnc
  clear hm hl hab f0 f1 t0 t1 hA hn hnc
  go_enter Try.func3, Try.ntmps3
  go_wp2_with fail
  refine (FT.out _).mono ?_
  rintro e w1 ⟨⟨ok, rfl⟩, rfl⟩
  clear FT
  cases ok with
  | false =>
    go_wp2_with fail
    refine (xalive_any I _).mono ?_
    rintro e w3 ⟨rfl, hb⟩
    have B3 := Lib.hid (T0.out.1.trans (hb.mono T0.out.1.size))
    clear hb
    go_wp2
    go_ret
    exact ⟨rfl, B3.out⟩
  | true =>
    by_cases h60 : (60 : Int) < (n : Int)
    · go_wp2_with fail
      refine (xalive_any I _).mono ?_
      rintro e w3 ⟨rfl, hb⟩
      have B3 := Lib.hid (T0.out.1.trans (hb.mono T0.out.1.size))
      clear hb
      go_wp2
      go_ret
      exact ⟨rfl, B3.out⟩
    · have h60' : (n : Int) ≤ 60 := by omega
      have t60 : decide ((60 : Int) < (n : Int)) = false := decide_eq_false h60
      clear h60 hn'
      go_wp2_with fail
      refine (N.out _).mono ?_
      rintro e w1 ⟨h, F1, rfl, hp, hb⟩
      obtain ⟨w0, hw0⟩ : ∃ w0, (w.alloc (.cells #[.int .i64 a, .int .i64 b, .int .i64 li] 22)).alloc (.cells #[.int .i64 f, .int .i64 t] 24) = w0 := ⟨_, rfl⟩
      rw [hw0] at T0 A0 hp hb
      clear hw0
      have X1 := T0.out.2.1.below hb T0.out.2.1.lt
      have x0 : w1.cell? ⟨w.heap.size, 0, none⟩ = some (.int .i64 a) := X1.cell 0
      have x1 : w1.cell? ⟨w.heap.size, 1, none⟩ = some (.int .i64 b) := X1.cell 1
      have x2 : w1.cell? ⟨w.heap.size, 2, none⟩ = some (.int .i64 li) := X1.cell 2
      have P1 := Lib.hid (I.keep hp (alloc_below w1 (.cells #[.int .i64 a, .int .i64 b, .slice none 0 0] 33)))
      have R1 := Lib.hid (rser_new w1 a b)
      have D1 := Lib.hid (show ∀ k, F1 k → ¬ Feet w1.heap.size (.slice none 0 0) k from fun k hk hf => by
        have h1 := (I.foot hp hk).2
        rcases hf with h2 | h2
        · omega
        · cases h2)
      have C1 := Lib.hid (hb.alloc hb.size (.cells #[.int .i64 a, .int .i64 b, .slice none 0 0] 33))
      have H01 := Lib.hid hb.size
      clear hb X1 hp N
      go_wp2_with fail
      refine (M.out _).mono ?_
      rintro e w2 ⟨rfl, rfl⟩
      go_wp2_with fail
      go_loopw [12] (fun i wr => ∃ (k : Nat) (F : Nat → Prop) (v : Value), k ≤ n ∧ i = .int .i64 k ∧ Hid (I.IX wr w0.heap.size h F a b li (sortL (puts (l.take k)))) ∧ Hid (RSer wr w1.heap.size w1.heap.size v a b (puts (l.take k))) ∧ Hid (∀ j, F j → ¬ Feet w1.heap.size v j) ∧ Hid (Below w0.heap.size w0 wr)) (fun i _ => n - (intOf i).toNat)
      case atStart => exact ⟨0, F1, _, Nat.zero_le _, rfl, P1, R1, D1, C1⟩
      case round =>
        clear P1 R1 D1 C1 x0 x1 x2 M
        obtain ⟨k, F, v, hk, rfl, HP, HR, HD, HB⟩ := hrel
        by_cases hlt : k < n
        · obtain ⟨x, hx⟩ : ∃ x, l[k]? = some x := ⟨_, List.getElem?_eq_getElem (by rw [HL.out]; exact hlt)⟩
          obtain ⟨bk, o, rfl, hc⟩ := (A0.out.keep rcells_len HB.out).2 (Nat.lt_of_le_of_lt (Nat.zero_le _) hlt)
          have e0 : wr.cell? ⟨bk, o + k * 3, none⟩ = some (.int .i64 x.min) := hc k x hx 0 (by decide)
          have e1 : wr.cell? ⟨bk, o + k * 3 + 1, none⟩ = some (.int .i64 x.seq) := hc k x hx 1 (by decide)
          have e2 : wr.cell? ⟨bk, o + k * 3 + 2, none⟩ = some (.int .i64 x.ten) := hc k x hx 2 (by decide)
          have hk3 : (k : Int) < (n : Int) := by omega
          have hkc : (k : Int) < (c : Int) := by have := HNC.out; omega
          have hlen : ∀ j, (l.take j).length ≤ 100 := fun j => by rw [List.length_take, HL.out]; omega
          obtain ⟨g1, g2, g3⟩ := sort_next hx
          have PP := Lib.hid (I.put _ h F a b li _ x wr HP.out (sorted_puts _) (sright _) HM.out HLi.out (Nat.le_trans (slen _) (Nat.le_trans (hlen _) (by omega))))
          have RR := Lib.hid (fun W (hr : RSer W w1.heap.size w1.heap.size v a b (puts (l.take k))) => rput_any _ _ v a b _ x W hr (Nat.le_trans (puts_len _) (Nat.le_trans (hlen _) (by omega))))
          rw [g1, g2, g3] at PP
          rw [← puts_next hx] at RR
          have SX := Lib.hid (fun F0 W (hq : I.IX W w0.heap.size h F0 a b li (sortL (puts (l.take (k + 1))))) => I.sum _ h F0 a b li _ f t W hq (sorted_puts _) (sright _) HM.out HLi.out (Nat.le_trans (slen _) (Nat.le_trans (hlen _) (by omega))) FB.out.1 FB.out.2.1 FB.out.2.2.1 FB.out.2.2.2)
          have SR := Lib.hid (fun v0 W (hq : RSer W w1.heap.size w1.heap.size v0 a b (puts (l.take (k + 1)))) => rsum_yes _ _ v0 a b li _ f t W hq (puts_right _) HM.out HLi.out (Nat.le_trans (puts_len _) (Nat.le_trans (hlen _) (by omega))) FB.out.2.1 FB.out.2.2.2)
          rw [tot_like (puts_apart (l.take (k + 1))) (like_sorted _)] at SX
          have HX := Lib.hid hx
          clear hx hc g1 g2 g3 hlen
          generalize hU : tot a b li (puts (l.take (k + 1))) f t = U at *
          clear hU
          generalize (putR (puts (l.take k)) x).1 = u1 at *
          generalize (putR (puts (l.take k)) x).2.1 = u2 at *
          obtain ⟨xm, xs, xt⟩ := x
          unfold rval at PP RR
          simp only at PP RR e0 e1 e2
          go_wp2_with fail
          refine PP.out.mono ?_
          rintro e w2 ⟨rfl, F2, hp2, ht2, hF2⟩
          obtain ⟨hr2, hd2⟩ := side1 HR.out HD.out ht2 hF2
          have HB2 := Lib.hid (ht2.below HB.out HB.out.size (fun i hi => (I.foot HP.out hi).1))
          have HP2 := Lib.hid hp2
          have HR2 := Lib.hid hr2
          have HD2 := Lib.hid hd2
          clear hp2 ht2 hF2 hr2 hd2 e0 e1 e2 HP HR HD HB PP
          obtain ⟨_, _, e, hc⟩ := (A0.out.keep rcells_len HB2.out).2 (Nat.lt_of_le_of_lt (Nat.zero_le _) hlt)
          cases e
          have e0 : w2.cell? ⟨bk, o + k * 3, none⟩ = some (.int .i64 xm) := hc k _ HX.out 0 (by decide)
          have e1 : w2.cell? ⟨bk, o + k * 3 + 1, none⟩ = some (.int .i64 xs) := hc k _ HX.out 1 (by decide)
          have e2 : w2.cell? ⟨bk, o + k * 3 + 2, none⟩ = some (.int .i64 xt) := hc k _ HX.out 2 (by decide)
          clear hc
          go_wp2_with fail
          refine (RR.out _ HR2.out).mono ?_
          rintro e w3 ⟨rfl, hr3⟩
          obtain ⟨v3, hr3, hp3, hd3, ht3⟩ := sideR I HP2.out HD2.out hr3
          have HB3 := Lib.hid (ht3.below HB2.out HB2.out.size (fun i hi => Nat.le_trans H01.out (HR2.out.foot hi).1))
          have HP3 := Lib.hid hp3
          have HR3 := Lib.hid hr3
          have HD3 := Lib.hid hd3
          have q1 : (u1 != u1) = false := by cases u1 <;> rfl
          have q2 : (((u2 : Nat) : Int) != ((u2 : Nat) : Int)) = false := by simp
          have q3 : (U != U) = false := by simp
          clear hp3 hr3 hd3 ht3 e0 e1 e2 HP2 HR2 HD2 HB2 RR
          by_cases hz : k % 3 = 0
          · have z3 : (((k : Nat) : Int) % 3 == 0) = true := by simp; omega
            have z3' : (((k : Nat) : Int).tmod 3 == 0) = true := by
              rw [Int.tmod_eq_emod_of_nonneg (by omega)]
              exact z3
            go_wp2_with fail
            have HP4 := Lib.hid (I.turn HP3.out (T := fun _ => False) ((Turn.refl _ w3).drew) (fun _ _ hf => hf))
            have HR4 := Lib.hid (HR3.out.turn (S := fun _ => False) ((Turn.refl _ w3).drew) (fun _ _ hf => hf))
            have HB4 := Lib.hid (HB3.out.drew)
            have y0 : w3.drew.cell? ⟨w.heap.size + 1, 0, none⟩ = some (.int .i64 f) := (T0.out.2.2.below HB4.out T0.out.2.2.lt).cell 0
            have y1 : w3.drew.cell? ⟨w.heap.size + 1, 1, none⟩ = some (.int .i64 t) := (T0.out.2.2.below HB4.out T0.out.2.2.lt).cell 1
            have y2 : w3.drew.cell? ⟨w.heap.size, 2, none⟩ = some (.int .i64 li) := (T0.out.2.1.below HB4.out T0.out.2.1.lt).cell 2
            clear HP3 HR3 HB3
            refine region_T 30 (fun w' => w'.cell? ⟨w.heap.size + 1, 0, none⟩ = some (.int .i64 f) ∧ w'.cell? ⟨w.heap.size + 1, 1, none⟩ = some (.int .i64 t) ∧ w'.cell? ⟨w.heap.size, 2, none⟩ = some (.int .i64 li)) (by kernel_rfl) ⟨y0, y1, y2⟩ (fun hS => ?_)
            refine takeL (i := 0) (v := ?_) rfl (by kernel_rfl) (by kernel_rfl) (by kernel_rfl) (by kernel_rfl) (by kernel_rfl) (fun _ _ _ h => h) (Or.inl ⟨by rfl, ?_⟩) (by assumption) ?_
            rotate_left
            · (intro w' hSw; (try dsimp only at hSw); go_simp; with_reducible rfl)
            try simp only [Act.put, List.setIfInBounds_toArray, List.set_cons_zero, List.set_cons_succ]
            refine takeL (i := 1) (v := ?_) rfl (by kernel_rfl) (by kernel_rfl) (by kernel_rfl) (by kernel_rfl) (by kernel_rfl) (fun _ _ _ h => h) (Or.inl ⟨by rfl, ?_⟩) (by assumption) ?_
            rotate_left
            · (intro w' hSw; (try dsimp only at hSw); go_simp; with_reducible rfl)
            try simp only [Act.put, List.setIfInBounds_toArray, List.set_cons_zero, List.set_cons_succ]
            refine takeL (i := 2) (v := ?_) rfl (by kernel_rfl) (by kernel_rfl) (by kernel_rfl) (by kernel_rfl) (by kernel_rfl) (fun _ _ _ h => h) (Or.inl ⟨by rfl, ?_⟩) (by assumption) ?_
            rotate_left
            · (intro w' hSw; (try dsimp only at hSw); go_simp; with_reducible rfl)
            try simp only [Act.put, List.setIfInBounds_toArray, List.set_cons_zero, List.set_cons_succ]
            refine takeL (i := 3) (v := ?_) rfl (by kernel_rfl) (by kernel_rfl) (by kernel_rfl) (by kernel_rfl) (by kernel_rfl) (fun _ _ _ h => h) (Or.inl ⟨by rfl, ?_⟩) (by assumption) ?_
            rotate_left
            · (intro w' hSw; (try dsimp only at hSw); go_simp; with_reducible rfl)
            try simp only [Act.put, List.setIfInBounds_toArray, List.set_cons_zero, List.set_cons_succ]
            refine takeL (i := 4) (v := ?_) rfl (by kernel_rfl) (by kernel_rfl) (by kernel_rfl) (by kernel_rfl) (by kernel_rfl) (fun _ _ _ h => h) (Or.inl ⟨by rfl, ?_⟩) (by assumption) ?_
            rotate_left
            · (intro w' hSw; (try dsimp only at hSw); go_simp; with_reducible rfl)
            try simp only [Act.put, List.setIfInBounds_toArray, List.set_cons_zero, List.set_cons_succ]
            refine takeL (i := 5) (v := ?_) rfl (by kernel_rfl) (by kernel_rfl) (by kernel_rfl) (by kernel_rfl) (by kernel_rfl) (fun _ _ _ h => h) (Or.inl ⟨by rfl, ?_⟩) (by assumption) ?_
            rotate_left
            · (intro w' hSw; (try dsimp only at hSw); go_simp; with_reducible rfl)
            try simp only [Act.put, List.setIfInBounds_toArray, List.set_cons_zero, List.set_cons_succ]
            refine takeL (i := 6) (v := ?_) rfl (by kernel_rfl) (by kernel_rfl) (by kernel_rfl) (by kernel_rfl) (by kernel_rfl) (fun _ _ _ h => h) (Or.inl ⟨by rfl, ?_⟩) (by assumption) ?_
            rotate_left
            · (intro w' hSw; (try dsimp only at hSw); go_simp; with_reducible rfl)
            try simp only [Act.put, List.setIfInBounds_toArray, List.set_cons_zero, List.set_cons_succ]
            refine takeL (i := 7) (v := ?_) rfl (by kernel_rfl) (by kernel_rfl) (by kernel_rfl) (by kernel_rfl) (by kernel_rfl) (fun _ _ _ h => h) (Or.inl ⟨by rfl, ?_⟩) (by assumption) ?_
            rotate_left
            · (intro w' hSw; (try dsimp only at hSw); go_simp; with_reducible rfl)
            try simp only [Act.put, List.setIfInBounds_toArray, List.set_cons_zero, List.set_cons_succ]
            refine takeL (i := 8) (v := ?_) rfl (by kernel_rfl) (by kernel_rfl) (by kernel_rfl) (by kernel_rfl) (by kernel_rfl) (fun _ _ _ h => h) (Or.inl ⟨by rfl, ?_⟩) (by assumption) ?_
            rotate_left
            · (intro w' hSw; (try dsimp only at hSw); go_simp; with_reducible rfl)
            try simp only [Act.put, List.setIfInBounds_toArray, List.set_cons_zero, List.set_cons_succ]
            refine takeL (i := 9) (v := ?_) rfl (by kernel_rfl) (by kernel_rfl) (by kernel_rfl) (by kernel_rfl) (by kernel_rfl) (fun _ _ _ h => h) (Or.inl ⟨by rfl, ?_⟩) (by assumption) ?_
            rotate_left
            · (intro w' hSw; (try dsimp only at hSw); go_simp; with_reducible rfl)
            try simp only [Act.put, List.setIfInBounds_toArray, List.set_cons_zero, List.set_cons_succ]
            refine takeL (i := 10) (v := ?_) rfl (by kernel_rfl) (by kernel_rfl) (by kernel_rfl) (by kernel_rfl) (by kernel_rfl) (fun _ _ _ h => h) (Or.inl ⟨by rfl, ?_⟩) (by assumption) ?_
            rotate_left
            · (intro w' hSw; (try dsimp only at hSw); go_simp; with_reducible rfl)
            try simp only [Act.put, List.setIfInBounds_toArray, List.set_cons_zero, List.set_cons_succ]
            refine takeL (i := 11) (v := ?_) rfl (by kernel_rfl) (by kernel_rfl) (by kernel_rfl) (by kernel_rfl) (by kernel_rfl) (fun _ _ _ h => h) (Or.inl ⟨by rfl, ?_⟩) (by assumption) ?_
            rotate_left
            · (intro w' hSw; (try dsimp only at hSw); go_simp; with_reducible rfl)
            try simp only [Act.put, List.setIfInBounds_toArray, List.set_cons_zero, List.set_cons_succ]
            refine takeL (i := 12) (v := ?_) rfl (by kernel_rfl) (by kernel_rfl) (by kernel_rfl) (by kernel_rfl) (by kernel_rfl) (fun _ _ _ h => h) (Or.inl ⟨by rfl, ?_⟩) (by assumption) ?_
            rotate_left
            · (intro w' hSw; (try dsimp only at hSw); go_simp; with_reducible rfl)
            try simp only [Act.put, List.setIfInBounds_toArray, List.set_cons_zero, List.set_cons_succ]
            refine takeL (i := 13) (v := ?_) rfl (by kernel_rfl) (by kernel_rfl) (by kernel_rfl) (by kernel_rfl) (by kernel_rfl) (fun _ _ _ h => h) (Or.inl ⟨by rfl, ?_⟩) (by assumption) ?_
            rotate_left
            · (intro w' hSw; (try dsimp only at hSw); go_simp; with_reducible rfl)
            try simp only [Act.put, List.setIfInBounds_toArray, List.set_cons_zero, List.set_cons_succ]
            refine takeL (i := 14) (v := ?_) rfl (by kernel_rfl) (by kernel_rfl) (by kernel_rfl) (by kernel_rfl) (by kernel_rfl) (fun _ _ _ h => h) (Or.inl ⟨by rfl, ?_⟩) (by assumption) ?_
            rotate_left
            · (intro w' hSw; (try dsimp only at hSw); go_simp; with_reducible rfl)
            try simp only [Act.put, List.setIfInBounds_toArray, List.set_cons_zero, List.set_cons_succ]
            refine takeL (i := 15) (v := ?_) rfl (by kernel_rfl) (by kernel_rfl) (by kernel_rfl) (by kernel_rfl) (by kernel_rfl) (fun _ _ _ h => h) (Or.inl ⟨by rfl, ?_⟩) (by assumption) ?_
            rotate_left
            · (intro w' hSw; (try dsimp only at hSw); go_simp; with_reducible rfl)
            try simp only [Act.put, List.setIfInBounds_toArray, List.set_cons_zero, List.set_cons_succ]
            refine takeL (i := 16) (v := ?_) rfl (by kernel_rfl) (by kernel_rfl) (by kernel_rfl) (by kernel_rfl) (by kernel_rfl) (fun _ _ _ h => h) (Or.inl ⟨by rfl, ?_⟩) (by assumption) ?_
            rotate_left
            · (intro w' hSw; (try dsimp only at hSw); go_simp; with_reducible rfl)
            try simp only [Act.put, List.setIfInBounds_toArray, List.set_cons_zero, List.set_cons_succ]
            refine takeL (i := 17) (v := ?_) rfl (by kernel_rfl) (by kernel_rfl) (by kernel_rfl) (by kernel_rfl) (by kernel_rfl) (fun _ _ _ h => h) (Or.inl ⟨by rfl, ?_⟩) (by assumption) ?_
            rotate_left
            · (intro w' hSw; (try dsimp only at hSw); go_simp; with_reducible rfl)
            try simp only [Act.put, List.setIfInBounds_toArray, List.set_cons_zero, List.set_cons_succ]
            refine takeL (i := 19) (v := ?_) rfl (by kernel_rfl) (by kernel_rfl) (by kernel_rfl) (by kernel_rfl) (by kernel_rfl) (fun _ _ _ h => h) (Or.inl ⟨by rfl, ?_⟩) (by assumption) ?_
            rotate_left
            · (intro w' hSw; (try dsimp only at hSw); go_simp; with_reducible rfl)
            try simp only [Act.put, List.setIfInBounds_toArray, List.set_cons_zero, List.set_cons_succ]
            refine takeL (i := 20) (v := ?_) rfl (by kernel_rfl) (by kernel_rfl) (by kernel_rfl) (by kernel_rfl) (by kernel_rfl) (fun _ _ _ h => h) (Or.inl ⟨by rfl, ?_⟩) (by assumption) ?_
            rotate_left
            · (intro w' hSw; (try dsimp only at hSw); go_simp; with_reducible rfl)
            try simp only [Act.put, List.setIfInBounds_toArray, List.set_cons_zero, List.set_cons_succ]
            refine takeL (i := 21) (v := ?_) rfl (by kernel_rfl) (by kernel_rfl) (by kernel_rfl) (by kernel_rfl) (by kernel_rfl) (fun _ _ _ h => h) (Or.inl ⟨by rfl, ?_⟩) (by assumption) ?_
            rotate_left
            · (intro w' hSw; (try dsimp only at hSw); go_simp; with_reducible rfl)
            try simp only [Act.put, List.setIfInBounds_toArray, List.set_cons_zero, List.set_cons_succ]
            refine takeL (i := 22) (v := ?_) rfl (by kernel_rfl) (by kernel_rfl) (by kernel_rfl) (by kernel_rfl) (by kernel_rfl) (fun _ _ _ h => h) (Or.inl ⟨by rfl, ?_⟩) (by assumption) ?_
            rotate_left
            · (intro w' hSw; (try dsimp only at hSw); go_simp; with_reducible rfl)
            try simp only [Act.put, List.setIfInBounds_toArray, List.set_cons_zero, List.set_cons_succ]
            refine takeL (i := 23) (v := ?_) rfl (by kernel_rfl) (by kernel_rfl) (by kernel_rfl) (by kernel_rfl) (by kernel_rfl) (fun _ _ _ h => h) (Or.inl ⟨by rfl, ?_⟩) (by assumption) ?_
            rotate_left
            · (intro w' hSw; (try dsimp only at hSw); go_simp; with_reducible rfl)
            try simp only [Act.put, List.setIfInBounds_toArray, List.set_cons_zero, List.set_cons_succ]
            refine takeL (i := 24) (v := ?_) rfl (by kernel_rfl) (by kernel_rfl) (by kernel_rfl) (by kernel_rfl) (by kernel_rfl) (fun _ _ _ h => h) (Or.inl ⟨by rfl, ?_⟩) (by assumption) ?_
            rotate_left
            · (intro w' hSw; (try dsimp only at hSw); go_simp; with_reducible rfl)
            try simp only [Act.put, List.setIfInBounds_toArray, List.set_cons_zero, List.set_cons_succ]
            refine takeL (i := 25) (v := ?_) rfl (by kernel_rfl) (by kernel_rfl) (by kernel_rfl) (by kernel_rfl) (by kernel_rfl) (fun _ _ _ h => h) (Or.inl ⟨by rfl, ?_⟩) (by assumption) ?_
            rotate_left
            · (intro w' hSw; (try dsimp only at hSw); go_simp; with_reducible rfl)
            try simp only [Act.put, List.setIfInBounds_toArray, List.set_cons_zero, List.set_cons_succ]
            refine oneL (i := 18) (by kernel_rfl) rfl (fun K hK => ?_)
            go_simp
            refine (SX.out _ _ HP4.out).mono ?_
            rintro e w5 ⟨rfl, F5, hp5, ht5, hF5⟩
            obtain ⟨hr5, hd5⟩ := side1 HR4.out HD3.out ht5 hF5
            have HB5 := Lib.hid (ht5.below HB4.out HB4.out.size (fun i hi => (I.foot HP4.out hi).1))
            have HP5 := Lib.hid hp5
            have HR5 := Lib.hid hr5
            have HD5 := Lib.hid hd5
            have z0 : w5.cell? ⟨w.heap.size + 1, 0, none⟩ = some (.int .i64 f) := (T0.out.2.2.below HB5.out T0.out.2.2.lt).cell 0
            have z1 : w5.cell? ⟨w.heap.size + 1, 1, none⟩ = some (.int .i64 t) := (T0.out.2.2.below HB5.out T0.out.2.2.lt).cell 1
            have z2 : w5.cell? ⟨w.heap.size, 2, none⟩ = some (.int .i64 li) := (T0.out.2.1.below HB5.out T0.out.2.1.lt).cell 2
            clear hp5 ht5 hF5 hr5 hd5 HP4 HR4 HD3 HB4 y0 y1 y2 hS SX
            refine hK.out _ _ (fun _ => ⟨z0, z1, z2⟩) ?_
            clear hK K
            try simp only [Act.put, List.setIfInBounds_toArray, List.set_cons_zero, List.set_cons_succ]
            refine oneL (i := 26) (by kernel_rfl) rfl (fun K hK => ?_)
            go_simp
            refine (SR.out _ _ HR5.out).mono ?_
            rintro e w6 ⟨rfl, hb⟩
            have HB6 := Lib.hid (HB5.out.trans (hb.mono HB5.out.size))
            have HP6 := Lib.hid (I.keep HP5.out hb)
            have HR6 := Lib.hid (HR5.out.below hb)
            have z0 : w6.cell? ⟨w.heap.size + 1, 0, none⟩ = some (.int .i64 f) := (T0.out.2.2.below HB6.out T0.out.2.2.lt).cell 0
            have z1 : w6.cell? ⟨w.heap.size + 1, 1, none⟩ = some (.int .i64 t) := (T0.out.2.2.below HB6.out T0.out.2.2.lt).cell 1
            have z2 : w6.cell? ⟨w.heap.size, 2, none⟩ = some (.int .i64 li) := (T0.out.2.1.below HB6.out T0.out.2.1.lt).cell 2
            clear hb HP5 HR5 HB5 SR
            refine hK.out _ _ (fun _ => ⟨z0, z1, z2⟩) ?_
            clear hK K
            try simp only [Act.put, List.setIfInBounds_toArray, List.set_cons_zero, List.set_cons_succ]
            have hS := And.intro z0 (And.intro z1 z2)
            refine takeL (i := 27) (v := ?_) rfl (by kernel_rfl) (by kernel_rfl) (by kernel_rfl) (by kernel_rfl) (by kernel_rfl) (fun _ _ _ h => h) (Or.inl ⟨by rfl, ?_⟩) (by assumption) ?_
            rotate_left
            · (intro w' hSw; (try dsimp only at hSw); go_simp; with_reducible rfl)
            try simp only [Act.put, List.setIfInBounds_toArray, List.set_cons_zero, List.set_cons_succ]
            refine takeL (i := 28) (v := ?_) rfl (by kernel_rfl) (by kernel_rfl) (by kernel_rfl) (by kernel_rfl) (by kernel_rfl) (fun _ _ _ h => h) (Or.inl ⟨by rfl, ?_⟩) (by assumption) ?_
            rotate_left
            · (intro w' hSw; (try dsimp only at hSw); go_simp; with_reducible rfl)
            try simp only [Act.put, List.setIfInBounds_toArray, List.set_cons_zero, List.set_cons_succ]
            refine takeL (i := 29) (v := ?_) rfl (by kernel_rfl) (by kernel_rfl) (by kernel_rfl) (by kernel_rfl) (by kernel_rfl) (fun _ _ _ h => h) (Or.inl ⟨by rfl, ?_⟩) (by assumption) ?_
            rotate_left
            · (intro w' hSw; (try dsimp only at hSw); go_simp; with_reducible rfl)
            try simp only [Act.put, List.setIfInBounds_toArray, List.set_cons_zero, List.set_cons_succ]
            refine doneO (by kernel_rfl) ?_ _
            clear hS z0 z1 z2
            go_wp2
            go_roundw
            case rel => exact ⟨k + 1, F5, v3, by omega, by go_num, HP6, HR6, HD5, HB6⟩
            case measure => simp [intOf]; omega
          · have z3 : (((k : Nat) : Int) % 3 == 0) = false := beq_eq_false_iff_ne.2 (by omega)
            have z3' : (((k : Nat) : Int).tmod 3 == 0) = false := by
              rw [Int.tmod_eq_emod_of_nonneg (by omega)]
              exact z3
            go_wp2_with fail
            go_quiet (fail)
            go_wp2
            go_roundw
            case rel => exact ⟨k + 1, F2, v3, by omega, by go_num, Lib.hid (I.turn HP3.out (T := fun _ => False) (turn_drewN _ _ _) (fun _ _ hf => hf)), Lib.hid (HR3.out.turn (S := fun _ => False) (turn_drewN _ _ _) (fun _ _ hf => hf)), HD3, Lib.hid (below_drewN HB3.out _)⟩
            case measure => simp [intOf]; omega
        · obtain rfl : k = n := by omega
          have hT : l.take k = l := List.take_of_length_le (by rw [HL.out]; exact Nat.le_refl _)
          rw [hT] at HP HR
          have hlen : (puts l).length ≤ 100 := Nat.le_trans (puts_len l) (by rw [HL.out]; omega)
          have ha := puts_apart l
          have hr := puts_right l
          generalize puts l = L at *
          have hs := sorted_sort ha
          have hsr : ∀ x ∈ sortL L, rightB x = true := fun x hx => hr x ((mem_sort _ x).1 hx)
          have hsl : (sortL L).length ≤ 100 := by rw [len_sort]; exact hlen
          have SR := Lib.hid (fun W (hq : RSer W w1.heap.size w1.heap.size v a b L) => rsum_yes _ _ v a b li _ f t W hq hr HM.out HLi.out (by omega) FB.out.2.1 FB.out.2.2.2)
          have SX := Lib.hid (fun F0 W (hq : I.IX W w0.heap.size h F0 a b li (sortL L)) => I.sum _ h F0 a b li _ f t W hq hs hsr HM.out HLi.out (by omega) FB.out.1 FB.out.2.1 FB.out.2.2.1 FB.out.2.2.2)
          have SS := Lib.hid (fun B0 h2 F0 W (hq : PSF W B0 h2 F0 a b (sortL L)) => I.ssum B0 h2 F0 a b li _ f t W hq hs hsr HM.out HLi.out (by omega) FB.out.1 FB.out.2.1 FB.out.2.2.1 FB.out.2.2.2)
          rw [tot_like ha (like_sorted L)] at SX SS
          have SN := Lib.hid (fun B0 h2 F0 W (hq : PSF W B0 h2 F0 a b (sortL L)) => I.ssum_no B0 h2 F0 a b 1099511627777 _ 0 9 W hq (by decide))
          have KS := Lib.hid (fun W (hq : I.IX W w0.heap.size h F a b li (sortL L)) => I.ser _ h F a b li _ W hq hs hsr HM.out HLi.out (by omega))
          have KT := Lib.hid (fun B0 h2 F0 W (hq : PSF W B0 h2 F0 a b (sortL L)) => face.told B0 h2 F0 a b _ W hq hs (by omega))
          have KA := Lib.hid (fun W (hq : RSer W w1.heap.size w1.heap.size v a b L) => rall_any _ _ v a b L W hq ha (by omega))
          have KE := Lib.hid (fun q q2 d d2 W (h1 : Rw 3 rcells W q (sortL L).length (sortL L)) (h2 : Rw 3 rcells W q2 (sortL L).length (sortL L)) => rsame_any q q2 _ _ d d2 _ _ W (by omega) h1 h2)
          rw [show decide (sortL L = sortL L) = true by simp] at KE
          have KN := Lib.hid (fun W => I.nil_put ⟨0, 0, 0⟩ W)
          unfold rval at KN
          simp only at KN
          generalize hU : tot a b li L f t = U at *
          have q3 : (U == U) = true := by simp
          clear hT hlen ha hr hs hsr hsl hU
          have y0 : wr.cell? ⟨w.heap.size + 1, 0, none⟩ = some (.int .i64 f) := (T0.out.2.2.below HB.out T0.out.2.2.lt).cell 0
          have y1 : wr.cell? ⟨w.heap.size + 1, 1, none⟩ = some (.int .i64 t) := (T0.out.2.2.below HB.out T0.out.2.2.lt).cell 1
          have y2 : wr.cell? ⟨w.heap.size, 2, none⟩ = some (.int .i64 li) := (T0.out.2.1.below HB.out T0.out.2.1.lt).cell 2
          go_wp2_with fail
          refine (SR.out _ HR.out).mono ?_
          rintro e w2 ⟨rfl, hb⟩
          have B2 := Lib.hid (HB.out.trans (hb.mono HB.out.size))
          have P2 := Lib.hid (I.keep HP.out hb)
          have R2 := Lib.hid (HR.out.below hb)
          clear hb y0 y1 y2 HP HR HB HD SR
          go_wp2_with fail
          refine (KS.out _ P2.out).mono ?_
          rintro e w3 ⟨h2, F2, rfl, hq, hb⟩
          have DD := Lib.hid (show ∀ j, F j → ¬ F2 j from fun j hj hj2 => by
            have a1 := (I.foot P2.out hj).2
            have a2 := (face.foot hq hj2).1
            omega)
          have B3 := Lib.hid (B2.out.trans (hb.mono B2.out.size))
          have P3 := Lib.hid (I.keep P2.out hb)
          have R3 := Lib.hid (R2.out.below hb)
          have Q3 := Lib.hid hq
          clear hb hq P2 R2 B2 KS
          go_wp2_with fail
          refine (KT.out _ h2 F2 _ Q3.out).mono ?_
          rintro e w4 ⟨va, rfl, ho, hb⟩
          obtain ⟨qa, da, rfl, _, hra⟩ := rw_own rcells_len ho
          have B4 := Lib.hid (B3.out.trans (hb.mono B3.out.size))
          have P4 := Lib.hid (I.keep P3.out hb)
          have R4 := Lib.hid (R3.out.below hb)
          have Q4 := Lib.hid (face.keep Q3.out hb)
          have RA4 := Lib.hid hra
          clear ho hb hra P3 R3 Q3 B3 KT
          go_wp2_with fail
          refine (KA.out _ R4.out).mono ?_
          rintro e w5 ⟨vb, rfl, ho, hb⟩
          obtain ⟨qb, db, rfl, _, hrb⟩ := rw_own rcells_len ho
          have B5 := Lib.hid (B4.out.trans (hb.mono B4.out.size))
          have P5 := Lib.hid (I.keep P4.out hb)
          have Q5 := Lib.hid (face.keep Q4.out hb)
          have RA5 := Lib.hid (RA4.out.keep rcells_len hb)
          have RB5 := Lib.hid hrb
          clear ho hb hrb P4 R4 Q4 B4 RA4 KA
          go_wp2_with fail
          refine (KE.out qa qb _ _ _ RA5.out RB5.out).mono ?_
          rintro e w6' ⟨rfl, m6, hw6⟩
          have P6 := Lib.hid (show I.IX w6' w0.heap.size h F a b li (sortL L) from hw6 ▸ I.turn P5.out (T := fun _ => False) (turn_drewN _ _ _) (fun _ _ hf => hf))
          have Q6 := Lib.hid (show PSF w6' _ h2 F2 a b (sortL L) from hw6 ▸ face.turn Q5.out (T := fun _ => False) (turn_drewN _ _ _) (fun _ _ hf => hf))
          have B6 := Lib.hid (show Below w0.heap.size w0 w6' from hw6 ▸ below_drewN B5.out _)
          clear hw6 P5 Q5 B5 RA5 RB5 KE
          go_wp2_with fail
          refine (KN.out _).mono ?_
          rintro e w7 ⟨rfl, hb⟩
          have B7 := Lib.hid (B6.out.trans (hb.mono B6.out.size))
          have P7 := Lib.hid (I.keep P6.out hb)
          have Q7 := Lib.hid (face.keep Q6.out hb)
          clear hb P6 Q6 B6 KN
          go_wp2_with fail
          refine (xalive_any I _).mono ?_
          rintro e w8 ⟨rfl, hb⟩
          have B8 := Lib.hid (B7.out.trans (hb.mono B7.out.size))
          have P8 := Lib.hid (I.keep P7.out hb)
          have Q8 := Lib.hid (face.keep Q7.out hb)
          clear hb P7 Q7 B7
          have y0 : w8.cell? ⟨w.heap.size + 1, 0, none⟩ = some (.int .i64 f) := (T0.out.2.2.below B8.out T0.out.2.2.lt).cell 0
          have y1 : w8.cell? ⟨w.heap.size + 1, 1, none⟩ = some (.int .i64 t) := (T0.out.2.2.below B8.out T0.out.2.2.lt).cell 1
          have y2 : w8.cell? ⟨w.heap.size, 2, none⟩ = some (.int .i64 li) := (T0.out.2.1.below B8.out T0.out.2.1.lt).cell 2
          go_wp2_with fail
          refine (SX.out _ _ P8.out).mono ?_
          rintro e w9 ⟨rfl, hh⟩
          obtain ⟨F9, hp9, hq9, _, ht9⟩ := sideS I hh Q8.out DD.out
          have B9 := Lib.hid (ht9.below B8.out B8.out.size (fun i hi => (I.foot P8.out hi).1))
          have Q9 := Lib.hid hq9
          clear hh hp9 hq9 ht9 P8 Q8 B8 SX DD y0 y1 y2
          have y0 : w9.cell? ⟨w.heap.size + 1, 0, none⟩ = some (.int .i64 f) := (T0.out.2.2.below B9.out T0.out.2.2.lt).cell 0
          have y1 : w9.cell? ⟨w.heap.size + 1, 1, none⟩ = some (.int .i64 t) := (T0.out.2.2.below B9.out T0.out.2.2.lt).cell 1
          have y2 : w9.cell? ⟨w.heap.size, 2, none⟩ = some (.int .i64 li) := (T0.out.2.1.below B9.out T0.out.2.1.lt).cell 2
          go_wp2_with fail
          refine (SS.out _ _ _ _ Q9.out).mono ?_
          rintro e w10 ⟨rfl, hb⟩
          have B10 := Lib.hid (B9.out.trans (hb.mono B9.out.size))
          have Q10 := Lib.hid (face.keep Q9.out hb)
          clear hb Q9 B9 SS y0 y1 y2
          go_wp2_with fail
          refine (I.nil_sum 0 9 _).mono ?_
          rintro e w11 ⟨rfl, hb⟩
          have B11 := Lib.hid (B10.out.trans (hb.mono B10.out.size))
          have Q11 := Lib.hid (face.keep Q10.out hb)
          clear hb Q10 B10
          go_wp2_with fail
          refine (I.nil_ser _).mono ?_
          rintro e w12 ⟨rfl, hb⟩
          have B12 := Lib.hid (B11.out.trans (hb.mono B11.out.size))
          have Q12 := Lib.hid (face.keep Q11.out hb)
          clear hb Q11 B11
          go_wp2_with fail
          refine (SN.out _ _ _ _ Q12.out).mono ?_
          rintro e w13 ⟨rfl, hb⟩
          have B13 := Lib.hid (B12.out.trans (hb.mono B12.out.size))
          clear hb Q12 B12 SN
          go_wp2
          go_ret
          exact ⟨rfl, T0.out.1.trans (B13.out.mono T0.out.1.size)⟩
end Ex
end Go.Proofs.Ytfmnbmjfkplieaa

namespace Go.Proofs.Ytfmnbmjfkplieaa
open Go.RowKit Go.ChangeShapes Go.WideShapes

theorem own : ownKnob Try.prog.godebug = none := by kernel_rfl
theorem t_arg0_of {H : Type} {enc : TypeId × Value → H} {W : World} {base : Nat} {v : Value} {d : DataW H} {ps : List MemPlace} (hv : Value.okWide Try.prog W .any base 22 v) (h : DataW.Trod enc Try.prog W 0 (fun _ => true) true 22 v d ps) :
    ∃ x, Ex.In3 .i64 v x := Ex.in3_of Try.underlying22 Try.underlying3 (by kernel_rfl) (by kernel_rfl) hv h
theorem t_arg1_of {H : Type} {enc : TypeId × Value → H} {W : World} {base : Nat} {v : Value} {d : DataW H} {ps : List MemPlace} (hv : Value.okWide Try.prog W .any base 23 v) (h : DataW.Trod enc Try.prog W 0 (fun _ => true) true 23 v d ps) :
    ∃ x, Se.InR W v x := Se.inR_of hv h
theorem t_arg2_of {H : Type} {enc : TypeId × Value → H} {W : World} {base : Nat} {v : Value} {d : DataW H} {ps : List MemPlace} (hv : Value.okWide Try.prog W .any base 24 v) (h : DataW.Trod enc Try.prog W 0 (fun _ => true) true 24 v d ps) :
    ∃ x, Se.In2 .i64 v x := Se.in2_of Try.underlying24 Try.underlying3 (by kernel_rfl) (by kernel_rfl) hv h
theorem tells_in (v0 : Value) (x : Int × Int × Int) (v1 : Value) (y : Bs) (v2 : Value) (m : Int × Int) (W : World) (w0 : Ex.In3 .i64 v0 x) (w1 : Se.InR W v1 y) (w2 : Se.In2 .i64 v2 m) :
    Calls Try.prog 3 #[v0, v1, v2] W fun e w' => e = .returned (.bool true) ∧ Below W.heap.size W w' := by
  obtain ⟨rfl, _⟩ := w0
  obtain ⟨rfl, hnc, hbig, l, hA⟩ := w1
  obtain ⟨a, b, c⟩ := x
  obtain ⟨m1, m2⟩ := m
  obtain ⟨rfl, ha, hb⟩ := w2
  have h1 := Se.i64_of ha
  have h2 := Se.i64_of hb
  by_cases hM : Se.mayB a b = true ∧ Se.tenB c = true
  · exact Ex.xtells_yes Ex.xface a b c y.p y.n y.c l m1 m2 W hbig hM.1 hM.2 hnc hA h1.1 h1.2 h2.1 h2.2
  · exact Ex.xtells_no Ex.xface a b c y.p y.n y.c m1 m2 W hbig (Ex.both_no hM) h1.1 h1.2 h2.1 h2.2
end Go.Proofs.Ytfmnbmjfkplieaa
