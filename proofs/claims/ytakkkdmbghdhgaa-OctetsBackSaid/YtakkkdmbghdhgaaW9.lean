/- Walks over the live question of layer 4. -/
import Derived.Test.YtakkkdmbghdhgaaW7
namespace Go.Proofs.Ytakkkdmbghdhgaa
open Go.RowKit

theorem own : ownKnob Try.prog.godebug = none := by kernel_rfl
theorem wrote_below {w wi w' : World} {B g : Nat} {v : Value} {s0 s : Option (List Nat)} (hp : PW wi B g v s0) (hb : Below B w wi) (h : Wrote wi B g v s w') : ∃ v', PW w' B g v' s ∧ Below B w w' := by
  obtain ⟨v', hp', ht, _⟩ := h
  exact ⟨v', hp', ht.below hb (Nat.le_trans hp.1 (Nat.le_of_lt (hp.foot (.inl rfl)).2)) (fun i hi => (hp.foot hi).1)⟩
theorem short_of {l : List Nat} {n : Nat} (h : l.length ≤ n) : short (some l) n := fun l' e => by
  injection e with e
  rw [← e]
  exact h
theorem at_one (w : World) (u : Nat) (hu : u < 256) : At (w.alloc (.cells #[.int .u8 (u : Int)] 5)) (some ⟨w.heap.size, 0, none⟩) 1 [u] := by
  refine ⟨rfl, ?_, fun _ => ⟨w.heap.size, 0, rfl, fun j hj => ?_⟩⟩
  · intro x hx
    rw [List.mem_singleton.1 hx]
    exact hu
  · rw [Nat.zero_add, cell_of_row _ w.heap.size j _ 5 (0, 0) (heap_alloc_new w _)]
    match j, hj with
    | 0, _ => rfl
theorem PW.below {w w' : World} {B g : Nat} {v : Value} {s : Option (List Nat)} (h : PW w B g v s) (hb : Below w.heap.size w w') : PW w' B g v s := h.turn (S := fun _ => False) (Turn.of_below hb) (fun _ _ hf => hf)
theorem PR.below {w w' : World} {g : Nat} {s : Nat × List Nat} (h : PR w g s) (hb : Below w.heap.size w w') : PR w' g s := h.turn (S := fun _ => False) (Turn.of_below hb) (fun _ hk => False.elim hk) (fun hf => hf)
theorem foot_new {w : World} {B g : Nat} {v : Value} {s : Option (List Nat)} (h : PW w B g v s) : ∀ a : Addr, (some ⟨w.heap.size, 0, none⟩ : Option Addr) = some a → ¬ Foot g v a.block := by
  intro a ha hf
  injection ha with ha
  subst ha
  have := (h.foot hf).2
  simp only at this
  omega
theorem alloc_below (w : World) (o : Obj) : Below w.heap.size w (w.alloc o) := (Below.refl _ w).alloc (Nat.le_refl _) o
/-- At the end: a writer's bytes at its end, without the writer. -/
theorem took_below {w wi w' : World} {g : Nat} {s : Nat × List Nat} (hb : Below w.heap.size w wi) (hg : w.heap.size ≤ g) (h : Took wi g s w') : PR w' g s ∧ Below w.heap.size w w' :=
  ⟨h.1, h.2.below hb hb.size (fun i hi => by rw [hi]; exact hg)⟩

def b1 : List Nat := [0, 1, 2]
def b2 : List Nat := [0, 1, 2, 255, 255, 255, 255, 255, 255, 255, 254]
def b3 : List Nat := [0, 1, 2, 255, 255, 255, 255, 255, 255, 255, 254, 1]
def b4 : List Nat := [0, 1, 2, 255, 255, 255, 255, 255, 255, 255, 254, 1, 0, 0, 0, 1, 9]
theorem s1 : Oc.wnum (some []) 258 3 = some b1 := by decide +kernel
theorem s2 : Oc.wnum (some b1) 18446744073709551614 8 = some b2 := by decide +kernel
theorem s3 : Oc.wnum (some b2) (if true = true then 1 else 0) 1 = some b3 := by decide +kernel
theorem s4 : Oc.wrun (some b3) [9] = some b4 := by decide +kernel
theorem s5 : Oc.rnum (0, b4) 3 = (258, (0, b4.drop 3)) := by decide +kernel
theorem s6 : Oc.rnum (0, b4.drop 3) 8 = (18446744073709551614, (0, b4.drop 11)) := by decide +kernel
theorem s7 : Oc.rbool (0, b4.drop 11) = (true, (0, b4.drop 12)) := by decide +kernel
theorem s8 : Oc.rrun (0, b4.drop 12) = ([9], (0, [])) := by decide +kernel
theorem s9 : Oc.wnum (some []) 256 1 = none := by decide +kernel
theorem s10 : Oc.rbool (0, [2]) = (false, (2, [])) := by decide +kernel
theorem neg2 : IntKind.u64.wrap (-2) = ((18446744073709551614 : Nat) : Int) := by decide +kernel

set_option maxRecDepth 100000 in
set_option maxHeartbeats 4000000 in
/-- The live question. -/
theorem alive_any (w : World) : Calls Try.prog 7 #[] w fun e w' => e = .returned (.bool true) ∧ Below w.heap.size w w' := by
  have P0 := Lib.hid (new_pw w w.heap.size (Nat.le_refl _))
  have B0 := Lib.hid (show Below w.heap.size w (w.alloc (.cells #[.slice none 0 0, .int .i64 0] 55)) from (Below.refl _ w).alloc (Nat.le_refl _) _)
  go_enter Try.func7, Try.ntmps7
  go_wp2_with fail
  refine (new_any w).mono ?_
  rintro e w1 ⟨rfl, rfl⟩
  generalize w.alloc (.cells #[.slice none 0 0, .int .i64 0] 55) = w1 at *
  go_wp2_with fail
  refine (num_any _ _ _ _ 258 3 _ P0.out (short_of (by decide))).mono ?_
  rintro e w2 ⟨rfl, hw⟩
  rw [s1] at hw
  obtain ⟨v2, p2, h2⟩ := wrote_below P0.out B0.out hw
  have P2 := Lib.hid p2
  have B2 := Lib.hid h2
  clear P0 B0 hw p2 h2
  go_wp2_with fail
  refine (int_any _ _ _ _ (-2) _ _ P2.out neg2 (short_of (by decide))).mono ?_
  rintro e w3 ⟨rfl, hw⟩
  rw [s2] at hw
  obtain ⟨v3, p3, h3⟩ := wrote_below P2.out B2.out hw
  have P3 := Lib.hid p3
  have B3 := Lib.hid h3
  clear P2 B2 hw p3 h3
  go_wp2_with fail
  refine (bool_any _ _ _ _ true _ P3.out (short_of (by decide))).mono ?_
  rintro e w4 ⟨rfl, hw⟩
  rw [s3] at hw
  obtain ⟨v4, p4, h4⟩ := wrote_below P3.out B3.out hw
  have P4 := Lib.hid p4
  have B4 := Lib.hid h4
  clear P3 B3 hw p4 h4
  go_wp2_with fail
  have P4' := Lib.hid (P4.out.below (alloc_below w4 (.cells #[.int .u8 9] 5)))
  have B4' := Lib.hid (B4.out.trans ((alloc_below w4 (.cells #[.int .u8 9] 5)).mono B4.out.size))
  refine (run_any _ _ _ _ _ 1 1 [9] _ P4'.out (short_of (by decide)) (by decide) (at_one w4 9 (by decide)) (fun _ => foot_new P4.out)).mono ?_
  rintro e w5 ⟨rfl, hw⟩
  rw [s4] at hw
  obtain ⟨v5, p5, h5⟩ := wrote_below P4'.out B4'.out hw
  have P5 := Lib.hid p5
  have B5 := Lib.hid h5
  clear P4 B4 P4' B4' hw p5 h5
  go_wp2_with fail
  refine (done_any _ _ _ _ _ P5.out (short_of (by decide))).mono ?_
  rintro e w6 ⟨q, d, rfl, hd, hA, hb⟩
  have A6 : Hid (At w6 q 17 b4) := Lib.hid hA
  have B6 := Lib.hid (B5.out.trans (hb.mono B5.out.size))
  have hd' : 17 ≤ d := hd
  clear P5 B5 hA hb hd
  go_wp2_with fail
  refine (newr_any q 17 d b4 _ (by decide) A6.out).mono ?_
  rintro e w7 ⟨g, rfl, hg, hr, hb⟩
  have A7 := Lib.hid (A6.out.keep hb)
  have R7 := Lib.hid hr
  have B7 := Lib.hid (B6.out.trans (hb.mono B6.out.size))
  have G7 := Lib.hid (Nat.le_trans B6.out.size hg)
  clear A6 B6 hr hb hg
  go_wp2_with fail
  refine (get_any g _ 3 _ R7.out).mono ?_
  rintro e w8 ⟨rfl, ht⟩
  rw [s5] at ht
  have A8 := Lib.hid (A7.out.plain ht.2 R7.out.plain)
  obtain ⟨hr, hb⟩ := took_below B7.out G7.out ht
  have R8 := Lib.hid hr
  have B8 := Lib.hid hb
  clear A7 R7 B7 ht hr hb
  go_wp2_with fail
  refine (gint_any g _ _ R8.out).mono ?_
  rintro e w9 ⟨rfl, ht⟩
  rw [s6] at ht
  have A9 := Lib.hid (A8.out.plain ht.2 R8.out.plain)
  obtain ⟨hr, hb⟩ := took_below B8.out G7.out ht
  have R9 := Lib.hid hr
  have B9 := Lib.hid hb
  clear A8 R8 B8 ht hr hb
  go_wp2_with fail
  refine (gbool_any g _ _ R9.out).mono ?_
  rintro e w10 ⟨rfl, ht⟩
  rw [s7] at ht
  have A10 := Lib.hid (A9.out.plain ht.2 R9.out.plain)
  obtain ⟨hr, hb⟩ := took_below B9.out G7.out ht
  have R10 := Lib.hid hr
  have B10 := Lib.hid hb
  clear A9 R9 B9 ht hr hb
  go_wp2_with fail
  refine (grun_any g _ _ R10.out (by decide)).mono ?_
  rintro e w11 ⟨v11, rfl, ho, ht⟩
  rw [s8] at ht ho
  obtain ⟨q11, d11, rfl, hd11, hA11⟩ := ho
  have A11 := Lib.hid (A10.out.plain ht.2 R10.out.plain)
  obtain ⟨hr, hb⟩ := took_below B10.out G7.out ht
  have R11 := Lib.hid hr
  have B11 := Lib.hid hb
  have U11 : Hid (At w11 q11 1 [9]) := Lib.hid hA11
  clear A10 R10 B10 ht hr hb hA11
  go_wp2_with fail
  refine (new_any w11).mono ?_
  rintro e w12 ⟨rfl, hw12⟩
  have hb := alloc_below w11 (.cells #[.slice none 0 0, .int .i64 0] 55)
  have P12 := new_pw w11 w11.heap.size (Nat.le_refl _)
  rw [← hw12] at hb P12
  have Q12 := Lib.hid P12
  have D12 := Lib.hid hb
  clear hw12 P12 hb
  go_wp2_with fail
  refine (num_any _ _ _ _ 256 1 _ Q12.out (short_of (by decide))).mono ?_
  rintro e w13 ⟨rfl, hw⟩
  rw [s9] at hw
  obtain ⟨v13, p13, h13⟩ := wrote_below Q12.out D12.out hw
  have Q13 := Lib.hid p13
  have D13 := Lib.hid h13
  clear Q12 D12 hw p13 h13
  go_wp2_with fail
  refine (done_any _ _ _ none _ Q13.out (fun l e => by cases e)).mono ?_
  rintro e w14 ⟨q14, d14, rfl, _, _, hb⟩
  have D14 := Lib.hid (D13.out.trans (hb.mono D13.out.size))
  clear Q13 D13 hb
  have A14 := Lib.hid (A11.out.keep D14.out)
  have R14 := Lib.hid (R11.out.below D14.out)
  have U14 := Lib.hid (U11.out.keep D14.out)
  have B14 := Lib.hid (B11.out.trans (D14.out.mono B11.out.size))
  clear A11 R11 U11 B11 D14
  go_wp2_with fail
  have hb := alloc_below w14 (.cells #[.int .u8 2] 5)
  have A15 := Lib.hid (A14.out.keep hb)
  have R15 := Lib.hid (R14.out.below hb)
  have U15 := Lib.hid (U14.out.keep hb)
  have B15 := Lib.hid (B14.out.trans (hb.mono B14.out.size))
  clear A14 R14 U14 B14 hb
  refine (newr_any _ 1 1 [2] _ (by decide) (at_one w14 2 (by decide))).mono ?_
  rintro e w16 ⟨g2, rfl, hg2, hr, hb⟩
  have A16 := Lib.hid (A15.out.keep hb)
  have R16 := Lib.hid (R15.out.below hb)
  have U16 := Lib.hid (U15.out.keep hb)
  have N16 := Lib.hid (show g2 ≠ g from Nat.ne_of_gt (Nat.lt_of_lt_of_le R15.out.lt hg2))
  have G16 := Lib.hid (Nat.le_trans B15.out.size hg2)
  have B16 := Lib.hid (B15.out.trans (hb.mono B15.out.size))
  have S16 := Lib.hid hr
  clear A15 R15 U15 B15 hr hb hg2
  go_wp2_with fail
  refine (gbool_any g2 _ _ S16.out).mono ?_
  rintro e w17 ⟨rfl, ht⟩
  rw [s10] at ht
  have A17 := Lib.hid (A16.out.plain ht.2 S16.out.plain)
  have U17 := Lib.hid (U16.out.plain ht.2 S16.out.plain)
  have R17 := Lib.hid (R16.out.turn ht.2 S16.out.plain (fun e => N16.out e.symm))
  obtain ⟨hr, hb⟩ := took_below B16.out G16.out ht
  have S17 := Lib.hid hr
  have B17 := Lib.hid hb
  clear A16 U16 R16 S16 B16 ht hr hb
  obtain ⟨b, o, rfl, hj⟩ := A17.out.2.2 (by decide)
  have c1 : w17.cell? ⟨b, o + 1, none⟩ = some (.int .u8 1) := hj 1 (by decide)
  have c10 : w17.cell? ⟨b, o + 10, none⟩ = some (.int .u8 254) := hj 10 (by decide)
  obtain ⟨b', o', rfl, hj'⟩ := U17.out.2.2 (by decide)
  have c0 : w17.cell? ⟨b', o', none⟩ = some (.int .u8 9) := hj' 0 (by decide)
  have c0' : w17.cell? ⟨b', o' + 0, none⟩ = some (.int .u8 9) := hj' 0 (by decide)
  have E1 := Lib.hid (end_any g _ w17 R17.out)
  have E2 := Lib.hid (end_any g2 _ w17 S17.out)
  clear hj hj' A17 U17 R17 S17 G7 G16 N16
  have t5 : ((((Oc.rnum (0, b4) 3).1 : Nat) : Int) == 258) = true := by rw [s5]; decide +kernel
  have t6 : (wrap64 (((Oc.rnum (0, b4.drop 3) 8).1 : Nat) : Int) == -2) = true := by rw [s6]; decide +kernel
  have t7 : (Oc.rbool (0, b4.drop 11)).1 = true := by rw [s7]
  have t10 : (Oc.rbool (0, [2])).1 = false := by rw [s10]
  have td : Oc.rdone (0, []) = 0 := by decide
  have td2 : Oc.rdone (2, []) = 2 := by decide
  rw [td] at E1
  rw [td2] at E2
  go_wp2_with fail
  refine E1.out.mono ?_
  rintro e w' ⟨rfl, rfl⟩
  go_wp2_with fail
  refine E2.out.mono ?_
  rintro e w' ⟨rfl, rfl⟩
  go_wp2
  go_ret
  exact ⟨rfl, B17.out⟩
end Go.Proofs.Ytakkkdmbghdhgaa
