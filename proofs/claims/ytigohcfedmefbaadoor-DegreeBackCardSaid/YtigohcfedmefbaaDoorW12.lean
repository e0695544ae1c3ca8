/- Walks over the law on there and back (DegreeBack): the call returns true for every two numbers. Condition: the listed variables are as the program lays them. -/
import Derived.Test.YtigohcfedmefbaaDoorW6
import Derived.Test.YtigohcfedmefbaaDoorBk
import Derived.Laws.FloatArith
namespace Go.Proofs.YtigohcfedmefbaaDoor
open Go.RowKit
set_option linter.unusedVariables false

theorem float_yes (t : Int) (h1 : -1099511627776 ≤ t) (h2 : t ≤ 1099511627776) (f : Nat)
    (hq : ∀ w, (binOp .quo 30 (.float .f64 (floatOfInt .f64 t)) (.float .f64 4621819117588971520)).run Tryd.prog w = .ok (.float .f64 f) w) (w : World) :
    Calls Tryd.prog 14 #[.int .i64 t] w fun e w' => e = .returned (.float .f64 f) ∧ w = w' := by
  go_enter Tryd.func14, Tryd.ntmps14
  go_wp2_with (go_at_call 20; refine (isTenth_yes _ h1 h2 _).mono ?_; rintro e w' ⟨rfl, rfl⟩)
  go_ret
  exact ⟨rfl, rfl⟩

set_option maxHeartbeats 1000000 in
theorem back_pos (t far k : Int) (t1 : -2147483648 ≤ t) (t2 : t ≤ 2147483647) (f1 : -128 ≤ far) (f2 : far ≤ 127) (hk : far.tmod 5 = k) (k1 : 0 < k) (k2 : k ≤ 4) (f d y : Nat)
    (HF : Hid (∀ W, Calls Tryd.prog 14 #[.int .i64 t] W fun e w' => e = .returned (.float .f64 f) ∧ W = w'))
    (hq : ∀ w, (binOp .quo 30 (.float .f64 (floatOfInt .f64 k)) (.float .f64 4636737291354636288)).run Tryd.prog w = .ok (.float .f64 d) w)
    (ha : ∀ w, (binOp .add 30 (.float .f64 f) (.float .f64 d)).run Tryd.prog w = .ok (.float .f64 y) w)
    (H1 : Hid (∀ W, Calls Tryd.prog 15 #[.float .f64 f] W fun e w' => e = .returned (.tuple #[.int .i64 t, .int .i64 0]) ∧ W = w'))
    (H2 : Hid (∀ W, Calls Tryd.prog 15 #[.float .f64 y] W fun e w' => e = .returned (.tuple #[.int .i64 (t + 1), .int .i64 0]) ∧ W = w')) (w : World) (hr : Ready w) :
    Calls Tryd.prog 5 #[.int .i32 t, .int .i8 far] w fun e w' => e = .returned (.bool true) ∧ Below w.heap.size w w' := by
  go_enter Tryd.func5, Tryd.ntmps5
  go_wp2_with fail
  refine (HF.out _).mono ?_
  rintro e w' ⟨rfl, rfl⟩
  go_wp2_with fail
  refine (H1.out _).mono ?_
  rintro e w' ⟨rfl, rfl⟩
  go_wp2_with fail
  refine (HF.out _).mono ?_
  rintro e w' ⟨rfl, rfl⟩
  go_wp2_with fail
  refine (H2.out _).mono ?_
  rintro e w' ⟨rfl, rfl⟩
  go_wp2_with fail
  refine (alive_any _ hr).mono ?_
  rintro e w' ⟨rfl, hb⟩
  go_wp2
  go_ret
  exact ⟨rfl, hb⟩

set_option maxHeartbeats 1000000 in
theorem back_neg (t far k : Int) (t1 : -2147483648 ≤ t) (t2 : t ≤ 2147483647) (f1 : -128 ≤ far) (f2 : far ≤ 127) (hk : far.tmod 5 = k) (k1 : -4 ≤ k) (k2 : k ≤ 0) (f d y : Nat)
    (HF : Hid (∀ W, Calls Tryd.prog 14 #[.int .i64 t] W fun e w' => e = .returned (.float .f64 f) ∧ W = w'))
    (hq : ∀ w, (binOp .quo 30 (.float .f64 (floatOfInt .f64 k)) (.float .f64 4636737291354636288)).run Tryd.prog w = .ok (.float .f64 d) w)
    (ha : ∀ w, (binOp .add 30 (.float .f64 f) (.float .f64 d)).run Tryd.prog w = .ok (.float .f64 y) w)
    (H1 : Hid (∀ W, Calls Tryd.prog 15 #[.float .f64 f] W fun e w' => e = .returned (.tuple #[.int .i64 t, .int .i64 0]) ∧ W = w'))
    (H2 : Hid (∀ W, Calls Tryd.prog 15 #[.float .f64 y] W fun e w' => e = .returned (.tuple #[.int .i64 t, .int .i64 0]) ∧ W = w')) (w : World) (hr : Ready w) :
    Calls Tryd.prog 5 #[.int .i32 t, .int .i8 far] w fun e w' => e = .returned (.bool true) ∧ Below w.heap.size w w' := by
  go_enter Tryd.func5, Tryd.ntmps5
  go_wp2_with fail
  refine (HF.out _).mono ?_
  rintro e w' ⟨rfl, rfl⟩
  go_wp2_with fail
  refine (H1.out _).mono ?_
  rintro e w' ⟨rfl, rfl⟩
  go_wp2_with fail
  refine (HF.out _).mono ?_
  rintro e w' ⟨rfl, rfl⟩
  go_wp2_with fail
  refine (H2.out _).mono ?_
  rintro e w' ⟨rfl, rfl⟩
  go_wp2_with fail
  refine (alive_any _ hr).mono ?_
  rintro e w' ⟨rfl, hb⟩
  go_wp2
  go_ret
  exact ⟨rfl, hb⟩

theorem back_any (t : Int) (h32 : (Lit.int .i32 t).wf = true) (far : Int) (h8 : (Lit.int .i8 far).wf = true) (w : World) (hr : Ready w) :
    Calls Tryd.prog 5 #[.int .i32 t, .int .i8 far] w fun e w' => e = .returned (.bool true) ∧ Below w.heap.size w w' := by
  have ht : -2147483648 ≤ t ∧ t ≤ 2147483647 := by
    have a1 : IntKind.min .i32 = -2147483648 := rfl
    have a2 : IntKind.max .i32 = 2147483647 := rfl
    simp only [Lit.wf, Bool.and_eq_true, decide_eq_true_eq, a1, a2] at h32
    omega
  have hf : -128 ≤ far ∧ far ≤ 127 := by
    have a1 : IntKind.min .i8 = -128 := rfl
    have a2 : IntKind.max .i8 = 127 := rfl
    simp only [Lit.wf, Bool.and_eq_true, decide_eq_true_eq, a1, a2] at h8
    omega
  have hk : -4 ≤ far.tmod 5 ∧ far.tmod 5 ≤ 4 := by
    have a := Int.tmod_lt_of_pos far (b := 5) (by decide)
    have b := Int.lt_tmod_of_pos far (b := 5) (by decide)
    omega
  obtain ⟨k, ek⟩ : ∃ k, far.tmod 5 = k := ⟨_, rfl⟩
  rw [ek] at hk
  obtain ⟨f, d1, d2, d3, d4, d5⟩ := Hf.fl_facts t (by omega)
  obtain ⟨g1, g2, -, -⟩ := Hf.hun_facts k hk.1 hk.2
  obtain ⟨y, y1, y2, y3⟩ := Hf.add_eq f (Hf.hunW k) d2 g2
  have hm := Hf.more_facts t (by omega) k hk.1 hk.2 f y d2 d3 d4 d5 y3
  have HF : Hid (∀ W, Calls Tryd.prog 14 #[.int .i64 t] W fun e w' => e = .returned (.float .f64 f) ∧ W = w') :=
    Lib.hid (fun W => float_yes t (by omega) (by omega) f (fun w => run_float_arith w .quo 30 .f64 _ _ _ d1) W)
  have hq : ∀ w, (binOp .quo 30 (.float .f64 (floatOfInt .f64 k)) (.float .f64 4636737291354636288)).run Tryd.prog w = .ok (.float .f64 (Hf.hunW k)) w := fun w => run_float_arith w .quo 30 .f64 _ _ _ g1
  have ha : ∀ w, (binOp .add 30 (.float .f64 f) (.float .f64 (Hf.hunW k))).run Tryd.prog w = .ok (.float .f64 y) w := fun w => run_float_arith w .add 30 .f64 _ _ _ y1
  have H1 : Hid (∀ W, Calls Tryd.prog 15 #[.float .f64 f] W fun e w' => e = .returned (.tuple #[.int .i64 t, .int .i64 0]) ∧ W = w') := Lib.hid (fun W => tenths_at f t (Nat.le_of_lt d2) d3 W)
  by_cases kp : 0 < k
  · rw [if_pos kp] at hm
    exact back_pos t far k ht.1 ht.2 hf.1 hf.2 ek kp hk.2 f _ y HF hq ha H1 (Lib.hid (fun W => tenths_at y _ y2 hm W)) w hr
  · rw [if_neg kp] at hm
    exact back_neg t far k ht.1 ht.2 hf.1 hf.2 ek hk.1 (by omega) f _ y HF hq ha H1 (Lib.hid (fun W => tenths_at y _ y2 hm W)) w hr
end Go.Proofs.YtigohcfedmefbaaDoor
