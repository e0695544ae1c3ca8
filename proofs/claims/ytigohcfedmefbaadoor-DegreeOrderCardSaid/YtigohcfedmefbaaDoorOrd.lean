/- Walks over the law on the order of the tenths (DegreeOrder): the call returns true for every two float64s. Condition: the listed variables are as the program lays them. -/
import Derived.Test.YtigohcfedmefbaaDoorW6
import Derived.Laws.FloatArith
namespace Go.Proofs.YtigohcfedmefbaaDoor
open Go.RowKit
set_option linter.unusedVariables false

theorem fI_eq (n : Int) : floatOfInt .f64 n = Ieee.double.nearest (decide (n < 0)) n.natAbs 0 := rfl

theorem geq_bool (b : Nat) (n : Int) (hn : n.natAbs < 2 ^ 53) : (FloatKind.f64.format.order (floatOfInt .f64 n) (Hf.tenW b) == some .gt || FloatKind.f64.format.order (floatOfInt .f64 n) (Hf.tenW b) == some .eq) = decide (Hf.TZ (Hf.sv b) ≤ n * Hf.U) := by
  obtain ⟨h1, h2⟩ := Hf.ofInt_eq n hn
  have o : FloatKind.f64.format.order (floatOfInt .f64 n) (Hf.tenW b) = some (compare (Hf.sv (floatOfInt .f64 n)) (Hf.sv (Hf.tenW b))) := Hf.order_eq _ _ (Nat.le_of_lt h1) (Hf.tenW_le b)
  rw [o, Hf.cmp_gt, Hf.tenW_sv, fI_eq, h2]
theorem lss_bool (b : Nat) (n : Int) (hn : n.natAbs < 2 ^ 53) : (FloatKind.f64.format.order (floatOfInt .f64 n) (Hf.tenW b) == some .lt) = decide (n * Hf.U < Hf.TZ (Hf.sv b)) := by
  obtain ⟨h1, h2⟩ := Hf.ofInt_eq n hn
  have o : FloatKind.f64.format.order (floatOfInt .f64 n) (Hf.tenW b) = some (compare (Hf.sv (floatOfInt .f64 n)) (Hf.sv (Hf.tenW b))) := Hf.order_eq _ _ (Nat.le_of_lt h1) (Hf.tenW_le b)
  rw [o, Hf.cmp_lt, Hf.tenW_sv, fI_eq, h2]

theorem above (b : Nat) : Hf.TZ (Hf.sv b) ≤ Hf.tenths b * Hf.U ∨ Hf.tenths b = 1099511627776 := by
  obtain ⟨h1, -⟩ := Hf.ceilZ_bd (Hf.TZ (Hf.sv b))
  by_cases h : Hf.tenths b = 1099511627776
  · exact Or.inr h
  · left
    have hc : Hf.ceilZ (Hf.TZ (Hf.sv b)) ≤ Hf.tenths b := by
      unfold Hf.tenths Hf.clampT at h ⊢; omega
    exact Int.le_trans h1 (Int.mul_le_mul_of_nonneg_right hc (by omega))
theorem below (b : Nat) : (Hf.tenths b - 1) * Hf.U < Hf.TZ (Hf.sv b) ∨ Hf.tenths b = -1099511627776 := by
  obtain ⟨-, h1⟩ := Hf.ceilZ_bd (Hf.TZ (Hf.sv b))
  by_cases h : Hf.tenths b = -1099511627776
  · exact Or.inr h
  · left
    have hc : Hf.tenths b - 1 ≤ Hf.ceilZ (Hf.TZ (Hf.sv b)) - 1 := by
      unfold Hf.tenths Hf.clampT at h ⊢; omega
    exact Int.lt_of_le_of_lt (Int.mul_le_mul_of_nonneg_right hc (by omega)) h1

theorem ne_nan (b : Nat) (h : Hf.infR < Hf.rg b) (c : Nat) : FloatKind.f64.format.order b c = none := Hf.order_nan_l b c h
theorem eq_self (b : Nat) (h : Hf.rg b ≤ Hf.infR) : (FloatKind.f64.format.order b b == some .eq) = true := by
  have e : FloatKind.f64.format.order b b = some (compare (Hf.sv b) (Hf.sv b)) := Hf.order_eq b b h h
  rw [e]; exact Hf.cmp_self _

set_option maxRecDepth 100000 in
set_option maxHeartbeats 1000000 in
theorem order_nn (x y : Nat) (hx : Hf.infR < Hf.rg x) (hy : Hf.infR < Hf.rg y) (w : World) (hr : Ready w) :
    Calls Tryd.prog 6 #[.float .f64 x, .float .f64 y] w fun e w' => e = .returned (.bool true) ∧ Below w.heap.size w w' := by
  have k1 : (FloatKind.f64.format.order x x == some .eq) = false := by rw [ne_nan x hx]; rfl
  have k2 : (FloatKind.f64.format.order x x != some .eq) = true := by rw [bne, k1]; rfl
  have k3 : (FloatKind.f64.format.order y y == some .eq) = false := by rw [ne_nan y hy]; rfl
  have HX := Lib.hid hx
  have HY := Lib.hid hy
  clear hx hy
  go_enter Tryd.func6, Tryd.ntmps6
  go_wp2_with fail
  refine (tenths_nan x HX.out _).mono ?_
  rintro e w' ⟨rfl, rfl⟩
  go_wp2_with fail
  refine (tenths_nan y HY.out _).mono ?_
  rintro e w' ⟨rfl, rfl⟩
  go_wp2_with fail
  refine (alive_any _ hr).mono ?_
  rintro e w' ⟨rfl, hb⟩
  go_wp2
  go_ret
  exact ⟨rfl, hb⟩

set_option maxRecDepth 100000 in
set_option maxHeartbeats 1000000 in
theorem order_ny (x y : Nat) (hx : Hf.infR < Hf.rg x) (hy : Hf.rg y ≤ Hf.infR) (w : World) (hr : Ready w) :
    Calls Tryd.prog 6 #[.float .f64 x, .float .f64 y] w fun e w' => e = .returned (.bool true) ∧ Below w.heap.size w w' := by
  have k1 : (FloatKind.f64.format.order x x == some .eq) = false := by rw [ne_nan x hx]; rfl
  have k2 : (FloatKind.f64.format.order x x != some .eq) = true := by rw [bne, k1]; rfl
  have k3 : (FloatKind.f64.format.order y y == some .eq) = true := eq_self y hy
  have HX := Lib.hid hx
  have HY := Lib.hid hy
  clear hx hy
  go_enter Tryd.func6, Tryd.ntmps6
  go_wp2_with fail
  refine (tenths_nan x HX.out _).mono ?_
  rintro e w' ⟨rfl, rfl⟩
  go_wp2_with fail
  refine (tenths_any y HY.out _).mono ?_
  rintro e w' ⟨rfl, rfl⟩
  go_wp2_with fail
  refine (alive_any _ hr).mono ?_
  rintro e w' ⟨rfl, hb⟩
  go_wp2
  go_ret
  exact ⟨rfl, hb⟩

set_option maxRecDepth 100000 in
set_option maxHeartbeats 1000000 in
theorem order_yn (x y : Nat) (hx : Hf.rg x ≤ Hf.infR) (hy : Hf.infR < Hf.rg y) (w : World) (hr : Ready w) :
    Calls Tryd.prog 6 #[.float .f64 x, .float .f64 y] w fun e w' => e = .returned (.bool true) ∧ Below w.heap.size w w' := by
  have k1 : (FloatKind.f64.format.order x x == some .eq) = true := eq_self x hx
  have k2 : (FloatKind.f64.format.order x x != some .eq) = false := by rw [bne, k1]; rfl
  have k3 : (FloatKind.f64.format.order y y == some .eq) = false := by rw [ne_nan y hy]; rfl
  have k4 : (FloatKind.f64.format.order y y != some .eq) = true := by rw [bne, k3]; rfl
  have HX := Lib.hid hx
  have HY := Lib.hid hy
  clear hx hy
  go_enter Tryd.func6, Tryd.ntmps6
  go_wp2_with fail
  refine (tenths_any x HX.out _).mono ?_
  rintro e w' ⟨rfl, rfl⟩
  go_wp2_with fail
  refine (tenths_nan y HY.out _).mono ?_
  rintro e w' ⟨rfl, rfl⟩
  go_wp2_with fail
  refine (alive_any _ hr).mono ?_
  rintro e w' ⟨rfl, hb⟩
  go_wp2
  go_ret
  exact ⟨rfl, hb⟩
set_option maxRecDepth 100000 in
set_option maxHeartbeats 1000000 in
theorem order_tt_true_true (x y z : Nat) (a b : Int) (a1 : -1099511627776 ≤ a) (a2 : a ≤ 1099511627776)
    (HX : Hid (∀ W, Calls Tryd.prog 15 #[.float .f64 x] W fun e w' => e = .returned (.tuple #[.int .i64 a, .int .i64 0]) ∧ W = w'))
    (HY : Hid (∀ W, Calls Tryd.prog 15 #[.float .f64 y] W fun e w' => e = .returned (.tuple #[.int .i64 b, .int .i64 0]) ∧ W = w'))
    (k1 : (FloatKind.f64.format.order x x != some .eq) = false) (k2 : (FloatKind.f64.format.order y y != some .eq) = false)
    (c1 : (FloatKind.f64.format.order x y == some .lt || FloatKind.f64.format.order x y == some .eq) = true) (c2 : (FloatKind.f64.format.order y x == some .lt || FloatKind.f64.format.order y x == some .eq) = true) (hab : a ≤ b) (hba : b ≤ a)
    (hm : ∀ w, (binOp .mul 30 (.float .f64 x) (.float .f64 4621819117588971520)).run Tryd.prog w = .ok (.float .f64 z) w)
    (g1 : (FloatKind.f64.format.order (floatOfInt .f64 a) z == some .gt || FloatKind.f64.format.order (floatOfInt .f64 a) z == some .eq) = true)
    (g2 : (FloatKind.f64.format.order (floatOfInt .f64 (a - 1)) z == some .lt) = true)  (w : World) (hr : Ready w) :
    Calls Tryd.prog 6 #[.float .f64 x, .float .f64 y] w fun e w' => e = .returned (.bool true) ∧ Below w.heap.size w w' := by
  go_enter Tryd.func6, Tryd.ntmps6
  go_wp2_with fail
  refine (HX.out _).mono ?_
  rintro e w' ⟨rfl, rfl⟩
  go_wp2_with fail
  refine (HY.out _).mono ?_
  rintro e w' ⟨rfl, rfl⟩
  go_wp2_with fail
  refine (alive_any _ hr).mono ?_
  rintro e w' ⟨rfl, hb⟩
  go_wp2
  go_ret
  exact ⟨rfl, hb⟩

set_option maxRecDepth 100000 in
set_option maxHeartbeats 1000000 in
theorem order_tt_true_false (x y z : Nat) (a b : Int) (a1 : -1099511627776 ≤ a) (a2 : a ≤ 1099511627776)
    (HX : Hid (∀ W, Calls Tryd.prog 15 #[.float .f64 x] W fun e w' => e = .returned (.tuple #[.int .i64 a, .int .i64 0]) ∧ W = w'))
    (HY : Hid (∀ W, Calls Tryd.prog 15 #[.float .f64 y] W fun e w' => e = .returned (.tuple #[.int .i64 b, .int .i64 0]) ∧ W = w'))
    (k1 : (FloatKind.f64.format.order x x != some .eq) = false) (k2 : (FloatKind.f64.format.order y y != some .eq) = false)
    (c1 : (FloatKind.f64.format.order x y == some .lt || FloatKind.f64.format.order x y == some .eq) = true) (c2 : (FloatKind.f64.format.order y x == some .lt || FloatKind.f64.format.order y x == some .eq) = true) (hab : a ≤ b) (hba : b ≤ a)
    (hm : ∀ w, (binOp .mul 30 (.float .f64 x) (.float .f64 4621819117588971520)).run Tryd.prog w = .ok (.float .f64 z) w)
    (g1 : (FloatKind.f64.format.order (floatOfInt .f64 a) z == some .gt || FloatKind.f64.format.order (floatOfInt .f64 a) z == some .eq) = true)
    (g2 : (FloatKind.f64.format.order (floatOfInt .f64 (a - 1)) z == some .lt) = false) (kb : a = -1099511627776) (w : World) (hr : Ready w) :
    Calls Tryd.prog 6 #[.float .f64 x, .float .f64 y] w fun e w' => e = .returned (.bool true) ∧ Below w.heap.size w w' := by
  have kb' : (a == -1099511627776) = true := by simp [kb]
  clear kb
  go_enter Tryd.func6, Tryd.ntmps6
  go_wp2_with fail
  refine (HX.out _).mono ?_
  rintro e w' ⟨rfl, rfl⟩
  go_wp2_with fail
  refine (HY.out _).mono ?_
  rintro e w' ⟨rfl, rfl⟩
  go_wp2_with fail
  refine (alive_any _ hr).mono ?_
  rintro e w' ⟨rfl, hb⟩
  go_wp2
  go_ret
  exact ⟨rfl, hb⟩

set_option maxRecDepth 100000 in
set_option maxHeartbeats 1000000 in
theorem order_tt_false_true (x y z : Nat) (a b : Int) (a1 : -1099511627776 ≤ a) (a2 : a ≤ 1099511627776)
    (HX : Hid (∀ W, Calls Tryd.prog 15 #[.float .f64 x] W fun e w' => e = .returned (.tuple #[.int .i64 a, .int .i64 0]) ∧ W = w'))
    (HY : Hid (∀ W, Calls Tryd.prog 15 #[.float .f64 y] W fun e w' => e = .returned (.tuple #[.int .i64 b, .int .i64 0]) ∧ W = w'))
    (k1 : (FloatKind.f64.format.order x x != some .eq) = false) (k2 : (FloatKind.f64.format.order y y != some .eq) = false)
    (c1 : (FloatKind.f64.format.order x y == some .lt || FloatKind.f64.format.order x y == some .eq) = true) (c2 : (FloatKind.f64.format.order y x == some .lt || FloatKind.f64.format.order y x == some .eq) = true) (hab : a ≤ b) (hba : b ≤ a)
    (hm : ∀ w, (binOp .mul 30 (.float .f64 x) (.float .f64 4621819117588971520)).run Tryd.prog w = .ok (.float .f64 z) w)
    (g1 : (FloatKind.f64.format.order (floatOfInt .f64 a) z == some .gt || FloatKind.f64.format.order (floatOfInt .f64 a) z == some .eq) = false)
    (g2 : (FloatKind.f64.format.order (floatOfInt .f64 (a - 1)) z == some .lt) = true) (ka : a = 1099511627776) (w : World) (hr : Ready w) :
    Calls Tryd.prog 6 #[.float .f64 x, .float .f64 y] w fun e w' => e = .returned (.bool true) ∧ Below w.heap.size w w' := by
  have ka' : (a == 1099511627776) = true := by simp [ka]
  clear ka
  go_enter Tryd.func6, Tryd.ntmps6
  go_wp2_with fail
  refine (HX.out _).mono ?_
  rintro e w' ⟨rfl, rfl⟩
  go_wp2_with fail
  refine (HY.out _).mono ?_
  rintro e w' ⟨rfl, rfl⟩
  go_wp2_with fail
  refine (alive_any _ hr).mono ?_
  rintro e w' ⟨rfl, hb⟩
  go_wp2
  go_ret
  exact ⟨rfl, hb⟩

set_option maxRecDepth 100000 in
set_option maxHeartbeats 1000000 in
theorem order_tf_true_true (x y z : Nat) (a b : Int) (a1 : -1099511627776 ≤ a) (a2 : a ≤ 1099511627776)
    (HX : Hid (∀ W, Calls Tryd.prog 15 #[.float .f64 x] W fun e w' => e = .returned (.tuple #[.int .i64 a, .int .i64 0]) ∧ W = w'))
    (HY : Hid (∀ W, Calls Tryd.prog 15 #[.float .f64 y] W fun e w' => e = .returned (.tuple #[.int .i64 b, .int .i64 0]) ∧ W = w'))
    (k1 : (FloatKind.f64.format.order x x != some .eq) = false) (k2 : (FloatKind.f64.format.order y y != some .eq) = false)
    (c1 : (FloatKind.f64.format.order x y == some .lt || FloatKind.f64.format.order x y == some .eq) = true) (c2 : (FloatKind.f64.format.order y x == some .lt || FloatKind.f64.format.order y x == some .eq) = false) (hab : a ≤ b)
    (hm : ∀ w, (binOp .mul 30 (.float .f64 x) (.float .f64 4621819117588971520)).run Tryd.prog w = .ok (.float .f64 z) w)
    (g1 : (FloatKind.f64.format.order (floatOfInt .f64 a) z == some .gt || FloatKind.f64.format.order (floatOfInt .f64 a) z == some .eq) = true)
    (g2 : (FloatKind.f64.format.order (floatOfInt .f64 (a - 1)) z == some .lt) = true)  (w : World) (hr : Ready w) :
    Calls Tryd.prog 6 #[.float .f64 x, .float .f64 y] w fun e w' => e = .returned (.bool true) ∧ Below w.heap.size w w' := by
  go_enter Tryd.func6, Tryd.ntmps6
  go_wp2_with fail
  refine (HX.out _).mono ?_
  rintro e w' ⟨rfl, rfl⟩
  go_wp2_with fail
  refine (HY.out _).mono ?_
  rintro e w' ⟨rfl, rfl⟩
  go_wp2_with fail
  refine (alive_any _ hr).mono ?_
  rintro e w' ⟨rfl, hb⟩
  go_wp2
  go_ret
  exact ⟨rfl, hb⟩

set_option maxRecDepth 100000 in
set_option maxHeartbeats 1000000 in
theorem order_tf_true_false (x y z : Nat) (a b : Int) (a1 : -1099511627776 ≤ a) (a2 : a ≤ 1099511627776)
    (HX : Hid (∀ W, Calls Tryd.prog 15 #[.float .f64 x] W fun e w' => e = .returned (.tuple #[.int .i64 a, .int .i64 0]) ∧ W = w'))
    (HY : Hid (∀ W, Calls Tryd.prog 15 #[.float .f64 y] W fun e w' => e = .returned (.tuple #[.int .i64 b, .int .i64 0]) ∧ W = w'))
    (k1 : (FloatKind.f64.format.order x x != some .eq) = false) (k2 : (FloatKind.f64.format.order y y != some .eq) = false)
    (c1 : (FloatKind.f64.format.order x y == some .lt || FloatKind.f64.format.order x y == some .eq) = true) (c2 : (FloatKind.f64.format.order y x == some .lt || FloatKind.f64.format.order y x == some .eq) = false) (hab : a ≤ b)
    (hm : ∀ w, (binOp .mul 30 (.float .f64 x) (.float .f64 4621819117588971520)).run Tryd.prog w = .ok (.float .f64 z) w)
    (g1 : (FloatKind.f64.format.order (floatOfInt .f64 a) z == some .gt || FloatKind.f64.format.order (floatOfInt .f64 a) z == some .eq) = true)
    (g2 : (FloatKind.f64.format.order (floatOfInt .f64 (a - 1)) z == some .lt) = false) (kb : a = -1099511627776) (w : World) (hr : Ready w) :
    Calls Tryd.prog 6 #[.float .f64 x, .float .f64 y] w fun e w' => e = .returned (.bool true) ∧ Below w.heap.size w w' := by
  have kb' : (a == -1099511627776) = true := by simp [kb]
  clear kb
  go_enter Tryd.func6, Tryd.ntmps6
  go_wp2_with fail
  refine (HX.out _).mono ?_
  rintro e w' ⟨rfl, rfl⟩
  go_wp2_with fail
  refine (HY.out _).mono ?_
  rintro e w' ⟨rfl, rfl⟩
  go_wp2_with fail
  refine (alive_any _ hr).mono ?_
  rintro e w' ⟨rfl, hb⟩
  go_wp2
  go_ret
  exact ⟨rfl, hb⟩

set_option maxRecDepth 100000 in
set_option maxHeartbeats 1000000 in
theorem order_tf_false_true (x y z : Nat) (a b : Int) (a1 : -1099511627776 ≤ a) (a2 : a ≤ 1099511627776)
    (HX : Hid (∀ W, Calls Tryd.prog 15 #[.float .f64 x] W fun e w' => e = .returned (.tuple #[.int .i64 a, .int .i64 0]) ∧ W = w'))
    (HY : Hid (∀ W, Calls Tryd.prog 15 #[.float .f64 y] W fun e w' => e = .returned (.tuple #[.int .i64 b, .int .i64 0]) ∧ W = w'))
    (k1 : (FloatKind.f64.format.order x x != some .eq) = false) (k2 : (FloatKind.f64.format.order y y != some .eq) = false)
    (c1 : (FloatKind.f64.format.order x y == some .lt || FloatKind.f64.format.order x y == some .eq) = true) (c2 : (FloatKind.f64.format.order y x == some .lt || FloatKind.f64.format.order y x == some .eq) = false) (hab : a ≤ b)
    (hm : ∀ w, (binOp .mul 30 (.float .f64 x) (.float .f64 4621819117588971520)).run Tryd.prog w = .ok (.float .f64 z) w)
    (g1 : (FloatKind.f64.format.order (floatOfInt .f64 a) z == some .gt || FloatKind.f64.format.order (floatOfInt .f64 a) z == some .eq) = false)
    (g2 : (FloatKind.f64.format.order (floatOfInt .f64 (a - 1)) z == some .lt) = true) (ka : a = 1099511627776) (w : World) (hr : Ready w) :
    Calls Tryd.prog 6 #[.float .f64 x, .float .f64 y] w fun e w' => e = .returned (.bool true) ∧ Below w.heap.size w w' := by
  have ka' : (a == 1099511627776) = true := by simp [ka]
  clear ka
  go_enter Tryd.func6, Tryd.ntmps6
  go_wp2_with fail
  refine (HX.out _).mono ?_
  rintro e w' ⟨rfl, rfl⟩
  go_wp2_with fail
  refine (HY.out _).mono ?_
  rintro e w' ⟨rfl, rfl⟩
  go_wp2_with fail
  refine (alive_any _ hr).mono ?_
  rintro e w' ⟨rfl, hb⟩
  go_wp2
  go_ret
  exact ⟨rfl, hb⟩

set_option maxRecDepth 100000 in
set_option maxHeartbeats 1000000 in
theorem order_ft_true_true (x y z : Nat) (a b : Int) (a1 : -1099511627776 ≤ a) (a2 : a ≤ 1099511627776)
    (HX : Hid (∀ W, Calls Tryd.prog 15 #[.float .f64 x] W fun e w' => e = .returned (.tuple #[.int .i64 a, .int .i64 0]) ∧ W = w'))
    (HY : Hid (∀ W, Calls Tryd.prog 15 #[.float .f64 y] W fun e w' => e = .returned (.tuple #[.int .i64 b, .int .i64 0]) ∧ W = w'))
    (k1 : (FloatKind.f64.format.order x x != some .eq) = false) (k2 : (FloatKind.f64.format.order y y != some .eq) = false)
    (c1 : (FloatKind.f64.format.order x y == some .lt || FloatKind.f64.format.order x y == some .eq) = false) (c2 : (FloatKind.f64.format.order y x == some .lt || FloatKind.f64.format.order y x == some .eq) = true) (hba : b ≤ a)
    (hm : ∀ w, (binOp .mul 30 (.float .f64 x) (.float .f64 4621819117588971520)).run Tryd.prog w = .ok (.float .f64 z) w)
    (g1 : (FloatKind.f64.format.order (floatOfInt .f64 a) z == some .gt || FloatKind.f64.format.order (floatOfInt .f64 a) z == some .eq) = true)
    (g2 : (FloatKind.f64.format.order (floatOfInt .f64 (a - 1)) z == some .lt) = true)  (w : World) (hr : Ready w) :
    Calls Tryd.prog 6 #[.float .f64 x, .float .f64 y] w fun e w' => e = .returned (.bool true) ∧ Below w.heap.size w w' := by
  go_enter Tryd.func6, Tryd.ntmps6
  go_wp2_with fail
  refine (HX.out _).mono ?_
  rintro e w' ⟨rfl, rfl⟩
  go_wp2_with fail
  refine (HY.out _).mono ?_
  rintro e w' ⟨rfl, rfl⟩
  go_wp2_with fail
  refine (alive_any _ hr).mono ?_
  rintro e w' ⟨rfl, hb⟩
  go_wp2
  go_ret
  exact ⟨rfl, hb⟩

set_option maxRecDepth 100000 in
set_option maxHeartbeats 1000000 in
theorem order_ft_true_false (x y z : Nat) (a b : Int) (a1 : -1099511627776 ≤ a) (a2 : a ≤ 1099511627776)
    (HX : Hid (∀ W, Calls Tryd.prog 15 #[.float .f64 x] W fun e w' => e = .returned (.tuple #[.int .i64 a, .int .i64 0]) ∧ W = w'))
    (HY : Hid (∀ W, Calls Tryd.prog 15 #[.float .f64 y] W fun e w' => e = .returned (.tuple #[.int .i64 b, .int .i64 0]) ∧ W = w'))
    (k1 : (FloatKind.f64.format.order x x != some .eq) = false) (k2 : (FloatKind.f64.format.order y y != some .eq) = false)
    (c1 : (FloatKind.f64.format.order x y == some .lt || FloatKind.f64.format.order x y == some .eq) = false) (c2 : (FloatKind.f64.format.order y x == some .lt || FloatKind.f64.format.order y x == some .eq) = true) (hba : b ≤ a)
    (hm : ∀ w, (binOp .mul 30 (.float .f64 x) (.float .f64 4621819117588971520)).run Tryd.prog w = .ok (.float .f64 z) w)
    (g1 : (FloatKind.f64.format.order (floatOfInt .f64 a) z == some .gt || FloatKind.f64.format.order (floatOfInt .f64 a) z == some .eq) = true)
    (g2 : (FloatKind.f64.format.order (floatOfInt .f64 (a - 1)) z == some .lt) = false) (kb : a = -1099511627776) (w : World) (hr : Ready w) :
    Calls Tryd.prog 6 #[.float .f64 x, .float .f64 y] w fun e w' => e = .returned (.bool true) ∧ Below w.heap.size w w' := by
  have kb' : (a == -1099511627776) = true := by simp [kb]
  clear kb
  go_enter Tryd.func6, Tryd.ntmps6
  go_wp2_with fail
  refine (HX.out _).mono ?_
  rintro e w' ⟨rfl, rfl⟩
  go_wp2_with fail
  refine (HY.out _).mono ?_
  rintro e w' ⟨rfl, rfl⟩
  go_wp2_with fail
  refine (alive_any _ hr).mono ?_
  rintro e w' ⟨rfl, hb⟩
  go_wp2
  go_ret
  exact ⟨rfl, hb⟩

set_option maxRecDepth 100000 in
set_option maxHeartbeats 1000000 in
theorem order_ft_false_true (x y z : Nat) (a b : Int) (a1 : -1099511627776 ≤ a) (a2 : a ≤ 1099511627776)
    (HX : Hid (∀ W, Calls Tryd.prog 15 #[.float .f64 x] W fun e w' => e = .returned (.tuple #[.int .i64 a, .int .i64 0]) ∧ W = w'))
    (HY : Hid (∀ W, Calls Tryd.prog 15 #[.float .f64 y] W fun e w' => e = .returned (.tuple #[.int .i64 b, .int .i64 0]) ∧ W = w'))
    (k1 : (FloatKind.f64.format.order x x != some .eq) = false) (k2 : (FloatKind.f64.format.order y y != some .eq) = false)
    (c1 : (FloatKind.f64.format.order x y == some .lt || FloatKind.f64.format.order x y == some .eq) = false) (c2 : (FloatKind.f64.format.order y x == some .lt || FloatKind.f64.format.order y x == some .eq) = true) (hba : b ≤ a)
    (hm : ∀ w, (binOp .mul 30 (.float .f64 x) (.float .f64 4621819117588971520)).run Tryd.prog w = .ok (.float .f64 z) w)
    (g1 : (FloatKind.f64.format.order (floatOfInt .f64 a) z == some .gt || FloatKind.f64.format.order (floatOfInt .f64 a) z == some .eq) = false)
    (g2 : (FloatKind.f64.format.order (floatOfInt .f64 (a - 1)) z == some .lt) = true) (ka : a = 1099511627776) (w : World) (hr : Ready w) :
    Calls Tryd.prog 6 #[.float .f64 x, .float .f64 y] w fun e w' => e = .returned (.bool true) ∧ Below w.heap.size w w' := by
  have ka' : (a == 1099511627776) = true := by simp [ka]
  clear ka
  go_enter Tryd.func6, Tryd.ntmps6
  go_wp2_with fail
  refine (HX.out _).mono ?_
  rintro e w' ⟨rfl, rfl⟩
  go_wp2_with fail
  refine (HY.out _).mono ?_
  rintro e w' ⟨rfl, rfl⟩
  go_wp2_with fail
  refine (alive_any _ hr).mono ?_
  rintro e w' ⟨rfl, hb⟩
  go_wp2
  go_ret
  exact ⟨rfl, hb⟩



theorem order_yy (x y : Nat) (hx : Hf.rg x ≤ Hf.infR) (hy : Hf.rg y ≤ Hf.infR) (w : World) (hr : Ready w) :
    Calls Tryd.prog 6 #[.float .f64 x, .float .f64 y] w fun e w' => e = .returned (.bool true) ∧ Below w.heap.size w w' := by
  have HX : Hid (∀ W, Calls Tryd.prog 15 #[.float .f64 x] W fun e w' => e = .returned (.tuple #[.int .i64 (Hf.tenths x), .int .i64 0]) ∧ W = w') := Lib.hid (fun W => tenths_any x hx W)
  have HY : Hid (∀ W, Calls Tryd.prog 15 #[.float .f64 y] W fun e w' => e = .returned (.tuple #[.int .i64 (Hf.tenths y), .int .i64 0]) ∧ W = w') := Lib.hid (fun W => tenths_any y hy W)
  obtain ⟨a1, a2⟩ := Hf.tenths_bd x
  have k1 : (FloatKind.f64.format.order x x != some .eq) = false := by rw [bne, eq_self x hx]; rfl
  have k2 : (FloatKind.f64.format.order y y != some .eq) = false := by rw [bne, eq_self y hy]; rfl
  have o1 : FloatKind.f64.format.order x y = some (compare (Hf.sv x) (Hf.sv y)) := Hf.order_eq x y hx hy
  have o2 : FloatKind.f64.format.order y x = some (compare (Hf.sv y) (Hf.sv x)) := Hf.order_eq y x hy hx
  have c1 := Hf.cmp_le (Hf.sv x) (Hf.sv y)
  have c2 := Hf.cmp_le (Hf.sv y) (Hf.sv x)
  rw [← o1] at c1
  rw [← o2] at c2
  have hm := mul_run x hx
  have g1 := geq_bool x (Hf.tenths x) (by omega)
  have g2 := lss_bool x (Hf.tenths x - 1) (by omega)
  have A := above x
  have B := below x
  have m1 := Hf.tenths_mono x y
  have m2 := Hf.tenths_mono y x
  generalize Hf.tenths x = a at *
  generalize Hf.tenths y = b at *
  by_cases p : Hf.sv x ≤ Hf.sv y
  · rw [decide_eq_true p] at c1
    have hab := m1 p
    by_cases q : Hf.sv y ≤ Hf.sv x
    · rw [decide_eq_true q] at c2
      have hba := m2 q
      by_cases u : Hf.TZ (Hf.sv x) ≤ a * Hf.U
      · rw [decide_eq_true u] at g1
        by_cases l : (a - 1) * Hf.U < Hf.TZ (Hf.sv x)
        · rw [decide_eq_true l] at g2
          exact order_tt_true_true x y _ a b a1 a2 HX HY k1 k2 c1 c2 hab hba hm g1 g2 w hr
        · rw [decide_eq_false l] at g2
          exact order_tt_true_false x y _ a b a1 a2 HX HY k1 k2 c1 c2 hab hba hm g1 g2 (B.resolve_left l) w hr
      · rw [decide_eq_false u] at g1
        have ha := A.resolve_left u
        rw [decide_eq_true (B.resolve_right (by omega))] at g2
        exact order_tt_false_true x y _ a b a1 a2 HX HY k1 k2 c1 c2 hab hba hm g1 g2 ha w hr
    · rw [decide_eq_false q] at c2
      by_cases u : Hf.TZ (Hf.sv x) ≤ a * Hf.U
      · rw [decide_eq_true u] at g1
        by_cases l : (a - 1) * Hf.U < Hf.TZ (Hf.sv x)
        · rw [decide_eq_true l] at g2
          exact order_tf_true_true x y _ a b a1 a2 HX HY k1 k2 c1 c2 hab hm g1 g2 w hr
        · rw [decide_eq_false l] at g2
          exact order_tf_true_false x y _ a b a1 a2 HX HY k1 k2 c1 c2 hab hm g1 g2 (B.resolve_left l) w hr
      · rw [decide_eq_false u] at g1
        have ha := A.resolve_left u
        rw [decide_eq_true (B.resolve_right (by omega))] at g2
        exact order_tf_false_true x y _ a b a1 a2 HX HY k1 k2 c1 c2 hab hm g1 g2 ha w hr
  · rw [decide_eq_false p] at c1
    have q : Hf.sv y ≤ Hf.sv x := by omega
    rw [decide_eq_true q] at c2
    have hba := m2 q
    by_cases u : Hf.TZ (Hf.sv x) ≤ a * Hf.U
    · rw [decide_eq_true u] at g1
      by_cases l : (a - 1) * Hf.U < Hf.TZ (Hf.sv x)
      · rw [decide_eq_true l] at g2
        exact order_ft_true_true x y _ a b a1 a2 HX HY k1 k2 c1 c2 hba hm g1 g2 w hr
      · rw [decide_eq_false l] at g2
        exact order_ft_true_false x y _ a b a1 a2 HX HY k1 k2 c1 c2 hba hm g1 g2 (B.resolve_left l) w hr
    · rw [decide_eq_false u] at g1
      have ha := A.resolve_left u
      rw [decide_eq_true (B.resolve_right (by omega))] at g2
      exact order_ft_false_true x y _ a b a1 a2 HX HY k1 k2 c1 c2 hba hm g1 g2 ha w hr

theorem order_any (x : Nat) (_ : (Lit.float .f64 x).wf = true) (y : Nat) (_ : (Lit.float .f64 y).wf = true) (w : World) (hr : Ready w) :
    Calls Tryd.prog 6 #[.float .f64 x, .float .f64 y] w fun e w' => e = .returned (.bool true) ∧ Below w.heap.size w w' := by
  by_cases hx : Hf.rg x ≤ Hf.infR
  · by_cases hy : Hf.rg y ≤ Hf.infR
    · exact order_yy x y hx hy w hr
    · exact order_yn x y hx (by omega) w hr
  · by_cases hy : Hf.rg y ≤ Hf.infR
    · exact order_ny x y (by omega) hy w hr
    · exact order_nn x y (by omega) (by omega) w hr
end Go.Proofs.YtigohcfedmefbaaDoor
