/- Walks over the float functions of package degree: each call gives what the plain definitions of the text on float64s say; no condition but those written. -/
import Derived.Test.YtbnnijcjlafcpaaChecked
import Derived.Test.YtbnnijcjlafcpaaDgFloat
import Derived.WalkKit
import Derived.WalkLawsBesides
import Derived.KernelRfl
import Derived.Lib.Hide
namespace Go.Proofs.Ytbnnijcjlafcpaa
namespace Dg
open Go.RowKit

@[go_sem] theorem call41 (args : Array Value) (w : World) : (callFunc 41 args).run Try.prog w = ((Extern.MathFloatBits.float64frombits args).run Try.prog w).andThen fun v w' => .ok (.value v) w' :=
  run_callFunc_extern Try.func41 (by kernel_rfl) (by kernel_rfl) (by kernel_rfl) (by kernel_rfl) args w
@[go_sem] theorem run_frombits (n : Int) (w : World) : (Extern.MathFloatBits.float64frombits #[.int .u64 n]).run Try.prog w = .ok (.float .f64 n.toNat) w := rfl
@[go_sem] theorem call58 (args : Array Value) (w : World) : (callFunc 58 args).run Try.prog w = ((Extern.MathFloor.toIntegral "math.archCeil" .up args).run Try.prog w).andThen fun v w' => .ok (.value v) w' :=
  run_callFunc_extern Try.func58 (by kernel_rfl) (by kernel_rfl) (by kernel_rfl) (by kernel_rfl) args w

section
attribute [local irreducible] FloatKind.decode FloatKind.encode
theorem up_num (b : Nat) (s : Bool) (m : Nat) (i : Int) (h : FloatKind.f64.decode b = .number s m i) :
    Extern.MathFloor.toIntegral "math.archCeil" .up #[.float .f64 b] = pure (.float .f64 (FloatKind.f64.encode ((Ieee.Datum.number s m i).integral .up))) := by
  conv =>
    lhs
    whnf
  rw [h]
end

theorem run_up (b : Nat) (h : Hf.rg b < Hf.infR) (w : World) : (Extern.MathFloor.toIntegral "math.archCeil" .up #[.float .f64 b]).run Try.prog w = .ok (.float .f64 (Hf.upW b)) w := by
  obtain ⟨m, i, e, f⟩ := Hf.read_num b h
  have e' : FloatKind.f64.decode b = Ieee.Datum.number (Hf.sg b) m ((i : Int) - 1074) := e
  unfold Hf.upW
  rw [e, up_num _ _ _ _ e']
  rfl

theorem isNaN_no (b : Nat) (h : Hf.rg b ≤ Hf.infR) (w : World) :
    Calls Try.prog 54 #[.float .f64 b] w fun e w' => e = .returned (.bool false) ∧ w = w' := by
  have e : FloatKind.f64.format.order b b = some (compare (Hf.sv b) (Hf.sv b)) := Hf.order_eq b b h h
  have e2 := Hf.cmp_self (Hf.sv b)
  rw [← e] at e2
  have e3 : (FloatKind.f64.format.order b b != some .eq) = false := by simpa using e2
  clear e e2
  go_enter Try.func54, Try.ntmps54
  go_wp2
  all_goals (go_ret; exact ⟨rfl, rfl⟩)

theorem isNaN_yes (b : Nat) (h : Hf.infR < Hf.rg b) (w : World) :
    Calls Try.prog 54 #[.float .f64 b] w fun e w' => e = .returned (.bool true) ∧ w = w' := by
  have e : FloatKind.f64.format.order b b = none := Hf.order_nan_l b b h
  have e3 : (FloatKind.f64.format.order b b != some .eq) = true := by rw [e]; rfl
  clear e
  go_enter Try.func54, Try.ntmps54
  go_wp2
  all_goals (go_ret; exact ⟨rfl, rfl⟩)

theorem ceil_any (b : Nat) (h : Hf.rg b < Hf.infR) (w : World) :
    Calls Try.prog 55 #[.float .f64 b] w fun e w' => e = .returned (.float .f64 (Hf.upW b)) ∧ w = w' := by
  have e := run_up b h
  go_enter Try.func55, Try.ntmps55
  go_wp2
  all_goals (go_ret; exact ⟨rfl, rfl⟩)

theorem mul_run (b : Nat) (h : Hf.rg b ≤ Hf.infR) (w : World) : (binOp .mul 69 (.float .f64 b) (.float .f64 4621819117588971520)).run Try.prog w = .ok (.float .f64 (Hf.tenW b)) w :=
  run_float_arith w .mul 69 .f64 _ _ _ (Hf.mul_ten b h)
theorem mid_run (b : Nat) (n : Int) (h : (Ieee.double.read b).toInt .zero = some n) (h1 : -1099511627776 ≤ n) (h2 : n ≤ 1099511627776) (w : World) : (convert 69 3 (.float .f64 b)).run Try.prog w = .ok (.int .i64 n) w := by
  refine run_convert_float_int w 69 3 .f64 .i64 b n (by kernel_rfl) (by kernel_rfl) ?_
  have e : (FloatKind.f64.decode b).toInt .zero = some n := h
  unfold floatToIntVal
  rw [e]
  have a1 : IntKind.min .i64 = -9223372036854775808 := by decide
  have a2 : IntKind.max .i64 = 9223372036854775807 := by decide
  simp only [a1, a2]
  rw [if_pos (by omega)]

set_option maxHeartbeats 400000 in
theorem tenths_nan (b : Nat) (h : Hf.infR < Hf.rg b) (w : World) :
    Calls Try.prog 40 #[.float .f64 b] w fun e w' => e = .returned (.tuple #[.int .i64 0, .int .i64 2]) ∧ w = w' := by
  go_enter Try.func40, Try.ntmps40
  go_wp2_with (go_at_call 54; refine (isNaN_yes b h _).mono ?_; rintro e w' ⟨rfl, rfl⟩)
  go_ret2
  exact ⟨rfl, rfl⟩

set_option maxHeartbeats 400000 in
theorem tenths_any (b : Nat) (h : Hf.rg b ≤ Hf.infR) (w : World) :
    Calls Try.prog 40 #[.float .f64 b] w fun e w' => e = .returned (.tuple #[.int .i64 (Hf.tenths b), .int .i64 0]) ∧ w = w' := by
  have hm := mul_run b h
  have o1 : FloatKind.f64.format.order (Hf.tenW b) 4787326403894837248 = some (compare (Hf.sv (Hf.tenW b)) (Hf.sv Hf.topB)) := Hf.order_eq _ _ (Hf.tenW_le b) (Nat.le_of_lt Hf.topB_sv.1)
  have o2 : FloatKind.f64.format.order (Hf.tenW b) 14010698440749613056 = some (compare (Hf.sv (Hf.tenW b)) (Hf.sv Hf.lowB)) := Hf.order_eq _ _ (Hf.tenW_le b) (Nat.le_of_lt Hf.lowB_sv.1)
  have t1 := Hf.cmp_gt (Hf.sv (Hf.tenW b)) (Hf.sv Hf.topB)
  have t2 := Hf.cmp_le (Hf.sv (Hf.tenW b)) (Hf.sv Hf.lowB)
  rw [← o1] at t1
  rw [← o2] at t2
  clear o1 o2
  by_cases c1 : Hf.sv Hf.topB ≤ Hf.sv (Hf.tenW b)
  · have e1 := Hf.tenths_hi b c1
    rw [decide_eq_true c1] at t1
    clear t2 c1
    have E1 := Lib.hid e1
    clear e1
    go_enter Try.func40, Try.ntmps40
    go_wp2_with (go_at_call 54; refine (isNaN_no b h _).mono ?_; rintro e w' ⟨rfl, rfl⟩)
    go_ret2
    exact ⟨by rw [E1.out]; rfl, rfl⟩
  · rw [decide_eq_false c1] at t1
    by_cases c2 : Hf.sv (Hf.tenW b) ≤ Hf.sv Hf.lowB
    · have e1 := Hf.tenths_lo b c2
      rw [decide_eq_true c2] at t2
      clear c1 c2
      have E1 := Lib.hid e1
      clear e1
      go_enter Try.func40, Try.ntmps40
      go_wp2_with (go_at_call 54; refine (isNaN_no b h _).mono ?_; rintro e w' ⟨rfl, rfl⟩)
      go_ret2
      exact ⟨by rw [E1.out]; rfl, rfl⟩
    · obtain ⟨hr, ht⟩ := Hf.tenths_mid b c1 c2
      rw [decide_eq_false c2] at t2
      obtain ⟨b1, b2⟩ := Hf.tenths_bd b
      have hcv := mid_run _ _ ht b1 b2
      clear c1 c2 ht b1 b2
      go_enter Try.func40, Try.ntmps40
      go_wp2_with (first | (go_at_call 54; refine (isNaN_no b h _).mono ?_; rintro e w' ⟨rfl, rfl⟩) | (go_at_call 55; refine (ceil_any _ hr _).mono ?_; rintro e w' ⟨rfl, rfl⟩))
      go_ret2
      exact ⟨rfl, rfl⟩

theorem of_any (b : Nat) (h : Hf.rg b ≤ Hf.infR) (w : World) :
    Calls Try.prog 24 #[.int .u64 b] w fun e w' => e = .returned (.tuple #[.int .i64 (Hf.tenths b), .int .i64 0]) ∧ w = w' := by
  go_enter Try.func24, Try.ntmps24
  go_wp2_with (go_at_call 40; refine (tenths_any _ h _).mono ?_; rintro e w' ⟨rfl, rfl⟩)
  go_ret2
  exact ⟨rfl, rfl⟩
theorem of_nan (b : Nat) (h : Hf.infR < Hf.rg b) (w : World) :
    Calls Try.prog 24 #[.int .u64 b] w fun e w' => e = .returned (.tuple #[.int .i64 0, .int .i64 2]) ∧ w = w' := by
  go_enter Try.func24, Try.ntmps24
  go_wp2_with (go_at_call 40; refine (tenths_nan _ h _).mono ?_; rintro e w' ⟨rfl, rfl⟩)
  go_ret2
  exact ⟨rfl, rfl⟩

end Dg
end Go.Proofs.Ytbnnijcjlafcpaa
