/- Walks over package sat and the document's answer for it: each call gives what the plain definitions say; no condition but those written. -/
import Derived.Test.YtgmjmkkhoibbcaaDoorChecked
import Derived.Test.YtgmjmkkhoibbcaaDoorStNum
import Derived.WalkKit
import Derived.WalkLawsBesides
import Derived.LoopTactic
import Derived.KernelRfl
import Derived.Lib.Hide
namespace Go.Proofs.YtgmjmkkhoibbcaaDoor
namespace St
open Go.RowKit

theorem ret_int {a b : Int} (h : a = b) : Ending.returned (.int .i64 a) = .returned (.int .i64 b) := by rw [h]

theorem fit_any (n : Int) (w : World) : Calls Tryd.prog 40 #[.int .i64 n] w fun e w' => e = .returned (.int .i64 (St.fit n)) ∧ w = w' := by
  by_cases h1 : n < 0
  · have E := Lib.hid (St.fit_neg h1)
    go_enter Tryd.func40, Tryd.ntmps40
    go_wp2
    go_ret
    exact ⟨ret_int E.out.symm, rfl⟩
  · by_cases h2 : 4611686018427387904 < n
    · have E := Lib.hid (St.fit_big h2)
      go_enter Tryd.func40, Tryd.ntmps40
      go_wp2
      go_ret
      exact ⟨ret_int E.out.symm, rfl⟩
    · have E := Lib.hid (St.fit_mid (n := n) (by omega) (by omega))
      go_enter Tryd.func40, Tryd.ntmps40
      go_wp2
      go_ret
      exact ⟨ret_int E.out.symm, rfl⟩
theorem rfit_any (n : Int) (w : World) : Calls Tryd.prog 36 #[.int .i64 n] w fun e w' => e = .returned (.int .i64 (St.fit n)) ∧ w = w' := by
  by_cases h1 : n < 0
  · have E := Lib.hid (St.fit_neg h1)
    go_enter Tryd.func36, Tryd.ntmps36
    go_wp2
    go_ret
    exact ⟨ret_int E.out.symm, rfl⟩
  · by_cases h2 : 4611686018427387904 < n
    · have E := Lib.hid (St.fit_big h2)
      go_enter Tryd.func36, Tryd.ntmps36
      go_wp2
      go_ret
      exact ⟨ret_int E.out.symm, rfl⟩
    · have E := Lib.hid (St.fit_mid (n := n) (by omega) (by omega))
      go_enter Tryd.func36, Tryd.ntmps36
      go_wp2
      go_ret
      exact ⟨ret_int E.out.symm, rfl⟩

theorem plus_any (a b : Int) (ha : 0 ≤ a) (ha' : a ≤ 4611686018427387904) (hb : 0 ≤ b) (hb' : b ≤ 4611686018427387904) (w : World) :
    Calls Tryd.prog 39 #[.int .i64 a, .int .i64 b] w fun e w' => e = .returned (.int .i64 (St.cap (a + b))) ∧ w = w' := by
  by_cases h1 : 4611686018427387904 - b < a
  · have E := Lib.hid (St.cap_big (n := a + b) (by omega))
    go_enter Tryd.func39, Tryd.ntmps39
    go_wp2
    go_ret
    exact ⟨ret_int E.out.symm, rfl⟩
  · have E := Lib.hid (St.cap_mid (n := a + b) (by omega))
    go_enter Tryd.func39, Tryd.ntmps39
    go_wp2
    go_ret
    exact ⟨ret_int E.out.symm, rfl⟩
theorem two_any (a b : Int) (w : World) :
    Calls Tryd.prog 28 #[.int .i64 a, .int .i64 b] w fun e w' => e = .returned (.int .i64 (St.cap (St.fit a + St.fit b))) ∧ w = w' := by
  have HA := rfit_any a
  have HB := rfit_any b
  obtain ⟨a0, a1⟩ := St.fit_bd a
  obtain ⟨b0, b1⟩ := St.fit_bd b
  generalize St.fit a = x at *
  generalize St.fit b = y at *
  have HA' := Lib.hid HA
  have HB' := Lib.hid HB
  clear HA HB
  by_cases h1 : 4611686018427387904 - y < x
  · have E := Lib.hid (St.cap_big (n := x + y) (by omega))
    go_enter Tryd.func28, Tryd.ntmps28
    go_wp2_with fail
    refine (HA'.out _).mono ?_
    rintro e w' ⟨rfl, rfl⟩
    go_wp2_with fail
    refine (HB'.out _).mono ?_
    rintro e w' ⟨rfl, rfl⟩
    go_wp2
    go_ret
    exact ⟨ret_int E.out.symm, rfl⟩
  · have E := Lib.hid (St.cap_mid (n := x + y) (by omega))
    go_enter Tryd.func28, Tryd.ntmps28
    go_wp2_with fail
    refine (HA'.out _).mono ?_
    rintro e w' ⟨rfl, rfl⟩
    go_wp2_with fail
    refine (HB'.out _).mono ?_
    rintro e w' ⟨rfl, rfl⟩
    go_wp2
    go_ret
    exact ⟨ret_int E.out.symm, rfl⟩

end St
end Go.Proofs.YtgmjmkkhoibbcaaDoor
