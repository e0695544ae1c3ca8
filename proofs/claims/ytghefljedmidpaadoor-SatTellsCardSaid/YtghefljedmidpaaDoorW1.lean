/- Walks over package sat and the document's answer for it: each call gives what the plain definitions say; no condition but those written. -/
import Derived.Test.YtghefljedmidpaaDoorChecked
import Derived.Test.YtghefljedmidpaaDoorNum
import Derived.WalkKit
import Derived.WalkLawsBesides
import Derived.LoopTactic
import Derived.KernelRfl
import Derived.Lib.Hide
namespace Go.Proofs.YtghefljedmidpaaDoor
open Go.RowKit

theorem ret_int {a b : Int} (h : a = b) : Ending.returned (.int .i64 a) = .returned (.int .i64 b) := by rw [h]

theorem fit_any (n : Int) (w : World) : Calls Tryd.prog 6 #[.int .i64 n] w fun e w' => e = .returned (.int .i64 (St.fit n)) ∧ w = w' := by
  by_cases h1 : n < 0
  · have E := Lib.hid (St.fit_neg h1)
    go_enter Tryd.func6, Tryd.ntmps6
    go_wp2
    go_ret
    exact ⟨ret_int E.out.symm, rfl⟩
  · by_cases h2 : 4611686018427387904 < n
    · have E := Lib.hid (St.fit_big h2)
      go_enter Tryd.func6, Tryd.ntmps6
      go_wp2
      go_ret
      exact ⟨ret_int E.out.symm, rfl⟩
    · have E := Lib.hid (St.fit_mid (n := n) (by omega) (by omega))
      go_enter Tryd.func6, Tryd.ntmps6
      go_wp2
      go_ret
      exact ⟨ret_int E.out.symm, rfl⟩
theorem rfit_any (n : Int) (w : World) : Calls Tryd.prog 7 #[.int .i64 n] w fun e w' => e = .returned (.int .i64 (St.fit n)) ∧ w = w' := by
  by_cases h1 : n < 0
  · have E := Lib.hid (St.fit_neg h1)
    go_enter Tryd.func7, Tryd.ntmps7
    go_wp2
    go_ret
    exact ⟨ret_int E.out.symm, rfl⟩
  · by_cases h2 : 4611686018427387904 < n
    · have E := Lib.hid (St.fit_big h2)
      go_enter Tryd.func7, Tryd.ntmps7
      go_wp2
      go_ret
      exact ⟨ret_int E.out.symm, rfl⟩
    · have E := Lib.hid (St.fit_mid (n := n) (by omega) (by omega))
      go_enter Tryd.func7, Tryd.ntmps7
      go_wp2
      go_ret
      exact ⟨ret_int E.out.symm, rfl⟩

theorem plus_any (a b : Int) (ha : 0 ≤ a) (ha' : a ≤ 4611686018427387904) (hb : 0 ≤ b) (hb' : b ≤ 4611686018427387904) (w : World) :
    Calls Tryd.prog 16 #[.int .i64 a, .int .i64 b] w fun e w' => e = .returned (.int .i64 (St.cap (a + b))) ∧ w = w' := by
  by_cases h1 : 4611686018427387904 - b < a
  · have E := Lib.hid (St.cap_big (n := a + b) (by omega))
    go_enter Tryd.func16, Tryd.ntmps16
    go_wp2
    go_ret
    exact ⟨ret_int E.out.symm, rfl⟩
  · have E := Lib.hid (St.cap_mid (n := a + b) (by omega))
    go_enter Tryd.func16, Tryd.ntmps16
    go_wp2
    go_ret
    exact ⟨ret_int E.out.symm, rfl⟩
theorem two_any (a b : Int) (w : World) :
    Calls Tryd.prog 17 #[.int .i64 a, .int .i64 b] w fun e w' => e = .returned (.int .i64 (St.cap (St.fit a + St.fit b))) ∧ w = w' := by
  have HA := rfit_any a
  have HB := rfit_any b
  obtain ⟨a0, a1⟩ := St.fit_bd a
  obtain ⟨b0, b1⟩ := St.fit_bd b
  generalize St.fit a = x at *
  generalize St.fit b = y at *
  have HA' := Lib.hid HA
  have HB' := Lib.hid HB
  clear HA HB
  by_cases h1 : 4611686018427387904 - y < x
  · have E := Lib.hid (St.cap_big (n := x + y) (by omega))
    go_enter Tryd.func17, Tryd.ntmps17
    go_wp2_with fail
    refine (HA'.out _).mono ?_
    rintro e w' ⟨rfl, rfl⟩
    go_wp2_with fail
    refine (HB'.out _).mono ?_
    rintro e w' ⟨rfl, rfl⟩
    go_wp2
    go_ret
    exact ⟨ret_int E.out.symm, rfl⟩
  · have E := Lib.hid (St.cap_mid (n := x + y) (by omega))
    go_enter Tryd.func17, Tryd.ntmps17
    go_wp2_with fail
    refine (HA'.out _).mono ?_
    rintro e w' ⟨rfl, rfl⟩
    go_wp2_with fail
    refine (HB'.out _).mono ?_
    rintro e w' ⟨rfl, rfl⟩
    go_wp2
    go_ret
    exact ⟨ret_int E.out.symm, rfl⟩

theorem less_any (a b : Int) (w : World) :
    Calls Tryd.prog 10 #[.int .i64 a, .int .i64 b] w fun e w' => e = .returned (.int .i64 (St.fit (St.fit a - St.fit b))) ∧ w = w' := by
  have HA := fit_any a
  have HB := fit_any b
  obtain ⟨a0, a1⟩ := St.fit_bd a
  obtain ⟨b0, b1⟩ := St.fit_bd b
  generalize St.fit a = x at *
  generalize St.fit b = y at *
  have HA' := Lib.hid HA
  have HB' := Lib.hid HB
  have HC' := Lib.hid (fit_any (x - y))
  clear HA HB
  go_enter Tryd.func10, Tryd.ntmps10
  go_wp2_with fail
  refine (HA'.out _).mono ?_
  rintro e w' ⟨rfl, rfl⟩
  go_wp2_with fail
  refine (HB'.out _).mono ?_
  rintro e w' ⟨rfl, rfl⟩
  go_wp2_with fail
  refine (HC'.out _).mono ?_
  rintro e w' ⟨rfl, rfl⟩
  go_wp2
  go_ret
  exact ⟨rfl, rfl⟩
theorem rless_any (a b : Int) (w : World) :
    Calls Tryd.prog 11 #[.int .i64 a, .int .i64 b] w fun e w' => e = .returned (.int .i64 (St.fit (St.fit a - St.fit b))) ∧ w = w' := by
  have HA := rfit_any a
  have HB := rfit_any b
  obtain ⟨a0, a1⟩ := St.fit_bd a
  obtain ⟨b0, b1⟩ := St.fit_bd b
  generalize St.fit a = x at *
  generalize St.fit b = y at *
  have HA' := Lib.hid HA
  have HB' := Lib.hid HB
  clear HA HB
  by_cases h1 : x < y
  · have E := Lib.hid (St.fit_neg (n := x - y) (by omega))
    go_enter Tryd.func11, Tryd.ntmps11
    go_wp2_with fail
    refine (HA'.out _).mono ?_
    rintro e w' ⟨rfl, rfl⟩
    go_wp2_with fail
    refine (HB'.out _).mono ?_
    rintro e w' ⟨rfl, rfl⟩
    go_wp2
    go_ret
    exact ⟨ret_int E.out.symm, rfl⟩
  · have E := Lib.hid (St.fit_mid (n := x - y) (by omega) (by omega))
    go_enter Tryd.func11, Tryd.ntmps11
    go_wp2_with fail
    refine (HA'.out _).mono ?_
    rintro e w' ⟨rfl, rfl⟩
    go_wp2_with fail
    refine (HB'.out _).mono ?_
    rintro e w' ⟨rfl, rfl⟩
    go_wp2
    go_ret
    exact ⟨ret_int E.out.symm, rfl⟩

theorem rmul_any (a b : Int) (w : World) :
    Calls Tryd.prog 9 #[.int .i64 a, .int .i64 b] w fun e w' => e = .returned (.int .i64 (St.cap (St.fit a * St.fit b))) ∧ w = w' := by
  have HA := rfit_any a
  have HB := rfit_any b
  obtain ⟨a0, a1⟩ := St.fit_bd a
  obtain ⟨b0, b1⟩ := St.fit_bd b
  generalize St.fit a = x at *
  generalize St.fit b = y at *
  have HA' := Lib.hid HA
  have HB' := Lib.hid HB
  clear HA HB
  by_cases h1 : x = 0
  · have E := Lib.hid (show St.cap (x * y) = 0 by rw [h1, Int.zero_mul]; rfl)
    have t1 : (x == 0) = true := by simp [h1]
    clear h1
    go_enter Tryd.func9, Tryd.ntmps9
    go_wp2_with fail
    refine (HA'.out _).mono ?_
    rintro e w' ⟨rfl, rfl⟩
    go_wp2_with fail
    refine (HB'.out _).mono ?_
    rintro e w' ⟨rfl, rfl⟩
    go_wp2
    go_ret
    exact ⟨ret_int E.out.symm, rfl⟩
  have t1 : (x == 0) = false := by simp [h1]
  by_cases h2 : y = 0
  · have E := Lib.hid (show St.cap (x * y) = 0 by rw [h2, Int.mul_zero]; rfl)
    have t2 : (y == 0) = true := by simp [h2]
    clear h2
    go_enter Tryd.func9, Tryd.ntmps9
    go_wp2_with fail
    refine (HA'.out _).mono ?_
    rintro e w' ⟨rfl, rfl⟩
    go_wp2_with fail
    refine (HB'.out _).mono ?_
    rintro e w' ⟨rfl, rfl⟩
    go_wp2
    go_ret
    exact ⟨ret_int E.out.symm, rfl⟩
  have t2 : (y == 0) = false := by simp [h2]
  have y0 : 0 < y := by omega
  have q0 : 0 ≤ 4611686018427387904 / y := Int.ediv_nonneg (by omega) b0
  have q1 : 4611686018427387904 / y ≤ 4611686018427387904 := Int.ediv_le_self _ (by omega)
  by_cases h3 : 4611686018427387904 / y < x
  · have E := Lib.hid (St.prod_big y0 h3)
    clear h1 h2
    go_enter Tryd.func9, Tryd.ntmps9
    go_wp2_with fail
    refine (HA'.out _).mono ?_
    rintro e w' ⟨rfl, rfl⟩
    go_wp2_with fail
    refine (HB'.out _).mono ?_
    rintro e w' ⟨rfl, rfl⟩
    go_wp2
    go_ret
    exact ⟨ret_int E.out.symm, rfl⟩
  · have p1 := St.prod_mid (x := x) y0 (by omega)
    have p0 : 0 ≤ x * y := Int.mul_nonneg a0 b0
    have E := Lib.hid (St.cap_mid p1)
    clear h1 h2
    go_enter Tryd.func9, Tryd.ntmps9
    go_wp2_with fail
    refine (HA'.out _).mono ?_
    rintro e w' ⟨rfl, rfl⟩
    go_wp2_with fail
    refine (HB'.out _).mono ?_
    rintro e w' ⟨rfl, rfl⟩
    go_wp2
    go_ret
    exact ⟨ret_int E.out.symm, rfl⟩
end Go.Proofs.YtghefljedmidpaaDoor
