/- Walks over the document's answer on the tenths of a float64, its second part: what is rounded to 53 bits, and to a whole number; no condition but those written. -/
import Derived.Test.YtbnnijcjlafcpaaDgRef8
namespace Go.Proofs.Ytbnnijcjlafcpaa
namespace Dg
open Go.RowKit

theorem width_at (p : Nat) (k : Int) (h : p < 1152921504606846976) (hk : (Hf.wd p : Int) = k) (w : World) :
    Calls Try.prog 49 #[.int .u64 p] w fun e w' => e = .returned (.int .i64 k) ∧ w = w' := hk ▸ width_any p h w
theorem power_at (n : Int) (P : Int) (h0 : 0 ≤ n) (h : n ≤ 62) (hP : ((2 ^ n.toNat : Nat) : Int) = P) (w : World) :
    Calls Try.prog 50 #[.int .i64 n] w fun e w' => e = .returned (.int .u64 P) ∧ w = w' := by
  obtain ⟨k, rfl⟩ := Int.eq_ofNat_of_zero_le h0
  subst hP
  exact power_any k (by omega) w

theorem near_small (p : Nat) (h : p < 9007199254740992) (w : World) :
    Calls Try.prog 30 #[.int .u64 p] w fun e w' => e = .returned (.tuple #[.int .u64 p, .int .i64 0]) ∧ w = w' := by
  have hw : Hf.wd p ≤ 53 := by
    unfold Hf.wd
    split
    · omega
    · rename_i h0
      have := (Nat.log2_lt h0).2 (show p < 2 ^ 53 from h)
      omega
  go_enter Try.func30, Try.ntmps30
  go_wp2_with (go_at_call 49; refine (width_any p (by omega) _).mono ?_; rintro e w' ⟨rfl, rfl⟩)
  go_ret2
  exact ⟨rfl, rfl⟩

theorem wd_at (p d : Nat) (h1 : 2 ^ (52 + d) ≤ p) (h2 : p < 2 ^ (53 + d)) : Hf.wd p = 53 + d ∧ Hf.gone p = d := by
  have h0 : p ≠ 0 := by have := Nat.two_pow_pos (52 + d); omega
  have e := Hf.log2_of_bounds (k := 52 + d) h1 (by rw [show 52 + d + 1 = 53 + d by omega]; exact h2)
  unfold Hf.wd Hf.gone
  rw [if_neg h0, e]
  omega

set_option maxHeartbeats 1000000 in
theorem near_1 (p : Nat) (h1 : 9007199254740992 ≤ p) (h2 : p < 18014398509481984) (w : World) :
    Calls Try.prog 30 #[.int .u64 p] w fun e w' => e = .returned (.tuple #[.int .u64 (Hf.rne p 1 : Nat), .int .i64 1]) ∧ w = w' := by
  have W : Hid ((Hf.wd p : Int) = 54) := Lib.hid (by have := (wd_at p 1 h1 h2).1; omega)
  have R : Hf.rne p 1 = p / 2 + (if 2 < 2 * (p % 2) ∨ (2 = 2 * (p % 2) ∧ p / 2 % 2 = 1) then 1 else 0) := rfl
  by_cases A : 1 < p % 2
  · have HR : Hid ((p : Int) / 2 + 1 = ((Hf.rne p 1 : Nat) : Int)) := Lib.hid (by rw [R, if_pos (Or.inl (by omega))]; omega)
    have A' : (1 : Int) < (p : Int) % 2 := by omega
    clear R A
    go_enter Try.func30, Try.ntmps30
    go_wp2_with fail
    refine (width_at p 54 (by omega) W.out _).mono ?_
    rintro e w' ⟨rfl, rfl⟩
    go_wp2_with fail
    refine (power_at 1 2 (by decide) (by decide) (by decide) _).mono ?_
    rintro e w' ⟨rfl, rfl⟩
    go_wp2_with fail
    refine (power_at 1 2 (by decide) (by decide) (by decide) _).mono ?_
    rintro e w' ⟨rfl, rfl⟩
    go_wp2_with fail
    refine (power_at 0 1 (by decide) (by decide) (by decide) _).mono ?_
    rintro e w' ⟨rfl, rfl⟩
    go_wp2
    go_ret2
    exact ⟨by rw [← HR.out]; rfl, rfl⟩
  · by_cases B : p % 2 = 1
    · have B' : ((p : Int) % 2 == 1) = true := by simp; omega
      have A' : ¬ (1 : Int) < (p : Int) % 2 := by omega
      by_cases C : p / 2 % 2 = 1
      · have HR : Hid ((p : Int) / 2 + 1 = ((Hf.rne p 1 : Nat) : Int)) := Lib.hid (by rw [R, if_pos (Or.inr ⟨by omega, C⟩)]; omega)
        have C' : ((p : Int) / 2 % 2 == 1) = true := by simp; omega
        clear R A B C
        go_enter Try.func30, Try.ntmps30
        go_wp2_with fail
        refine (width_at p 54 (by omega) W.out _).mono ?_
        rintro e w' ⟨rfl, rfl⟩
        go_wp2_with fail
        refine (power_at 1 2 (by decide) (by decide) (by decide) _).mono ?_
        rintro e w' ⟨rfl, rfl⟩
        go_wp2_with fail
        refine (power_at 1 2 (by decide) (by decide) (by decide) _).mono ?_
        rintro e w' ⟨rfl, rfl⟩
        go_wp2_with fail
        refine (power_at 0 1 (by decide) (by decide) (by decide) _).mono ?_
        rintro e w' ⟨rfl, rfl⟩
        go_wp2
        go_ret2
        exact ⟨by rw [← HR.out]; rfl, rfl⟩
      · have HR : Hid ((p : Int) / 2 = ((Hf.rne p 1 : Nat) : Int)) := Lib.hid (by rw [R, if_neg (by rintro (x | ⟨x, y⟩); omega; exact C y)]; omega)
        have C' : ((p : Int) / 2 % 2 == 1) = false := by simp; omega
        clear R A B C
        go_enter Try.func30, Try.ntmps30
        go_wp2_with fail
        refine (width_at p 54 (by omega) W.out _).mono ?_
        rintro e w' ⟨rfl, rfl⟩
        go_wp2_with fail
        refine (power_at 1 2 (by decide) (by decide) (by decide) _).mono ?_
        rintro e w' ⟨rfl, rfl⟩
        go_wp2_with fail
        refine (power_at 1 2 (by decide) (by decide) (by decide) _).mono ?_
        rintro e w' ⟨rfl, rfl⟩
        go_wp2_with fail
        refine (power_at 0 1 (by decide) (by decide) (by decide) _).mono ?_
        rintro e w' ⟨rfl, rfl⟩
        go_wp2
        go_ret2
        exact ⟨by rw [← HR.out]; rfl, rfl⟩
    · have HR : Hid ((p : Int) / 2 = ((Hf.rne p 1 : Nat) : Int)) := Lib.hid (by rw [R, if_neg (by rintro (x | ⟨x, y⟩) <;> omega)]; omega)
      have B' : ((p : Int) % 2 == 1) = false := by simp; omega
      have A' : ¬ (1 : Int) < (p : Int) % 2 := by omega
      clear R A B
      go_enter Try.func30, Try.ntmps30
      go_wp2_with fail
      refine (width_at p 54 (by omega) W.out _).mono ?_
      rintro e w' ⟨rfl, rfl⟩
      go_wp2_with fail
      refine (power_at 1 2 (by decide) (by decide) (by decide) _).mono ?_
      rintro e w' ⟨rfl, rfl⟩
      go_wp2_with fail
      refine (power_at 1 2 (by decide) (by decide) (by decide) _).mono ?_
      rintro e w' ⟨rfl, rfl⟩
      go_wp2_with fail
      refine (power_at 0 1 (by decide) (by decide) (by decide) _).mono ?_
      rintro e w' ⟨rfl, rfl⟩
      go_wp2
      go_ret2
      exact ⟨by rw [← HR.out]; rfl, rfl⟩

set_option maxHeartbeats 1000000 in
theorem near_2 (p : Nat) (h1 : 18014398509481984 ≤ p) (h2 : p < 36028797018963968) (w : World) :
    Calls Try.prog 30 #[.int .u64 p] w fun e w' => e = .returned (.tuple #[.int .u64 (Hf.rne p 2 : Nat), .int .i64 2]) ∧ w = w' := by
  have W : Hid ((Hf.wd p : Int) = 55) := Lib.hid (by have := (wd_at p 2 h1 h2).1; omega)
  have R : Hf.rne p 2 = p / 4 + (if 4 < 2 * (p % 4) ∨ (4 = 2 * (p % 4) ∧ p / 4 % 2 = 1) then 1 else 0) := rfl
  by_cases A : 2 < p % 4
  · have HR : Hid ((p : Int) / 4 + 1 = ((Hf.rne p 2 : Nat) : Int)) := Lib.hid (by rw [R, if_pos (Or.inl (by omega))]; omega)
    have A' : (2 : Int) < (p : Int) % 4 := by omega
    clear R A
    go_enter Try.func30, Try.ntmps30
    go_wp2_with fail
    refine (width_at p 55 (by omega) W.out _).mono ?_
    rintro e w' ⟨rfl, rfl⟩
    go_wp2_with fail
    refine (power_at 2 4 (by decide) (by decide) (by decide) _).mono ?_
    rintro e w' ⟨rfl, rfl⟩
    go_wp2_with fail
    refine (power_at 2 4 (by decide) (by decide) (by decide) _).mono ?_
    rintro e w' ⟨rfl, rfl⟩
    go_wp2_with fail
    refine (power_at 1 2 (by decide) (by decide) (by decide) _).mono ?_
    rintro e w' ⟨rfl, rfl⟩
    go_wp2
    go_ret2
    exact ⟨by rw [← HR.out]; rfl, rfl⟩
  · by_cases B : p % 4 = 2
    · have B' : ((p : Int) % 4 == 2) = true := by simp; omega
      have A' : ¬ (2 : Int) < (p : Int) % 4 := by omega
      by_cases C : p / 4 % 2 = 1
      · have HR : Hid ((p : Int) / 4 + 1 = ((Hf.rne p 2 : Nat) : Int)) := Lib.hid (by rw [R, if_pos (Or.inr ⟨by omega, C⟩)]; omega)
        have C' : ((p : Int) / 4 % 2 == 1) = true := by simp; omega
        clear R A B C
        go_enter Try.func30, Try.ntmps30
        go_wp2_with fail
        refine (width_at p 55 (by omega) W.out _).mono ?_
        rintro e w' ⟨rfl, rfl⟩
        go_wp2_with fail
        refine (power_at 2 4 (by decide) (by decide) (by decide) _).mono ?_
        rintro e w' ⟨rfl, rfl⟩
        go_wp2_with fail
        refine (power_at 2 4 (by decide) (by decide) (by decide) _).mono ?_
        rintro e w' ⟨rfl, rfl⟩
        go_wp2_with fail
        refine (power_at 1 2 (by decide) (by decide) (by decide) _).mono ?_
        rintro e w' ⟨rfl, rfl⟩
        go_wp2
        go_ret2
        exact ⟨by rw [← HR.out]; rfl, rfl⟩
      · have HR : Hid ((p : Int) / 4 = ((Hf.rne p 2 : Nat) : Int)) := Lib.hid (by rw [R, if_neg (by rintro (x | ⟨x, y⟩); omega; exact C y)]; omega)
        have C' : ((p : Int) / 4 % 2 == 1) = false := by simp; omega
        clear R A B C
        go_enter Try.func30, Try.ntmps30
        go_wp2_with fail
        refine (width_at p 55 (by omega) W.out _).mono ?_
        rintro e w' ⟨rfl, rfl⟩
        go_wp2_with fail
        refine (power_at 2 4 (by decide) (by decide) (by decide) _).mono ?_
        rintro e w' ⟨rfl, rfl⟩
        go_wp2_with fail
        refine (power_at 2 4 (by decide) (by decide) (by decide) _).mono ?_
        rintro e w' ⟨rfl, rfl⟩
        go_wp2_with fail
        refine (power_at 1 2 (by decide) (by decide) (by decide) _).mono ?_
        rintro e w' ⟨rfl, rfl⟩
        go_wp2
        go_ret2
        exact ⟨by rw [← HR.out]; rfl, rfl⟩
    · have HR : Hid ((p : Int) / 4 = ((Hf.rne p 2 : Nat) : Int)) := Lib.hid (by rw [R, if_neg (by rintro (x | ⟨x, y⟩) <;> omega)]; omega)
      have B' : ((p : Int) % 4 == 2) = false := by simp; omega
      have A' : ¬ (2 : Int) < (p : Int) % 4 := by omega
      clear R A B
      go_enter Try.func30, Try.ntmps30
      go_wp2_with fail
      refine (width_at p 55 (by omega) W.out _).mono ?_
      rintro e w' ⟨rfl, rfl⟩
      go_wp2_with fail
      refine (power_at 2 4 (by decide) (by decide) (by decide) _).mono ?_
      rintro e w' ⟨rfl, rfl⟩
      go_wp2_with fail
      refine (power_at 2 4 (by decide) (by decide) (by decide) _).mono ?_
      rintro e w' ⟨rfl, rfl⟩
      go_wp2_with fail
      refine (power_at 1 2 (by decide) (by decide) (by decide) _).mono ?_
      rintro e w' ⟨rfl, rfl⟩
      go_wp2
      go_ret2
      exact ⟨by rw [← HR.out]; rfl, rfl⟩

set_option maxHeartbeats 1000000 in
theorem near_3 (p : Nat) (h1 : 36028797018963968 ≤ p) (h2 : p < 72057594037927936) (w : World) :
    Calls Try.prog 30 #[.int .u64 p] w fun e w' => e = .returned (.tuple #[.int .u64 (Hf.rne p 3 : Nat), .int .i64 3]) ∧ w = w' := by
  have W : Hid ((Hf.wd p : Int) = 56) := Lib.hid (by have := (wd_at p 3 h1 h2).1; omega)
  have R : Hf.rne p 3 = p / 8 + (if 8 < 2 * (p % 8) ∨ (8 = 2 * (p % 8) ∧ p / 8 % 2 = 1) then 1 else 0) := rfl
  by_cases A : 4 < p % 8
  · have HR : Hid ((p : Int) / 8 + 1 = ((Hf.rne p 3 : Nat) : Int)) := Lib.hid (by rw [R, if_pos (Or.inl (by omega))]; omega)
    have A' : (4 : Int) < (p : Int) % 8 := by omega
    clear R A
    go_enter Try.func30, Try.ntmps30
    go_wp2_with fail
    refine (width_at p 56 (by omega) W.out _).mono ?_
    rintro e w' ⟨rfl, rfl⟩
    go_wp2_with fail
    refine (power_at 3 8 (by decide) (by decide) (by decide) _).mono ?_
    rintro e w' ⟨rfl, rfl⟩
    go_wp2_with fail
    refine (power_at 3 8 (by decide) (by decide) (by decide) _).mono ?_
    rintro e w' ⟨rfl, rfl⟩
    go_wp2_with fail
    refine (power_at 2 4 (by decide) (by decide) (by decide) _).mono ?_
    rintro e w' ⟨rfl, rfl⟩
    go_wp2
    go_ret2
    exact ⟨by rw [← HR.out]; rfl, rfl⟩
  · by_cases B : p % 8 = 4
    · have B' : ((p : Int) % 8 == 4) = true := by simp; omega
      have A' : ¬ (4 : Int) < (p : Int) % 8 := by omega
      by_cases C : p / 8 % 2 = 1
      · have HR : Hid ((p : Int) / 8 + 1 = ((Hf.rne p 3 : Nat) : Int)) := Lib.hid (by rw [R, if_pos (Or.inr ⟨by omega, C⟩)]; omega)
        have C' : ((p : Int) / 8 % 2 == 1) = true := by simp; omega
        clear R A B C
        go_enter Try.func30, Try.ntmps30
        go_wp2_with fail
        refine (width_at p 56 (by omega) W.out _).mono ?_
        rintro e w' ⟨rfl, rfl⟩
        go_wp2_with fail
        refine (power_at 3 8 (by decide) (by decide) (by decide) _).mono ?_
        rintro e w' ⟨rfl, rfl⟩
        go_wp2_with fail
        refine (power_at 3 8 (by decide) (by decide) (by decide) _).mono ?_
        rintro e w' ⟨rfl, rfl⟩
        go_wp2_with fail
        refine (power_at 2 4 (by decide) (by decide) (by decide) _).mono ?_
        rintro e w' ⟨rfl, rfl⟩
        go_wp2
        go_ret2
        exact ⟨by rw [← HR.out]; rfl, rfl⟩
      · have HR : Hid ((p : Int) / 8 = ((Hf.rne p 3 : Nat) : Int)) := Lib.hid (by rw [R, if_neg (by rintro (x | ⟨x, y⟩); omega; exact C y)]; omega)
        have C' : ((p : Int) / 8 % 2 == 1) = false := by simp; omega
        clear R A B C
        go_enter Try.func30, Try.ntmps30
        go_wp2_with fail
        refine (width_at p 56 (by omega) W.out _).mono ?_
        rintro e w' ⟨rfl, rfl⟩
        go_wp2_with fail
        refine (power_at 3 8 (by decide) (by decide) (by decide) _).mono ?_
        rintro e w' ⟨rfl, rfl⟩
        go_wp2_with fail
        refine (power_at 3 8 (by decide) (by decide) (by decide) _).mono ?_
        rintro e w' ⟨rfl, rfl⟩
        go_wp2_with fail
        refine (power_at 2 4 (by decide) (by decide) (by decide) _).mono ?_
        rintro e w' ⟨rfl, rfl⟩
        go_wp2
        go_ret2
        exact ⟨by rw [← HR.out]; rfl, rfl⟩
    · have HR : Hid ((p : Int) / 8 = ((Hf.rne p 3 : Nat) : Int)) := Lib.hid (by rw [R, if_neg (by rintro (x | ⟨x, y⟩) <;> omega)]; omega)
      have B' : ((p : Int) % 8 == 4) = false := by simp; omega
      have A' : ¬ (4 : Int) < (p : Int) % 8 := by omega
      clear R A B
      go_enter Try.func30, Try.ntmps30
      go_wp2_with fail
      refine (width_at p 56 (by omega) W.out _).mono ?_
      rintro e w' ⟨rfl, rfl⟩
      go_wp2_with fail
      refine (power_at 3 8 (by decide) (by decide) (by decide) _).mono ?_
      rintro e w' ⟨rfl, rfl⟩
      go_wp2_with fail
      refine (power_at 3 8 (by decide) (by decide) (by decide) _).mono ?_
      rintro e w' ⟨rfl, rfl⟩
      go_wp2_with fail
      refine (power_at 2 4 (by decide) (by decide) (by decide) _).mono ?_
      rintro e w' ⟨rfl, rfl⟩
      go_wp2
      go_ret2
      exact ⟨by rw [← HR.out]; rfl, rfl⟩

set_option maxHeartbeats 1000000 in
theorem near_4 (p : Nat) (h1 : 72057594037927936 ≤ p) (h2 : p < 144115188075855872) (w : World) :
    Calls Try.prog 30 #[.int .u64 p] w fun e w' => e = .returned (.tuple #[.int .u64 (Hf.rne p 4 : Nat), .int .i64 4]) ∧ w = w' := by
  have W : Hid ((Hf.wd p : Int) = 57) := Lib.hid (by have := (wd_at p 4 h1 h2).1; omega)
  have R : Hf.rne p 4 = p / 16 + (if 16 < 2 * (p % 16) ∨ (16 = 2 * (p % 16) ∧ p / 16 % 2 = 1) then 1 else 0) := rfl
  by_cases A : 8 < p % 16
  · have HR : Hid ((p : Int) / 16 + 1 = ((Hf.rne p 4 : Nat) : Int)) := Lib.hid (by rw [R, if_pos (Or.inl (by omega))]; omega)
    have A' : (8 : Int) < (p : Int) % 16 := by omega
    clear R A
    go_enter Try.func30, Try.ntmps30
    go_wp2_with fail
    refine (width_at p 57 (by omega) W.out _).mono ?_
    rintro e w' ⟨rfl, rfl⟩
    go_wp2_with fail
    refine (power_at 4 16 (by decide) (by decide) (by decide) _).mono ?_
    rintro e w' ⟨rfl, rfl⟩
    go_wp2_with fail
    refine (power_at 4 16 (by decide) (by decide) (by decide) _).mono ?_
    rintro e w' ⟨rfl, rfl⟩
    go_wp2_with fail
    refine (power_at 3 8 (by decide) (by decide) (by decide) _).mono ?_
    rintro e w' ⟨rfl, rfl⟩
    go_wp2
    go_ret2
    exact ⟨by rw [← HR.out]; rfl, rfl⟩
  · by_cases B : p % 16 = 8
    · have B' : ((p : Int) % 16 == 8) = true := by simp; omega
      have A' : ¬ (8 : Int) < (p : Int) % 16 := by omega
      by_cases C : p / 16 % 2 = 1
      · have HR : Hid ((p : Int) / 16 + 1 = ((Hf.rne p 4 : Nat) : Int)) := Lib.hid (by rw [R, if_pos (Or.inr ⟨by omega, C⟩)]; omega)
        have C' : ((p : Int) / 16 % 2 == 1) = true := by simp; omega
        clear R A B C
        go_enter Try.func30, Try.ntmps30
        go_wp2_with fail
        refine (width_at p 57 (by omega) W.out _).mono ?_
        rintro e w' ⟨rfl, rfl⟩
        go_wp2_with fail
        refine (power_at 4 16 (by decide) (by decide) (by decide) _).mono ?_
        rintro e w' ⟨rfl, rfl⟩
        go_wp2_with fail
        refine (power_at 4 16 (by decide) (by decide) (by decide) _).mono ?_
        rintro e w' ⟨rfl, rfl⟩
        go_wp2_with fail
        refine (power_at 3 8 (by decide) (by decide) (by decide) _).mono ?_
        rintro e w' ⟨rfl, rfl⟩
        go_wp2
        go_ret2
        exact ⟨by rw [← HR.out]; rfl, rfl⟩
      · have HR : Hid ((p : Int) / 16 = ((Hf.rne p 4 : Nat) : Int)) := Lib.hid (by rw [R, if_neg (by rintro (x | ⟨x, y⟩); omega; exact C y)]; omega)
        have C' : ((p : Int) / 16 % 2 == 1) = false := by simp; omega
        clear R A B C
        go_enter Try.func30, Try.ntmps30
        go_wp2_with fail
        refine (width_at p 57 (by omega) W.out _).mono ?_
        rintro e w' ⟨rfl, rfl⟩
        go_wp2_with fail
        refine (power_at 4 16 (by decide) (by decide) (by decide) _).mono ?_
        rintro e w' ⟨rfl, rfl⟩
        go_wp2_with fail
        refine (power_at 4 16 (by decide) (by decide) (by decide) _).mono ?_
        rintro e w' ⟨rfl, rfl⟩
        go_wp2_with fail
        refine (power_at 3 8 (by decide) (by decide) (by decide) _).mono ?_
        rintro e w' ⟨rfl, rfl⟩
        go_wp2
        go_ret2
        exact ⟨by rw [← HR.out]; rfl, rfl⟩
    · have HR : Hid ((p : Int) / 16 = ((Hf.rne p 4 : Nat) : Int)) := Lib.hid (by rw [R, if_neg (by rintro (x | ⟨x, y⟩) <;> omega)]; omega)
      have B' : ((p : Int) % 16 == 8) = false := by simp; omega
      have A' : ¬ (8 : Int) < (p : Int) % 16 := by omega
      clear R A B
      go_enter Try.func30, Try.ntmps30
      go_wp2_with fail
      refine (width_at p 57 (by omega) W.out _).mono ?_
      rintro e w' ⟨rfl, rfl⟩
      go_wp2_with fail
      refine (power_at 4 16 (by decide) (by decide) (by decide) _).mono ?_
      rintro e w' ⟨rfl, rfl⟩
      go_wp2_with fail
      refine (power_at 4 16 (by decide) (by decide) (by decide) _).mono ?_
      rintro e w' ⟨rfl, rfl⟩
      go_wp2_with fail
      refine (power_at 3 8 (by decide) (by decide) (by decide) _).mono ?_
      rintro e w' ⟨rfl, rfl⟩
      go_wp2
      go_ret2
      exact ⟨by rw [← HR.out]; rfl, rfl⟩

end Dg
end Go.Proofs.Ytbnnijcjlafcpaa
