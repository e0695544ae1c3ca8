/- Walks over the document's answer on the tenths of a float64: what it answers in plain whole numbers; no condition but those written. -/
import Derived.Test.YtbnnijcjlafcpaaDg1
import Derived.Test.YtbnnijcjlafcpaaDgRef
import Derived.LoopTactic
import Derived.Outline
namespace Go.Proofs.Ytbnnijcjlafcpaa
namespace Dg
open Go.RowKit

theorem width_any (p : Nat) (h : p < 1152921504606846976) (w : World) :
    Calls Try.prog 49 #[.int .u64 p] w fun e w' => e = .returned (.int .i64 (Hf.wd p)) ∧ w = w' := by
  have hw := Hf.wd_le p h
  go_enter Try.func49, Try.ntmps49
  go_wp2
  go_loop [0, 3] (fun u n => ∃ k j : Nat, k < 1152921504606846976 ∧ j ≤ 60 ∧ Hid (j + Hf.wd k = Hf.wd p) ∧ u = .int .u64 k ∧ n = .int .i64 j) (fun u _ => (intOf u).toNat)
  case atStart => exact ⟨p, 0, h, by omega, Lib.hid (by omega), rfl, rfl⟩
  case round =>
    obtain ⟨k, j, hk, hj, HJ, rfl, rfl⟩ := hrel
    by_cases hlt : 0 < k
    · have e1 := Hf.wd_half k hlt
      have HJ2 : Hid (j + 1 + Hf.wd (k / 2) = Hf.wd p) := Lib.hid (by have := HJ.out; omega)
      have hj2 : j + 1 ≤ 60 := by have := HJ2.out; omega
      clear e1 hw
      go_wp2
      go_round
      case rel => exact ⟨k / 2, j + 1, by omega, hj2, HJ2, by go_num, by go_num⟩
      case measure => simp [intOf]; omega
    · have hk0 : k = 0 := by omega
      subst hk0
      have HJ2 := HJ.out
      rw [Hf.wd_zero, Nat.add_zero] at HJ2
      have HJ3 := Lib.hid HJ2
      clear HJ HJ2 hw
      go_wp2
      go_ret
      exact ⟨by rw [HJ3.out]; rfl, rfl⟩

theorem power_any (n : Nat) (h : n ≤ 62) (w : World) :
    Calls Try.prog 50 #[.int .i64 n] w fun e w' => e = .returned (.int .u64 ((2 ^ n : Nat) : Int)) ∧ w = w' := by
  go_enter Try.func50, Try.ntmps50
  go_wp2
  go_loop [3, 4] (fun u i => ∃ k : Nat, k ≤ n ∧ i = .int .i64 k ∧ u = .int .u64 ((2 ^ k : Nat) : Int)) (fun _ i => n - (intOf i).toNat)
  case atStart => exact ⟨0, by omega, rfl, rfl⟩
  case round =>
    obtain ⟨k, hk, rfl, rfl⟩ := hrel
    have hp : 2 ^ k ≤ 2 ^ 62 := Nat.pow_le_pow_right (by omega) (by omega)
    have e2 : 2 ^ (k + 1) = 2 * 2 ^ k := by rw [Nat.pow_succ, Nat.mul_comm]
    have hp' : 2 ^ k ≤ 4611686018427387904 := hp
    clear hp
    have E2 := Lib.hid e2
    clear e2
    by_cases hlt : k < n
    · generalize hg : 2 ^ k = x at *
      have HG := Lib.hid hg
      clear hg
      go_wp2
      go_round
      case rel => exact ⟨k + 1, by omega, by go_num, by rw [E2.out]; go_num⟩
      case measure => simp [intOf]; omega
    · have : k = n := by omega
      subst this
      go_wp2
      go_ret
      exact ⟨rfl, rfl⟩
end Dg
end Go.Proofs.Ytbnnijcjlafcpaa
