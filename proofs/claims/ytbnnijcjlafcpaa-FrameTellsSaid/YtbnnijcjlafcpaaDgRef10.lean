/- Walks over the document's answer on the tenths of a float64, its third part: the whole call; no condition but those written. -/
import Derived.Test.YtbnnijcjlafcpaaDgRef9
namespace Go.Proofs.Ytbnnijcjlafcpaa
namespace Dg
open Go.RowKit

theorem whole_pos (q : Nat) (E : Int) (s : Bool) (hq : q ≤ 9007199254740992) (h0 : 0 ≤ E) (h1 : E ≤ 100) (w : World) :
    Calls Try.prog 31 #[.int .u64 q, .int .i64 E, .bool s] w fun e w' => e = .returned (.int .u64 (Hf.wholeN q E s : Nat)) ∧ w = w' := by
  have R : Hf.wholeN q E s = if q = 0 then 0 else if 9 < E then 9223372036854775808 else q * 2 ^ E.toNat := by
    unfold Hf.wholeN; rw [if_pos h0]
  by_cases hz : q = 0
  · subst hz
    rw [if_pos rfl] at R
    have HR := Lib.hid R
    clear R
    go_enter Try.func31, Try.ntmps31
    go_wp2
    go_ret
    exact ⟨by rw [HR.out]; rfl, rfl⟩
  · rw [if_neg hz] at R
    have hz' : ((q : Int) == 0) = false := by simp; omega
    by_cases h9 : 9 < E
    · rw [if_pos h9] at R
      have HR := Lib.hid R
      clear R hz
      go_enter Try.func31, Try.ntmps31
      go_wp2
      go_ret
      exact ⟨by rw [HR.out]; rfl, rfl⟩
    · rw [if_neg h9] at R
      have hP : 2 ^ E.toNat ≤ 2 ^ 9 := Nat.pow_le_pow_right (by omega) (by omega)
      have hM : q * 2 ^ E.toNat ≤ 9007199254740992 * 2 ^ 9 := Nat.mul_le_mul hq hP
      obtain ⟨P, eP⟩ : ∃ P : Nat, 2 ^ E.toNat = P := ⟨_, rfl⟩
      have HP : Hid (((2 ^ E.toNat : Nat) : Int) = (P : Int)) := Lib.hid (by rw [eP])
      rw [eP] at R hP hM
      have m1 : (q : Int) * (P : Int) = ((q * P : Nat) : Int) := by push_cast; rfl
      have m2 : (0 : Int) ≤ (q : Int) * (P : Int) := by rw [m1]; omega
      have m3 : (q : Int) * (P : Int) ≤ 4611686018427387904 := by rw [m1]; omega
      have HR : Hid ((q : Int) * (P : Int) = ((Hf.wholeN q E s : Nat) : Int)) := Lib.hid (by rw [R, m1])
      clear R hz m1 eP hM hP
      go_enter Try.func31, Try.ntmps31
      go_wp2_with fail
      refine (power_at E P (by omega) (by omega) HP.out _).mono ?_
      rintro e w' ⟨rfl, rfl⟩
      go_wp2
      go_ret
      exact ⟨by rw [← HR.out]; rfl, rfl⟩

theorem whole_far (q : Nat) (E : Int) (s : Bool) (hq : q ≤ 9007199254740992) (h0 : E < -60) (h1 : -1100 ≤ E) (w : World) :
    Calls Try.prog 31 #[.int .u64 q, .int .i64 E, .bool s] w fun e w' => e = .returned (.int .u64 (Hf.wholeN q E s : Nat)) ∧ w = w' := by
  have R : Hf.wholeN q E s = if 0 < q ∧ s = false then 1 else 0 := by
    unfold Hf.wholeN; rw [if_neg (by omega), if_pos h0]
  by_cases hz : q = 0
  · subst hz
    rw [if_neg (by omega)] at R
    have HR := Lib.hid R
    clear R
    go_enter Try.func31, Try.ntmps31
    go_wp2
    go_ret
    exact ⟨by rw [HR.out]; rfl, rfl⟩
  · have hz' : (0 : Int) < q := by omega
    cases s
    · rw [if_pos ⟨by omega, rfl⟩] at R
      have HR := Lib.hid R
      clear R hz
      go_enter Try.func31, Try.ntmps31
      go_wp2
      go_ret
      exact ⟨by rw [HR.out]; rfl, rfl⟩
    · rw [if_neg (by simp)] at R
      have HR := Lib.hid R
      clear R hz
      go_enter Try.func31, Try.ntmps31
      go_wp2
      go_ret
      exact ⟨by rw [HR.out]; rfl, rfl⟩

set_option maxHeartbeats 1000000 in
theorem whole_mid (q : Nat) (E : Int) (s : Bool) (hq : q ≤ 9007199254740992) (h0 : E < 0) (h1 : -60 ≤ E) (w : World) :
    Calls Try.prog 31 #[.int .u64 q, .int .i64 E, .bool s] w fun e w' => e = .returned (.int .u64 (Hf.wholeN q E s : Nat)) ∧ w = w' := by
  have R : Hf.wholeN q E s = q / 2 ^ (-E).toNat + (if q % 2 ^ (-E).toNat ≠ 0 ∧ s = false then 1 else 0) := by
    unfold Hf.wholeN; rw [if_neg (by omega), if_neg (by omega)]
  have hp := Nat.two_pow_pos (-E).toNat
  have hP : 2 ^ (-E).toNat ≤ 2 ^ 60 := Nat.pow_le_pow_right (by omega) (by omega)
  obtain ⟨P, eP⟩ : ∃ P : Nat, 2 ^ (-E).toNat = P := ⟨_, rfl⟩
  have HP : Hid (((2 ^ (-E).toNat : Nat) : Int) = (P : Int)) := Lib.hid (by rw [eP])
  rw [eP] at R hP hp
  have d0 : (q : Int) / (P : Int) = ((q / P : Nat) : Int) := rfl
  have e0 : (q : Int) % (P : Int) = ((q % P : Nat) : Int) := rfl
  have dl : q / P ≤ q := Nat.div_le_self _ _
  have el : q % P < P := Nat.mod_lt _ hp
  have d1 : (0 : Int) ≤ (q : Int) / (P : Int) := by rw [d0]; exact Int.natCast_nonneg _
  have d2 : (q : Int) / (P : Int) ≤ 9007199254740992 := by rw [d0]; exact Int.ofNat_le.2 (Nat.le_trans dl hq)
  have e1 : (0 : Int) ≤ (q : Int) % (P : Int) := by rw [e0]; exact Int.natCast_nonneg _
  have e2 : (q : Int) % (P : Int) ≤ 1152921504606846976 := by rw [e0]; exact Int.ofNat_le.2 (Nat.le_trans (Nat.le_of_lt el) hP)
  have p1 : (1 : Int) ≤ P := by omega
  by_cases hz : q % P = 0
  · have HR : Hid ((q : Int) / (P : Int) = ((Hf.wholeN q E s : Nat) : Int)) := Lib.hid (by rw [R, if_neg (by simp [hz]), d0, Nat.add_zero])
    have hz' : ((q : Int) % (P : Int) == 0) = true := by rw [e0, hz]; rfl
    have hz2 : ((q : Int) % (P : Int) != 0) = false := by rw [bne, hz']; rfl
    have hz3 : ¬ (0 : Int) < (q : Int) % (P : Int) := by rw [e0, hz]; decide
    clear R hz dl el eP hp hP d0 e0
    go_enter Try.func31, Try.ntmps31
    go_wp2_with fail
    refine (power_at (-E) P (by omega) (by omega) HP.out _).mono ?_
    rintro e w' ⟨rfl, rfl⟩
    go_wp2_with fail
    refine (power_at (-E) P (by omega) (by omega) HP.out _).mono ?_
    rintro e w' ⟨rfl, rfl⟩
    go_wp2
    go_ret
    exact ⟨by rw [← HR.out]; rfl, rfl⟩
  · have hz' : ((q : Int) % (P : Int) == 0) = false := by rw [e0]; simpa using fun h => hz (Int.ofNat_inj.1 h)
    have hz2 : ((q : Int) % (P : Int) != 0) = true := by rw [bne, hz']; rfl
    have hz3 : (0 : Int) < (q : Int) % (P : Int) := by rw [e0]; exact Int.ofNat_lt.2 (Nat.pos_of_ne_zero hz)
    cases s
    · have HR : Hid ((q : Int) / (P : Int) + 1 = ((Hf.wholeN q E false : Nat) : Int)) := Lib.hid (by rw [R, if_pos ⟨hz, rfl⟩, d0]; push_cast; rfl)
      clear R hz dl el eP hp hP d0 e0
      go_enter Try.func31, Try.ntmps31
      go_wp2_with fail
      refine (power_at (-E) P (by omega) (by omega) HP.out _).mono ?_
      rintro e w' ⟨rfl, rfl⟩
      go_wp2_with fail
      refine (power_at (-E) P (by omega) (by omega) HP.out _).mono ?_
      rintro e w' ⟨rfl, rfl⟩
      go_wp2
      go_ret
      exact ⟨by rw [← HR.out]; rfl, rfl⟩
    · have HR : Hid ((q : Int) / (P : Int) = ((Hf.wholeN q E true : Nat) : Int)) := Lib.hid (by rw [R, if_neg (by simp), d0, Nat.add_zero])
      clear R hz dl el eP hp hP d0 e0
      go_enter Try.func31, Try.ntmps31
      go_wp2_with fail
      refine (power_at (-E) P (by omega) (by omega) HP.out _).mono ?_
      rintro e w' ⟨rfl, rfl⟩
      go_wp2_with fail
      refine (power_at (-E) P (by omega) (by omega) HP.out _).mono ?_
      rintro e w' ⟨rfl, rfl⟩
      go_wp2
      go_ret
      exact ⟨by rw [← HR.out]; rfl, rfl⟩

theorem whole_any (q : Nat) (E : Int) (s : Bool) (hq : q ≤ 9007199254740992) (h0 : -1100 ≤ E) (h1 : E ≤ 100) (w : World) :
    Calls Try.prog 31 #[.int .u64 q, .int .i64 E, .bool s] w fun e w' => e = .returned (.int .u64 (Hf.wholeN q E s : Nat)) ∧ w = w' := by
  by_cases a : 0 ≤ E
  · exact whole_pos q E s hq a h1 w
  · by_cases b : E < -60
    · exact whole_far q E s hq b h0 w
    · exact whole_mid q E s hq (by omega) (by omega) w

theorem near_any (p : Nat) (h : p < 144115188075855872) (w : World) :
    Calls Try.prog 30 #[.int .u64 p] w fun e w' => e = .returned (.tuple #[.int .u64 (Hf.rne p (Hf.gone p) : Nat), .int .i64 (Hf.gone p : Nat)]) ∧ w = w' := by
  by_cases a : p < 9007199254740992
  · have e : Hf.gone p = 0 := by
      unfold Hf.gone
      by_cases h0 : p = 0
      · subst h0; decide
      · have := (Nat.log2_lt h0).2 (show p < 2 ^ 53 from a)
        omega
    rw [e, Hf.rne_zero]
    exact near_small p a w
  · by_cases b : p < 18014398509481984
    · rw [(wd_at p 1 (by omega) (by omega)).2]; exact near_1 p (by omega) b w
    · by_cases c : p < 36028797018963968
      · rw [(wd_at p 2 (by omega) (by omega)).2]; exact near_2 p (by omega) c w
      · by_cases d : p < 72057594037927936
        · rw [(wd_at p 3 (by omega) (by omega)).2]; exact near_3 p (by omega) d w
        · rw [(wd_at p 4 (by omega) (by omega)).2]; exact near_4 p (by omega) h w
end Dg
end Go.Proofs.Ytbnnijcjlafcpaa
