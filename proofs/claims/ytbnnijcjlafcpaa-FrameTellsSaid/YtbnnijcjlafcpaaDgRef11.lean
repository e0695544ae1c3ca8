/- Walks over the document's answer on the tenths of a float64, whole, and over the law on them (DegreeTells). Condition of the law's: the listed variables are as the program lays them. -/
import Derived.Test.YtbnnijcjlafcpaaDgRef10
import Derived.Test.YtbnnijcjlafcpaaDg1
namespace Go.Proofs.Ytbnnijcjlafcpaa
namespace Dg
open Go.RowKit

theorem near_at (x : Int) (p q g : Nat) (hx : x = p) (h : p < 144115188075855872) (hq : Hf.rne p (Hf.gone p) = q) (hg : Hf.gone p = g) (w : World) :
    Calls Try.prog 30 #[.int .u64 x] w fun e w' => e = .returned (.tuple #[.int .u64 q, .int .i64 g]) ∧ w = w' := by
  subst hx
  rw [← hq, ← hg]
  exact near_any p h w
theorem whole_at (q : Nat) (E : Int) (s : Bool) (N : Nat) (hN : Hf.wholeN q E s = N) (hq : q ≤ 9007199254740992) (h0 : -1100 ≤ E) (h1 : E ≤ 100) (w : World) :
    Calls Try.prog 31 #[.int .u64 q, .int .i64 E, .bool s] w fun e w' => e = .returned (.int .u64 N) ∧ w = w' := by
  subst hN
  exact whole_any q E s hq h0 h1 w

set_option maxRecDepth 100000 in
set_option maxHeartbeats 1000000 in
theorem rof_z_false (b m q g N : Nat) (hb : (b : Int) ≤ 18446744073709551615) (ht : ¬ (9223372036854775808 : Int) ≤ b) (he : (b : Int) / 4503599627370496 % 2048 = 0) (hm : (b : Int) % 4503599627370496 = (m : Int)) (_hm2 : m < 4503599627370496)
    (hq : Hf.rne (10 * m) (Hf.gone (10 * m)) = q) (hg : Hf.gone (10 * m) = g) (hq3 : q ≤ 9007199254740992) (hg4 : g ≤ 4) (hN : Hf.wholeN q (-1074 + g) false = N) (w : World) :
    Calls Try.prog 15 #[.int .u64 b] w fun e w' => e = .returned (.tuple #[.int .i64 (((min N 1099511627776 : Nat) : Int)), .int .i64 0]) ∧ w = w' := by
  have HQ := Lib.hid hq
  have HG := Lib.hid hg
  have HN : Hid (∀ E : Int, E = -1074 + g → Hf.wholeN q E false = N) := Lib.hid (fun E hE => hE ▸ hN)
  clear hq hg hN
  have b1 : (0 : Int) ≤ (b : Int) / 4503599627370496 := by omega
  have b2 : (b : Int) / 4503599627370496 ≤ 4095 := by omega
  by_cases hb2 : (1099511627776 : Int) < N
  · have HR : Hid ((1099511627776 : Int) = ((min N 1099511627776 : Nat) : Int)) := Lib.hid (by omega)
    go_enter Try.func15, Try.ntmps15
    go_wp2_with fail
    refine (near_at _ _ q g (by omega) (by omega) HQ.out HG.out _).mono ?_
    rintro e w' ⟨rfl, rfl⟩
    go_wp2_with fail
    refine (whole_at _ _ false N (HN.out _ (by omega)) hq3 (by omega) (by omega) _).mono ?_
    rintro e w' ⟨rfl, rfl⟩
    have hb3 : (1099511627776 : Int) < N := hb2
    clear HN HQ HG hb he hm _hm2 hq3 hb2 b1 b2 ht
    go_wp2
    go_ret2
    exact ⟨by rw [← HR.out]; rfl, rfl⟩
  · have HR : Hid ((N : Int) = ((min N 1099511627776 : Nat) : Int)) := Lib.hid (by omega)
    go_enter Try.func15, Try.ntmps15
    go_wp2_with fail
    refine (near_at _ _ q g (by omega) (by omega) HQ.out HG.out _).mono ?_
    rintro e w' ⟨rfl, rfl⟩
    go_wp2_with fail
    refine (whole_at _ _ false N (HN.out _ (by omega)) hq3 (by omega) (by omega) _).mono ?_
    rintro e w' ⟨rfl, rfl⟩
    have hb3 : (N : Int) ≤ 1099511627776 := by omega
    clear HN HQ HG hb he hm _hm2 hq3 hb2 b1 b2 ht
    go_wp2
    go_ret2
    exact ⟨by rw [← HR.out]; rfl, rfl⟩

set_option maxRecDepth 100000 in
set_option maxHeartbeats 1000000 in
theorem rof_s_false (b e m q g N : Nat) (hb : (b : Int) ≤ 18446744073709551615) (ht : ¬ (9223372036854775808 : Int) ≤ b) (he : (b : Int) / 4503599627370496 % 2048 = (e : Int)) (he1 : 1 ≤ e) (he2 : e < 1130) (hm : (b : Int) % 4503599627370496 = (m : Int)) (_hm2 : m < 4503599627370496)
    (hq : Hf.rne (10 * (m + 4503599627370496)) (Hf.gone (10 * (m + 4503599627370496))) = q) (hg : Hf.gone (10 * (m + 4503599627370496)) = g) (hq3 : q ≤ 9007199254740992) (hg4 : g ≤ 4) (hN : Hf.wholeN q ((e : Int) - 1075 + g) false = N) (w : World) :
    Calls Try.prog 15 #[.int .u64 b] w fun e w' => e = .returned (.tuple #[.int .i64 (((min N 1099511627776 : Nat) : Int)), .int .i64 0]) ∧ w = w' := by
  have HQ := Lib.hid hq
  have HG := Lib.hid hg
  have HN : Hid (∀ E : Int, E = (e : Int) - 1075 + g → Hf.wholeN q E false = N) := Lib.hid (fun E hE => hE ▸ hN)
  clear hq hg hN
  have b1 : (0 : Int) ≤ (b : Int) / 4503599627370496 := by omega
  have b2 : (b : Int) / 4503599627370496 ≤ 4095 := by omega
  have n0 : ((e : Int) == 0) = false := by simp; omega
  have n1 : ((e : Int) == 2047) = false := by simp; omega
  clear he1
  by_cases hb2 : (1099511627776 : Int) < N
  · have HR : Hid ((1099511627776 : Int) = ((min N 1099511627776 : Nat) : Int)) := Lib.hid (by omega)
    go_enter Try.func15, Try.ntmps15
    go_wp2_with fail
    refine (near_at _ _ q g (by omega) (by omega) HQ.out HG.out _).mono ?_
    rintro e w' ⟨rfl, rfl⟩
    go_wp2_with fail
    refine (whole_at _ _ false N (HN.out _ (by omega)) hq3 (by omega) (by omega) _).mono ?_
    rintro e w' ⟨rfl, rfl⟩
    have hb3 : (1099511627776 : Int) < N := hb2
    clear HN HQ HG hb he hm _hm2 hq3 hb2 b1 b2 ht
    go_wp2
    go_ret2
    exact ⟨by rw [← HR.out]; rfl, rfl⟩
  · have HR : Hid ((N : Int) = ((min N 1099511627776 : Nat) : Int)) := Lib.hid (by omega)
    go_enter Try.func15, Try.ntmps15
    go_wp2_with fail
    refine (near_at _ _ q g (by omega) (by omega) HQ.out HG.out _).mono ?_
    rintro e w' ⟨rfl, rfl⟩
    go_wp2_with fail
    refine (whole_at _ _ false N (HN.out _ (by omega)) hq3 (by omega) (by omega) _).mono ?_
    rintro e w' ⟨rfl, rfl⟩
    have hb3 : (N : Int) ≤ 1099511627776 := by omega
    clear HN HQ HG hb he hm _hm2 hq3 hb2 b1 b2 ht
    go_wp2
    go_ret2
    exact ⟨by rw [← HR.out]; rfl, rfl⟩

set_option maxRecDepth 100000 in
set_option maxHeartbeats 1000000 in
theorem rof_b_false (b e : Nat) (hb : (b : Int) ≤ 18446744073709551615) (ht : ¬ (9223372036854775808 : Int) ≤ b) (he : (b : Int) / 4503599627370496 % 2048 = (e : Int)) (he1 : 1130 ≤ e) (he2 : e < 2047)  (w : World) :
    Calls Try.prog 15 #[.int .u64 b] w fun e w' => e = .returned (.tuple #[.int .i64 (1099511627776), .int .i64 0]) ∧ w = w' := by
  have b1 : (0 : Int) ≤ (b : Int) / 4503599627370496 := by omega
  have b2 : (b : Int) / 4503599627370496 ≤ 4095 := by omega
  have b3 : (0 : Int) ≤ (b : Int) % 4503599627370496 := by omega
  have b4 : (b : Int) % 4503599627370496 < 4503599627370496 := by omega
  have n0 : ((e : Int) == 0) = false := by simp; omega
  have n1 : ((e : Int) == 2047) = false := by simp; omega
  have n2 : ¬ (e : Int) < 1130 := by omega
  go_enter Try.func15, Try.ntmps15
  go_wp2
  go_ret2
  exact ⟨rfl, rfl⟩

set_option maxRecDepth 100000 in
set_option maxHeartbeats 1000000 in
theorem rof_i_false (b : Nat) (hb : (b : Int) ≤ 18446744073709551615) (ht : ¬ (9223372036854775808 : Int) ≤ b) (he : (b : Int) / 4503599627370496 % 2048 = 2047) (hm : (b : Int) % 4503599627370496 = 0) (w : World) :
    Calls Try.prog 15 #[.int .u64 b] w fun e w' => e = .returned (.tuple #[.int .i64 (1099511627776), .int .i64 0]) ∧ w = w' := by
  have b1 : (0 : Int) ≤ (b : Int) / 4503599627370496 := by omega
  have b2 : (b : Int) / 4503599627370496 ≤ 4095 := by omega
  have b3 : (0 : Int) ≤ (b : Int) % 4503599627370496 := by omega
  have b4 : (b : Int) % 4503599627370496 < 4503599627370496 := by omega
  go_enter Try.func15, Try.ntmps15
  go_wp2
  go_ret2
  exact ⟨rfl, rfl⟩

set_option maxRecDepth 100000 in
set_option maxHeartbeats 1000000 in
theorem rof_n_false (b m : Nat) (hb : (b : Int) ≤ 18446744073709551615) (ht : ¬ (9223372036854775808 : Int) ≤ b) (he : (b : Int) / 4503599627370496 % 2048 = 2047) (hm : (b : Int) % 4503599627370496 = (m : Int)) (hm1 : 0 < m) (w : World) :
    Calls Try.prog 15 #[.int .u64 b] w fun e w' => e = .returned (.tuple #[.int .i64 0, .int .i64 2]) ∧ w = w' := by
  have b1 : (0 : Int) ≤ (b : Int) / 4503599627370496 := by omega
  have b2 : (b : Int) / 4503599627370496 ≤ 4095 := by omega
  have b3 : (0 : Int) ≤ (b : Int) % 4503599627370496 := by omega
  have b4 : (b : Int) % 4503599627370496 < 4503599627370496 := by omega
  have n0 : ((m : Int) == 0) = false := by simp; omega
  have n1 : ((m : Int) != 0) = true := by rw [bne, n0]; rfl
  go_enter Try.func15, Try.ntmps15
  go_wp2
  go_ret2
  exact ⟨rfl, rfl⟩

set_option maxRecDepth 100000 in
set_option maxHeartbeats 1000000 in
theorem rof_z_true (b m q g N : Nat) (hb : (b : Int) ≤ 18446744073709551615) (ht : (9223372036854775808 : Int) ≤ b) (he : (b : Int) / 4503599627370496 % 2048 = 0) (hm : (b : Int) % 4503599627370496 = (m : Int)) (_hm2 : m < 4503599627370496)
    (hq : Hf.rne (10 * m) (Hf.gone (10 * m)) = q) (hg : Hf.gone (10 * m) = g) (hq3 : q ≤ 9007199254740992) (hg4 : g ≤ 4) (hN : Hf.wholeN q (-1074 + g) true = N) (w : World) :
    Calls Try.prog 15 #[.int .u64 b] w fun e w' => e = .returned (.tuple #[.int .i64 (-((min N 1099511627776 : Nat) : Int)), .int .i64 0]) ∧ w = w' := by
  have HQ := Lib.hid hq
  have HG := Lib.hid hg
  have HN : Hid (∀ E : Int, E = -1074 + g → Hf.wholeN q E true = N) := Lib.hid (fun E hE => hE ▸ hN)
  clear hq hg hN
  have b1 : (0 : Int) ≤ (b : Int) / 4503599627370496 := by omega
  have b2 : (b : Int) / 4503599627370496 ≤ 4095 := by omega
  by_cases hb2 : (1099511627776 : Int) < N
  · have HR : Hid (-(1099511627776 : Int) = -((min N 1099511627776 : Nat) : Int)) := Lib.hid (by omega)
    go_enter Try.func15, Try.ntmps15
    go_wp2_with fail
    refine (near_at _ _ q g (by omega) (by omega) HQ.out HG.out _).mono ?_
    rintro e w' ⟨rfl, rfl⟩
    go_wp2_with fail
    refine (whole_at _ _ true N (HN.out _ (by omega)) hq3 (by omega) (by omega) _).mono ?_
    rintro e w' ⟨rfl, rfl⟩
    have hb3 : (1099511627776 : Int) < N := hb2
    clear HN HQ HG hb he hm _hm2 hq3 hb2 b1 b2 ht
    go_wp2
    go_ret2
    exact ⟨by rw [← HR.out]; rfl, rfl⟩
  · have HR : Hid (-(N : Int) = -((min N 1099511627776 : Nat) : Int)) := Lib.hid (by omega)
    go_enter Try.func15, Try.ntmps15
    go_wp2_with fail
    refine (near_at _ _ q g (by omega) (by omega) HQ.out HG.out _).mono ?_
    rintro e w' ⟨rfl, rfl⟩
    go_wp2_with fail
    refine (whole_at _ _ true N (HN.out _ (by omega)) hq3 (by omega) (by omega) _).mono ?_
    rintro e w' ⟨rfl, rfl⟩
    have hb3 : (N : Int) ≤ 1099511627776 := by omega
    clear HN HQ HG hb he hm _hm2 hq3 hb2 b1 b2 ht
    go_wp2
    go_ret2
    exact ⟨by rw [← HR.out]; rfl, rfl⟩

set_option maxRecDepth 100000 in
set_option maxHeartbeats 1000000 in
theorem rof_s_true (b e m q g N : Nat) (hb : (b : Int) ≤ 18446744073709551615) (ht : (9223372036854775808 : Int) ≤ b) (he : (b : Int) / 4503599627370496 % 2048 = (e : Int)) (he1 : 1 ≤ e) (he2 : e < 1130) (hm : (b : Int) % 4503599627370496 = (m : Int)) (_hm2 : m < 4503599627370496)
    (hq : Hf.rne (10 * (m + 4503599627370496)) (Hf.gone (10 * (m + 4503599627370496))) = q) (hg : Hf.gone (10 * (m + 4503599627370496)) = g) (hq3 : q ≤ 9007199254740992) (hg4 : g ≤ 4) (hN : Hf.wholeN q ((e : Int) - 1075 + g) true = N) (w : World) :
    Calls Try.prog 15 #[.int .u64 b] w fun e w' => e = .returned (.tuple #[.int .i64 (-((min N 1099511627776 : Nat) : Int)), .int .i64 0]) ∧ w = w' := by
  have HQ := Lib.hid hq
  have HG := Lib.hid hg
  have HN : Hid (∀ E : Int, E = (e : Int) - 1075 + g → Hf.wholeN q E true = N) := Lib.hid (fun E hE => hE ▸ hN)
  clear hq hg hN
  have b1 : (0 : Int) ≤ (b : Int) / 4503599627370496 := by omega
  have b2 : (b : Int) / 4503599627370496 ≤ 4095 := by omega
  have n0 : ((e : Int) == 0) = false := by simp; omega
  have n1 : ((e : Int) == 2047) = false := by simp; omega
  clear he1
  by_cases hb2 : (1099511627776 : Int) < N
  · have HR : Hid (-(1099511627776 : Int) = -((min N 1099511627776 : Nat) : Int)) := Lib.hid (by omega)
    go_enter Try.func15, Try.ntmps15
    go_wp2_with fail
    refine (near_at _ _ q g (by omega) (by omega) HQ.out HG.out _).mono ?_
    rintro e w' ⟨rfl, rfl⟩
    go_wp2_with fail
    refine (whole_at _ _ true N (HN.out _ (by omega)) hq3 (by omega) (by omega) _).mono ?_
    rintro e w' ⟨rfl, rfl⟩
    have hb3 : (1099511627776 : Int) < N := hb2
    clear HN HQ HG hb he hm _hm2 hq3 hb2 b1 b2 ht
    go_wp2
    go_ret2
    exact ⟨by rw [← HR.out]; rfl, rfl⟩
  · have HR : Hid (-(N : Int) = -((min N 1099511627776 : Nat) : Int)) := Lib.hid (by omega)
    go_enter Try.func15, Try.ntmps15
    go_wp2_with fail
    refine (near_at _ _ q g (by omega) (by omega) HQ.out HG.out _).mono ?_
    rintro e w' ⟨rfl, rfl⟩
    go_wp2_with fail
    refine (whole_at _ _ true N (HN.out _ (by omega)) hq3 (by omega) (by omega) _).mono ?_
    rintro e w' ⟨rfl, rfl⟩
    have hb3 : (N : Int) ≤ 1099511627776 := by omega
    clear HN HQ HG hb he hm _hm2 hq3 hb2 b1 b2 ht
    go_wp2
    go_ret2
    exact ⟨by rw [← HR.out]; rfl, rfl⟩

set_option maxRecDepth 100000 in
set_option maxHeartbeats 1000000 in
theorem rof_b_true (b e : Nat) (hb : (b : Int) ≤ 18446744073709551615) (ht : (9223372036854775808 : Int) ≤ b) (he : (b : Int) / 4503599627370496 % 2048 = (e : Int)) (he1 : 1130 ≤ e) (he2 : e < 2047)  (w : World) :
    Calls Try.prog 15 #[.int .u64 b] w fun e w' => e = .returned (.tuple #[.int .i64 (-1099511627776), .int .i64 0]) ∧ w = w' := by
  have b1 : (0 : Int) ≤ (b : Int) / 4503599627370496 := by omega
  have b2 : (b : Int) / 4503599627370496 ≤ 4095 := by omega
  have b3 : (0 : Int) ≤ (b : Int) % 4503599627370496 := by omega
  have b4 : (b : Int) % 4503599627370496 < 4503599627370496 := by omega
  have n0 : ((e : Int) == 0) = false := by simp; omega
  have n1 : ((e : Int) == 2047) = false := by simp; omega
  have n2 : ¬ (e : Int) < 1130 := by omega
  go_enter Try.func15, Try.ntmps15
  go_wp2
  go_ret2
  exact ⟨rfl, rfl⟩

set_option maxRecDepth 100000 in
set_option maxHeartbeats 1000000 in
theorem rof_i_true (b : Nat) (hb : (b : Int) ≤ 18446744073709551615) (ht : (9223372036854775808 : Int) ≤ b) (he : (b : Int) / 4503599627370496 % 2048 = 2047) (hm : (b : Int) % 4503599627370496 = 0) (w : World) :
    Calls Try.prog 15 #[.int .u64 b] w fun e w' => e = .returned (.tuple #[.int .i64 (-1099511627776), .int .i64 0]) ∧ w = w' := by
  have b1 : (0 : Int) ≤ (b : Int) / 4503599627370496 := by omega
  have b2 : (b : Int) / 4503599627370496 ≤ 4095 := by omega
  have b3 : (0 : Int) ≤ (b : Int) % 4503599627370496 := by omega
  have b4 : (b : Int) % 4503599627370496 < 4503599627370496 := by omega
  go_enter Try.func15, Try.ntmps15
  go_wp2
  go_ret2
  exact ⟨rfl, rfl⟩

set_option maxRecDepth 100000 in
set_option maxHeartbeats 1000000 in
theorem rof_n_true (b m : Nat) (hb : (b : Int) ≤ 18446744073709551615) (ht : (9223372036854775808 : Int) ≤ b) (he : (b : Int) / 4503599627370496 % 2048 = 2047) (hm : (b : Int) % 4503599627370496 = (m : Int)) (hm1 : 0 < m) (w : World) :
    Calls Try.prog 15 #[.int .u64 b] w fun e w' => e = .returned (.tuple #[.int .i64 0, .int .i64 2]) ∧ w = w' := by
  have b1 : (0 : Int) ≤ (b : Int) / 4503599627370496 := by omega
  have b2 : (b : Int) / 4503599627370496 ≤ 4095 := by omega
  have b3 : (0 : Int) ≤ (b : Int) % 4503599627370496 := by omega
  have b4 : (b : Int) % 4503599627370496 < 4503599627370496 := by omega
  have n0 : ((m : Int) == 0) = false := by simp; omega
  have n1 : ((m : Int) != 0) = true := by rw [bne, n0]; rfl
  go_enter Try.func15, Try.ntmps15
  go_wp2
  go_ret2
  exact ⟨rfl, rfl⟩


theorem refT_z (s : Bool) (m : Nat) : Hf.refT s 0 m = if s then -((min (Hf.wholeN (Hf.rne (10 * m) (Hf.gone (10 * m))) (-1074 + (Hf.gone (10 * m) : Nat)) s) 1099511627776 : Nat) : Int) else ((min (Hf.wholeN (Hf.rne (10 * m) (Hf.gone (10 * m))) (-1074 + (Hf.gone (10 * m) : Nat)) s) 1099511627776 : Nat) : Int) := by
  have e1 : ((1 : Nat) : Int) - 1075 = -1074 := by decide
  unfold Hf.refT
  simp only [if_true]
  rw [if_pos (show (1 : Nat) < 1130 by decide), e1]
theorem refT_s (s : Bool) (e m : Nat) (h0 : e ≠ 0) (h : e < 1130) : Hf.refT s e m = if s then -((min (Hf.wholeN (Hf.rne (10 * (m + 4503599627370496)) (Hf.gone (10 * (m + 4503599627370496)))) ((e : Int) - 1075 + (Hf.gone (10 * (m + 4503599627370496)) : Nat)) s) 1099511627776 : Nat) : Int) else ((min (Hf.wholeN (Hf.rne (10 * (m + 4503599627370496)) (Hf.gone (10 * (m + 4503599627370496)))) ((e : Int) - 1075 + (Hf.gone (10 * (m + 4503599627370496)) : Nat)) s) 1099511627776 : Nat) : Int) := by
  unfold Hf.refT
  simp only [if_neg h0, if_pos h]
theorem refT_b (s : Bool) (e m : Nat) (h : 1130 ≤ e) : Hf.refT s e m = if s then -1099511627776 else 1099511627776 := by
  unfold Hf.refT
  simp only [if_neg (show ¬ e = 0 by omega), if_neg (show ¬ e < 1130 by omega)]
  rfl

theorem rof_any (b : Nat) (hb : b < 18446744073709551616) (h : Hf.rg b ≤ Hf.infR) (w : World) :
    Calls Try.prog 15 #[.int .u64 b] w fun e w' => e = .returned (.tuple #[.int .i64 (Hf.tenths b), .int .i64 0]) ∧ w = w' := by
  have hR := Hf.refT_eq b h
  have hi : Hf.infR = 9218868437227405312 := by decide
  have hrg : Hf.rg b = b % 9223372036854775808 := rfl
  have hsg : Hf.sg b = decide (9223372036854775808 ≤ b) := by
    unfold Hf.sg
    by_cases c : 9223372036854775808 ≤ b
    · rw [decide_eq_true c]; have : b / 2 ^ 63 = 1 := by omega
      rw [this]; rfl
    · rw [decide_eq_false c]; have : b / 2 ^ 63 = 0 := by omega
      rw [this]; rfl
  have hb' : (b : Int) ≤ 18446744073709551615 := by omega
  have hm2 : b % 4503599627370496 < 4503599627370496 := Nat.mod_lt _ (by decide)
  have hm : (b : Int) % 4503599627370496 = ((b % 4503599627370496 : Nat) : Int) := rfl
  have he : (b : Int) / 4503599627370496 % 2048 = ((b / 4503599627370496 % 2048 : Nat) : Int) := rfl
  have hk : b / 4503599627370496 % 2048 * 4503599627370496 + b % 4503599627370496 = b % 9223372036854775808 := by omega
  have hek : b / 4503599627370496 % 2048 < 2048 := Nat.mod_lt _ (by decide)
  generalize b / 4503599627370496 % 2048 = e at *
  generalize b % 4503599627370496 = m at *
  rw [← hR]
  by_cases hs : 9223372036854775808 ≤ b
  · rw [decide_eq_true hs] at hsg
    rw [hsg]
    have ht : (9223372036854775808 : Int) ≤ b := by omega
    by_cases h0 : e = 0
    · subst h0
      rw [refT_z]
      exact rof_z_true b m _ _ _ hb' ht he hm hm2 rfl rfl (Hf.rne_le53 _) (Hf.gone_le _ (by omega)) rfl w
    · by_cases h1 : e < 1130
      · rw [refT_s _ _ _ h0 h1]
        exact rof_s_true b e m _ _ _ hb' ht he (by omega) h1 hm hm2 rfl rfl (Hf.rne_le53 _) (Hf.gone_le _ (by omega)) rfl w
      · rw [refT_b _ _ _ (by omega)]
        by_cases h2 : e = 2047
        · subst h2
          have h3 : m = 0 := by omega
          subst h3
          exact rof_i_true b hb' ht he hm w
        · exact rof_b_true b e hb' ht he (by omega) (by omega) w
  · rw [decide_eq_false hs] at hsg
    rw [hsg]
    have ht : ¬ (9223372036854775808 : Int) ≤ b := by omega
    by_cases h0 : e = 0
    · subst h0
      rw [refT_z]
      exact rof_z_false b m _ _ _ hb' ht he hm hm2 rfl rfl (Hf.rne_le53 _) (Hf.gone_le _ (by omega)) rfl w
    · by_cases h1 : e < 1130
      · rw [refT_s _ _ _ h0 h1]
        exact rof_s_false b e m _ _ _ hb' ht he (by omega) h1 hm hm2 rfl rfl (Hf.rne_le53 _) (Hf.gone_le _ (by omega)) rfl w
      · rw [refT_b _ _ _ (by omega)]
        by_cases h2 : e = 2047
        · subst h2
          have h3 : m = 0 := by omega
          subst h3
          exact rof_i_false b hb' ht he hm w
        · exact rof_b_false b e hb' ht he (by omega) (by omega) w

theorem rof_nan (b : Nat) (hb : b < 18446744073709551616) (h : Hf.infR < Hf.rg b) (w : World) :
    Calls Try.prog 15 #[.int .u64 b] w fun e w' => e = .returned (.tuple #[.int .i64 0, .int .i64 2]) ∧ w = w' := by
  have hi : Hf.infR = 9218868437227405312 := by decide
  have hrg : Hf.rg b = b % 9223372036854775808 := rfl
  have hb' : (b : Int) ≤ 18446744073709551615 := by omega
  have hm : (b : Int) % 4503599627370496 = ((b % 4503599627370496 : Nat) : Int) := rfl
  have he : (b : Int) / 4503599627370496 % 2048 = 2047 := by omega
  by_cases hs : 9223372036854775808 ≤ b
  · exact rof_n_true b _ hb' (by omega) he hm (by omega) w
  · exact rof_n_false b _ hb' (by omega) he hm (by omega) w

end Dg
end Go.Proofs.Ytbnnijcjlafcpaa
