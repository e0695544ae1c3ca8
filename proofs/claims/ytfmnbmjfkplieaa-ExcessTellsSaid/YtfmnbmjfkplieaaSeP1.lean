/- Walks over package series: what may be, what is ahead, the two closures. No condition but those written. -/
import Derived.Test.YtfmnbmjfkplieaaSe1
import Derived.Test.YtfmnbmjfkplieaaSlRd
import Derived.StillTailTactics
namespace Go.Proofs.Ytfmnbmjfkplieaa
open Go.RowKit

namespace Se
def belB (n e : Int) : Bool := decide (0 ≤ n ∧ n < e)
theorem bel_any (n e : Int) (w : World) : Calls Try.prog 37 #[.int .i64 n, .int .i64 e] w fun e' w' => e' = .returned (.bool (belB n e)) ∧ w = w' := by
  have E : belB n e = (decide (0 ≤ n) && decide (n < e)) := by
    rw [Bool.eq_iff_iff]
    simp [belB]
  rw [E]
  clear E
  by_cases h1 : 0 ≤ n
  · rw [decide_eq_true h1]
    go_enter Try.func37, Try.ntmps37
    go_wp2
    all_goals
      go_ret
      exact ⟨rfl, rfl⟩
  · rw [decide_eq_false h1]
    have h1' : n < 0 := by omega
    go_enter Try.func37, Try.ntmps37
    go_wp2
    all_goals
      go_ret
      exact ⟨rfl, rfl⟩
theorem ten_any (t : Int) (w : World) : Calls Try.prog 36 #[.int .i64 t] w fun e w' => e = .returned (.bool (tenB t)) ∧ w = w' := by
  have E : tenB t = (decide (-1099511627776 ≤ t) && decide (t ≤ 1099511627776)) := by
    rw [Bool.eq_iff_iff]
    simp [tenB]
  rw [E]
  clear E
  by_cases h1 : -1099511627776 ≤ t
  · rw [decide_eq_true h1]
    go_enter Try.func36, Try.ntmps36
    go_wp2
    all_goals
      go_ret
      exact ⟨rfl, rfl⟩
  · rw [decide_eq_false h1]
    have h1' : t < -1099511627776 := by omega
    go_enter Try.func36, Try.ntmps36
    go_wp2
    all_goals
      go_ret
      exact ⟨rfl, rfl⟩
set_option maxRecDepth 100000 in
set_option maxHeartbeats 1000000 in
theorem maybe_any (r : Rd) (w : World) : Calls Try.prog 38 #[rval r] w fun e w' => e = .returned (.bool (rightB r)) ∧ Below w.heap.size w w' := by
  have T := Lib.hid (fun W => ten_any r.ten W)
  have M := Lib.hid (fun W => bel_any r.min 1048576 W)
  have S := Lib.hid (fun W => bel_any r.seq 65536 W)
  have E : rightB r = (belB r.min 1048576 && belB r.seq 65536 && tenB r.ten) := by
    rw [Bool.eq_iff_iff]
    simp [rightB, tenB, belB]
    omega
  rw [E]
  clear E
  generalize tenB r.ten = t at *
  generalize belB r.min 1048576 = t1 at *
  generalize belB r.seq 65536 = t2 at *
  obtain ⟨m, s, u⟩ := r
  unfold rval
  simp only at T M S ⊢
  cases t1
  all_goals cases t2
  all_goals
    go_enter Try.func38, Try.ntmps38
    go_wp2_with (first
      | (go_at_call 36; ((with_reducible refine (T.out _).mono ?_); rintro e w1 ⟨rfl, rfl⟩))
      | (go_at_call 37; ((with_reducible refine (M.out _).mono ?_); rintro e w1 ⟨rfl, rfl⟩))
      | (go_at_call 37; ((with_reducible refine (S.out _).mono ?_); rintro e w1 ⟨rfl, rfl⟩)))
    go_ret
    exact ⟨rfl, alloc_below w _⟩
/-- Which of two numbers is greater. -/
def cmpI (x y : Int) : Int := if x < y then -1 else if y < x then 1 else 0
theorem nan_any (x : Int) (w : World) : Calls Try.prog 54 #[.int .i64 x] w fun e w' => e = .returned (.bool false) ∧ w = w' := by
  have h : (x != x) = false := by simp
  go_enter Try.func54, Try.ntmps54
  go_wp2
  go_ret
  exact ⟨rfl, rfl⟩
theorem cmp_any (x y : Int) (w : World) : Calls Try.prog 42 #[.int .i64 x, .int .i64 y] w fun e w' => e = .returned (.int .i64 (cmpI x y)) ∧ w = w' := by
  unfold cmpI
  have N := Lib.hid (fun z W => nan_any z W)
  rcases Int.lt_trichotomy x y with h | h | h
  · rw [if_pos h]
    go_enter Try.func42, Try.ntmps42
    go_wp2_with (go_at_call 54; ((with_reducible refine (N.out _ _).mono ?_); rintro e w1 ⟨rfl, rfl⟩))
    go_ret
    exact ⟨rfl, rfl⟩
  · subst h
    rw [if_neg (by omega), if_neg (by omega)]
    have h : ¬ x < x := by omega
    go_enter Try.func42, Try.ntmps42
    go_wp2_with (go_at_call 54; ((with_reducible refine (N.out _ _).mono ?_); rintro e w1 ⟨rfl, rfl⟩))
    go_ret
    exact ⟨rfl, rfl⟩
  · rw [if_neg (by omega), if_pos h]
    have h' : ¬ x < y := by omega
    go_enter Try.func42, Try.ntmps42
    go_wp2_with (go_at_call 54; ((with_reducible refine (N.out _ _).mono ?_); rintro e w1 ⟨rfl, rfl⟩))
    go_ret
    exact ⟨rfl, rfl⟩
def orI (x y : Int) : Int := if x = 0 then y else x
/-- cmp.Or of two. -/
theorem or_any (x y : Int) (b : Nat) (w : World) (hx : w.cell? ⟨b, 0, none⟩ = some (.int .i64 x)) (hy : w.cell? ⟨b, 1, none⟩ = some (.int .i64 y)) :
    Calls Try.prog 41 #[.slice (some ⟨b, 0, none⟩) 2 2] w fun e w' => e = .returned (.int .i64 (orI x y)) ∧ w = w' := by
  go_enter Try.func41, Try.ntmps41
  go_wp2
  go_loop [8] (fun i => ∃ k : Nat, k ≤ 2 ∧ i = .int .i64 k ∧ Hid (0 < k → x = 0) ∧ Hid (1 < k → y = 0)) (fun i => 2 - (intOf i).toNat)
  case atStart => exact ⟨0, by omega, rfl, Lib.hid (by omega), Lib.hid (by omega)⟩
  case round =>
    obtain ⟨k, hk, rfl, K1, K2⟩ := hrel
    match k, hk with
    | 0, _ =>
      by_cases h : x = 0
      · have t0 : (x != 0) = false := by simp [h]
        have H := Lib.hid h
        clear h
        go_wp2
        go_round
        case rel => exact ⟨1, by omega, by go_num, Lib.hid (fun _ => H.out), Lib.hid (by omega)⟩
        case measure => simp [intOf]
      · have t0 : (x != 0) = true := by simp [h]
        have E := Lib.hid (show orI x y = x from if_neg h)
        clear h
        go_wp2
        go_ret
        exact ⟨by rw [E.out]; rfl, rfl⟩
    | 1, _ =>
      have hx0 := K1.out (by omega)
      by_cases h : y = 0
      · have t0 : (y != 0) = false := by simp [h]
        have H := Lib.hid h
        have H2 := Lib.hid hx0
        clear h hx0
        go_wp2
        go_round
        case rel => exact ⟨2, by omega, by go_num, Lib.hid (fun _ => H2.out), Lib.hid (fun _ => H.out)⟩
        case measure => simp [intOf]
      · have t0 : (y != 0) = true := by simp [h]
        have E := Lib.hid (show orI x y = y from if_pos hx0)
        clear h hx0
        go_wp2
        go_ret
        exact ⟨by rw [E.out]; rfl, rfl⟩
    | 2, _ =>
      have E := Lib.hid (show orI x y = 0 by unfold orI; rw [if_pos (K1.out (by omega)), K2.out (by omega)])
      go_wp2
      go_ret
      exact ⟨by rw [E.out]; rfl, rfl⟩
end Se
end Go.Proofs.Ytfmnbmjfkplieaa
