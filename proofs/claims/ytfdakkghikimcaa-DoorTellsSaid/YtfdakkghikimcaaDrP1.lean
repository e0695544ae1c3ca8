/- Walks over package door: what may be, which place is ahead. No condition but those written. -/
import Derived.Test.YtfdakkghikimcaaDr1
import Derived.Test.YtfdakkghikimcaaSl
import Derived.StillTailTactics
import Derived.Sort.Grow
namespace Go.Proofs.Ytfdakkghikimcaa
open Go.RowKit

namespace Dr
open Se
def belB (n e : Int) : Bool := decide (0 ≤ n) && decide (n < e)
theorem bel_any (n e : Int) (w : World) : Calls Try.prog 29 #[.int .i64 n, .int .i64 e] w fun e' w' => e' = .returned (.bool (belB n e)) ∧ w = w' := by
  unfold belB
  by_cases h1 : 0 ≤ n
  · rw [decide_eq_true h1]
    go_enter Try.func29, Try.ntmps29
    go_wp2
    all_goals
      go_ret
      exact ⟨rfl, rfl⟩
  · rw [decide_eq_false h1]
    have h1' : n < 0 := by omega
    go_enter Try.func29, Try.ntmps29
    go_wp2
    all_goals
      go_ret
      exact ⟨rfl, rfl⟩
set_option maxRecDepth 100000 in
set_option maxHeartbeats 1000000 in
theorem maybe_any (r : Rd) (w : World) : Calls Try.prog 20 #[mval r] w fun e w' => e = .returned (.bool (rightM r)) ∧ Below w.heap.size w w' := by
  have M := Lib.hid (fun W => bel_any r.min 1048576 W)
  have S := Lib.hid (fun W => bel_any r.seq 65536 W)
  have E : rightM r = (belB r.min 1048576 && belB r.seq 65536) := by
    rw [Bool.eq_iff_iff]
    simp [rightM, belB]
    omega
  rw [E]
  clear E
  generalize belB r.min 1048576 = t1 at *
  generalize belB r.seq 65536 = t2 at *
  unfold mval
  generalize opB r = u
  obtain ⟨m, s, _⟩ := r
  simp only at M S ⊢
  cases t1
  all_goals cases t2
  all_goals
    go_enter Try.func20, Try.ntmps20
    go_wp2_with (first
      | (go_at_call 29; ((with_reducible refine (M.out _).mono ?_); rintro e w1 ⟨rfl, rfl⟩))
      | (go_at_call 29; ((with_reducible refine (S.out _).mono ?_); rintro e w1 ⟨rfl, rfl⟩)))
    go_ret
    exact ⟨rfl, alloc_below w _⟩
/-- Which of two numbers is greater. -/
def cmpI (x y : Int) : Int := if x < y then -1 else if y < x then 1 else 0
theorem nan_any (x : Int) (w : World) : Calls Try.prog 45 #[.int .i64 x] w fun e w' => e = .returned (.bool false) ∧ w = w' := by
  have h : (x != x) = false := by simp
  go_enter Try.func45, Try.ntmps45
  go_wp2
  go_ret
  exact ⟨rfl, rfl⟩
theorem cmp_any (x y : Int) (w : World) : Calls Try.prog 33 #[.int .i64 x, .int .i64 y] w fun e w' => e = .returned (.int .i64 (cmpI x y)) ∧ w = w' := by
  unfold cmpI
  have N := Lib.hid (fun z W => nan_any z W)
  rcases Int.lt_trichotomy x y with h | h | h
  · rw [if_pos h]
    go_enter Try.func33, Try.ntmps33
    go_wp2_with (go_at_call 45; ((with_reducible refine (N.out _ _).mono ?_); rintro e w1 ⟨rfl, rfl⟩))
    go_ret
    exact ⟨rfl, rfl⟩
  · subst h
    rw [if_neg (by omega), if_neg (by omega)]
    have h : ¬ x < x := by omega
    go_enter Try.func33, Try.ntmps33
    go_wp2_with (go_at_call 45; ((with_reducible refine (N.out _ _).mono ?_); rintro e w1 ⟨rfl, rfl⟩))
    go_ret
    exact ⟨rfl, rfl⟩
  · rw [if_neg (by omega), if_pos h]
    have h' : ¬ x < y := by omega
    go_enter Try.func33, Try.ntmps33
    go_wp2_with (go_at_call 45; ((with_reducible refine (N.out _ _).mono ?_); rintro e w1 ⟨rfl, rfl⟩))
    go_ret
    exact ⟨rfl, rfl⟩
def orI (x y : Int) : Int := if x = 0 then y else x
/-- cmp.Or of two. -/
theorem or_any (x y : Int) (b : Nat) (w : World) (hx : w.cell? ⟨b, 0, none⟩ = some (.int .i64 x)) (hy : w.cell? ⟨b, 1, none⟩ = some (.int .i64 y)) :
    Calls Try.prog 32 #[.slice (some ⟨b, 0, none⟩) 2 2] w fun e w' => e = .returned (.int .i64 (orI x y)) ∧ w = w' := by
  go_enter Try.func32, Try.ntmps32
  go_wp2
  go_loop [8] (fun i => ∃ k : Nat, k ≤ 2 ∧ i = .int .i64 k ∧ Hid (0 < k → x = 0) ∧ Hid (1 < k → y = 0)) (fun i => 2 - (intOf i).toNat)
  case atStart => exact ⟨0, by omega, rfl, Lib.hid (by omega), Lib.hid (by omega)⟩
  case round =>
    obtain ⟨k, hk, rfl, K1, K2⟩ := hrel
    match k, hk with
    | 0, _ =>
      by_cases h : x = 0
      · have t0 : (x != 0) = false := by simp [h]
        have H := Lib.hid h
        clear h
        go_wp2
        go_round
        case rel => exact ⟨1, by omega, by go_num, Lib.hid (fun _ => H.out), Lib.hid (by omega)⟩
        case measure => simp [intOf]
      · have t0 : (x != 0) = true := by simp [h]
        have E := Lib.hid (show orI x y = x from if_neg h)
        clear h
        go_wp2
        go_ret
        exact ⟨by rw [E.out]; rfl, rfl⟩
    | 1, _ =>
      have hx0 := K1.out (by omega)
      by_cases h : y = 0
      · have t0 : (y != 0) = false := by simp [h]
        have H := Lib.hid h
        have H2 := Lib.hid hx0
        clear h hx0
        go_wp2
        go_round
        case rel => exact ⟨2, by omega, by go_num, Lib.hid (fun _ => H2.out), Lib.hid (fun _ => H.out)⟩
        case measure => simp [intOf]
      · have t0 : (y != 0) = true := by simp [h]
        have E := Lib.hid (show orI x y = y from if_pos hx0)
        clear h hx0
        go_wp2
        go_ret
        exact ⟨by rw [E.out]; rfl, rfl⟩
    | 2, _ =>
      have E := Lib.hid (show orI x y = 0 by unfold orI; rw [if_pos (K1.out (by omega)), K2.out (by omega)])
      go_wp2
      go_ret
      exact ⟨by rw [E.out]; rfl, rfl⟩
/-- Which of two places is ahead. -/
def cmpP (a b c d : Int) : Int := orI (cmpI a c) (cmpI b d)
theorem cmpP_neg (a b c d : Int) : decide (cmpP a b c d < 0) = decide (a < c ∨ a = c ∧ b < d) := by
  unfold cmpP orI cmpI
  by_cases h1 : a < c
  · simp [h1]
  · by_cases h2 : c < a
    · have h3 : ¬ a = c := by omega
      simp [h1, h2, h3]
    · have h3 : a = c := by omega
      simp only [h3, true_and]
      by_cases h4 : b < d
      · simp [h4]
      · by_cases h5 : d < b <;> simp [h4, h5]
theorem grow_below {w w' : World} {B : Nat} {q : Nat} {os : Array Obj} (hB : B ≤ w.heap.size) (h : w' = Sort.grow (w.drewN q) os) : Below B w w' := by
  subst h
  refine ⟨rfl, rfl, rfl, ?_, fun i hi => ?_⟩
  · simp [Sort.grow]
  · have hi' : i < w.heap.size := by omega
    show (w.heap ++ os)[i]? = w.heap[i]?
    rw [Array.getElem?_append_left hi']
set_option maxRecDepth 100000 in
set_option maxHeartbeats 2000000 in
theorem pcmp_any (a b c d : Int) (w : World) :
    Calls Try.prog 24 #[.agg #[.int .i64 a, .int .i64 b], .agg #[.int .i64 c, .int .i64 d]] w fun e w' => e = .returned (.int .i64 (cmpP a b c d)) ∧ ∃ q os, w' = Sort.grow (w.drewN q) os := by
  have C0 := Lib.hid (fun W => cmp_any a c W)
  have C1 := Lib.hid (fun W => cmp_any b d W)
  unfold cmpP
  have O := Lib.hid (fun W g (h0 : W.cell? ⟨g, 0, none⟩ = some (.int .i64 (cmpI a c))) (h1 : W.cell? ⟨g, 1, none⟩ = some (.int .i64 (cmpI b d))) => or_any _ _ g W h0 h1)
  generalize cmpI a c = c0 at *
  generalize cmpI b d = c1 at *
  have B0 := Lib.hid (show ∃ os, (w.alloc (.cells #[.int .i64 a, .int .i64 b] 56)).alloc (.cells #[.int .i64 c, .int .i64 d] 56) = Sort.grow w os from ⟨_, by rw [Sort.alloc_eq_grow, Sort.alloc_eq_grow, Sort.grow_grow]⟩)
  have X0 := (Lies.new w 56 #[.int .i64 a, .int .i64 b]).alloc (.cells #[.int .i64 c, .int .i64 d] 56)
  have X1 := Lies.new (w.alloc (.cells #[.int .i64 a, .int .i64 b] 56)) 56 #[.int .i64 c, .int .i64 d]
  have hs0 : (w.alloc (.cells #[.int .i64 a, .int .i64 b] 56)).heap.size = w.heap.size + 1 := by simp
  rw [hs0] at X1
  clear hs0
  have x0 := X0.cell 0
  have x1 := X0.cell 1
  have y0 := X1.cell 0
  have y1 := X1.cell 1
  clear X0 X1
  obtain ⟨w1, hw1⟩ : ∃ w1, (w.alloc (.cells #[.int .i64 a, .int .i64 b] 56)).alloc (.cells #[.int .i64 c, .int .i64 d] 56) = w1 := ⟨_, rfl⟩
  rw [hw1] at x0 x1 y0 y1 B0
  simp only [List.getElem?_toArray, List.getElem?_cons_zero, List.getElem?_cons_succ] at x0 x1 y0 y1
  go_enter Try.func24, Try.ntmps24
  go_wp2_with fail
  clear hw1
  have e0 : Hid (Calls Try.prog 33 #[.int .i64 a, .int .i64 c] w1.drew (fun e w'' => e = .returned (.int .i64 c0) ∧ w'' = w1.drew)) := Lib.hid ((C0.out _).mono (fun _ _ h => ⟨h.1, h.2.symm⟩))
  have e1 : Hid (Calls Try.prog 33 #[.int .i64 b, .int .i64 d] w1.drew (fun e w'' => e = .returned (.int .i64 c1) ∧ w'' = w1.drew)) := Lib.hid ((C1.out _).mono (fun _ _ h => ⟨h.1, h.2.symm⟩))
  go_still_tail 10, (by kernel_rfl)
  repeat still_step
  still_call e0.out
  repeat still_step
  still_call e1.out
  repeat still_step
  refine wpStill_nil ?_
  clear e0 e1
  have X2 := Lies.new w1 3 #[.int .i64 c0, .int .i64 c1]
  have z0 := X2.cell 0
  have z1 := X2.cell 1
  have Z0 := Lib.hid z0
  have Z1 := Lib.hid z1
  clear z0 z1 X2 x0 x1 y0 y1
  go_wp2_with fail
  refine (O.out (w1.alloc (.cells #[.int .i64 c0, .int .i64 c1] 3)).drew _ Z0.out Z1.out).mono ?_
  rintro e w2 ⟨rfl, rfl⟩
  go_wp2
  go_ret
  obtain ⟨os, ho⟩ := B0.out
  refine ⟨rfl, 1, os.push (.cells #[.int .i64 c0, .int .i64 c1] 3), ?_⟩
  rw [ho, Sort.alloc_eq_grow, Sort.grow_grow, Array.append_singleton]
  rfl
/-- The closure that the marks are sorted by. -/
theorem clos_any (x y : Rd) (w : World) :
    Calls Try.prog 23 #[mval x, mval y] w fun e w' => e = .returned (.int .i64 (cmpP x.min x.seq y.min y.seq)) ∧ ∃ q os, w' = Sort.grow (w.drewN q) os := by
  have C := Lib.hid (fun W => pcmp_any x.min x.seq y.min y.seq W)
  have B0 := Lib.hid (show ∃ os, (w.alloc (.cells #[.int .i64 x.min, .int .i64 x.seq, .bool (opB x)] 31)).alloc (.cells #[.int .i64 y.min, .int .i64 y.seq, .bool (opB y)] 31) = Sort.grow w os from ⟨_, by rw [Sort.alloc_eq_grow, Sort.alloc_eq_grow, Sort.grow_grow]⟩)
  generalize cmpP x.min x.seq y.min y.seq = c at *
  unfold mval
  generalize opB x = xo at *
  generalize opB y = yo at *
  obtain ⟨xm, xs, _⟩ := x
  obtain ⟨ym, ys, _⟩ := y
  simp only at C B0 ⊢
  go_enter Try.func23, Try.ntmps23
  go_wp2_with (go_at_call 24; ((with_reducible refine (C.out _).mono ?_); rintro e w1 ⟨rfl, hq⟩))
  go_ret
  obtain ⟨os, ho⟩ := B0.out
  obtain ⟨q, os', hw⟩ := hq
  refine ⟨rfl, q, os ++ os', ?_⟩
  rw [hw, ho, ← Sort.grow_grow]
  rfl
end Dr
end Go.Proofs.Ytfdakkghikimcaa
