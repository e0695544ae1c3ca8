/- Plain whole numbers that stop at the most: what package sat's calls are held against; no condition. -/
namespace Go.Proofs.YtgmjmkkhoibbcaaDoor
namespace St
namespace St
/-- A number, fitted. -/
def fit (n : Int) : Int := if n < 0 then 0 else if 4611686018427387904 < n then 4611686018427387904 else n
/-- The lesser of a number and the most. -/
def cap (n : Int) : Int := if 4611686018427387904 < n then 4611686018427387904 else n
/-- All numbers, fitted, added. -/
def sum : List Int → Int
  | [] => 0
  | a :: r => fit a + sum r

theorem fit_bd (n : Int) : 0 ≤ fit n ∧ fit n ≤ 4611686018427387904 := by unfold fit; repeat' split <;> omega
theorem fit_neg {n : Int} (h : n < 0) : fit n = 0 := by unfold fit; rw [if_pos h]
theorem fit_big {n : Int} (h : 4611686018427387904 < n) : fit n = 4611686018427387904 := by unfold fit; rw [if_neg (by omega), if_pos h]
theorem fit_mid {n : Int} (h : 0 ≤ n) (k : n ≤ 4611686018427387904) : fit n = n := by unfold fit; rw [if_neg (by omega), if_neg (by omega)]
theorem fit_cap {n : Int} (h : 0 ≤ n) : fit n = cap n := by unfold fit cap; rw [if_neg (by omega)]
theorem fit_fit (n : Int) : fit (fit n) = fit n := fit_mid (fit_bd n).1 (fit_bd n).2
theorem cap_bd {n : Int} (h : 0 ≤ n) : 0 ≤ cap n ∧ cap n ≤ 4611686018427387904 := by unfold cap; split <;> omega
theorem cap_big {n : Int} (h : 4611686018427387904 ≤ n) : cap n = 4611686018427387904 := by unfold cap; split <;> omega
theorem cap_mid {n : Int} (k : n ≤ 4611686018427387904) : cap n = n := by unfold cap; rw [if_neg (by omega)]
theorem cap_cap_add (a b : Int) (h : 0 ≤ b) : cap (cap a + b) = cap (a + b) := by unfold cap; repeat' split <;> omega
theorem cap_add_cap (a b : Int) (h : 0 ≤ a) : cap (a + cap b) = cap (a + b) := by unfold cap; repeat' split <;> omega
theorem sum_nn (l : List Int) : 0 ≤ sum l := by
  induction l with
  | nil => exact Int.le_refl 0
  | cons a r ih => unfold sum; have := fit_bd a; omega
theorem sum_snoc (l : List Int) (a : Int) : sum (l ++ [a]) = sum l + fit a := by
  induction l with
  | nil => simp [sum]
  | cons b r ih => simp only [List.cons_append, sum]; rw [ih]; omega
theorem sum_take (zs : List Int) (k : Nat) (h : k < zs.length) : sum (zs.take (k + 1)) = sum (zs.take k) + fit (zs.getD k 0) := by
  rw [List.take_add_one, List.getElem?_eq_getElem h]
  simp only [Option.toList]
  rw [sum_snoc]
  simp [List.getD, h]
theorem step (zs : List Int) (k : Nat) (h : k < zs.length) : cap (cap (sum (zs.take k)) + fit (zs.getD k 0)) = cap (sum (zs.take (k + 1))) := by
  rw [sum_take zs k h]
  exact cap_cap_add _ _ (fit_bd _).1

theorem scale {x s k : Int} (hx : 0 ≤ x) (hk : 0 ≤ k) : cap (x + s * k) = cap (x + cap s * k) := by
  by_cases hb : 4611686018427387904 < s
  · have hc : cap s = 4611686018427387904 := cap_big (by omega)
    rw [hc]
    by_cases h0 : k = 0
    · rw [h0]; simp
    · have g1 : s * 1 ≤ s * k := Int.mul_le_mul_of_nonneg_left (by omega) (by omega)
      rw [Int.mul_one] at g1
      rw [cap_big (by omega), cap_big (by omega)]
  · rw [cap_mid (n := s) (by omega)]
/-- A product, made by halves: a round with nothing over. -/
theorem half0 {p q r : Int} (hp : 0 ≤ p) (hr : 0 ≤ r) (h : r % 2 = 0) : cap (p + q * r) = cap (p + cap (q + q) * (r / 2)) := by
  have e : q * r = (q + q) * (r / 2) := by
    have h1 : r = 2 * (r / 2) := by omega
    have h2 : q * r = q * (2 * (r / 2)) := by rw [← h1]
    rw [h2, ← Int.mul_assoc, Int.mul_comm q 2, Int.two_mul]
  rw [e, scale hp (by omega)]
/-- A round with one over. -/
theorem half1 {p q r : Int} (hp : 0 ≤ p) (hq : 0 ≤ q) (hr : 0 ≤ r) (h : r % 2 = 1) : cap (p + q * r) = cap (cap (p + q) + cap (q + q) * (r / 2)) := by
  have e : p + q * r = (p + q) + (q + q) * (r / 2) := by
    have h1 : r = 2 * (r / 2) + 1 := by omega
    have h2 : q * r = q * (2 * (r / 2) + 1) := by rw [← h1]
    rw [h2, Int.mul_add, ← Int.mul_assoc, Int.mul_comm q 2, Int.two_mul, Int.mul_one]
    omega
  have hk : 0 ≤ r / 2 := by omega
  have n1 : 0 ≤ cap (q + q) * (r / 2) := Int.mul_nonneg (cap_bd (by omega)).1 hk
  rw [e, scale (by omega) hk, cap_cap_add _ _ n1]
theorem done {p q r : Int} (hp : p = 4611686018427387904) (hq : 0 ≤ q) (hr : 0 ≤ r) : cap (p + q * r) = 4611686018427387904 := by
  have := Int.mul_nonneg hq hr
  exact cap_big (by omega)
/-- The document's product: one number against the most, divided by the other one. -/
theorem prod_big {x y : Int} (hy : 0 < y) (h : 4611686018427387904 / y < x) : cap (x * y) = 4611686018427387904 := by
  have h1 : 4611686018427387904 < x * y := (Int.ediv_lt_iff_lt_mul hy).1 h
  exact cap_big (by omega)
theorem prod_mid {x y : Int} (hy : 0 < y) (h : x ≤ 4611686018427387904 / y) : x * y ≤ 4611686018427387904 := (Int.le_ediv_iff_mul_le hy).1 h
theorem cap_mul_cap {a b c : Int} (hc : 0 ≤ c) : cap (cap (a * b) * c) = cap (a * b * c) := by
  have h := scale (x := 0) (s := a * b) (k := c) (by omega) hc
  rw [Int.zero_add, Int.zero_add] at h
  exact h.symm
theorem cap_mul_cap_r {a b c : Int} (ha : 0 ≤ a) : cap (a * cap (b * c)) = cap (a * b * c) := by
  rw [Int.mul_comm a (cap (b * c)), cap_mul_cap ha, Int.mul_comm (b * c) a, Int.mul_assoc]
end St
end St
end Go.Proofs.YtgmjmkkhoibbcaaDoor
