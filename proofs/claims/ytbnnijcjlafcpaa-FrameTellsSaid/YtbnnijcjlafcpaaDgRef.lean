/- The document's answer on the tenths of a float64, in plain whole numbers, and that it is the tenths of the text on float64s, for every word that is no NaN. -/
import Derived.Test.YtbnnijcjlafcpaaDgFloat
namespace Hf

/-- How many bits a number has. -/
def wd (p : Nat) : Nat := if p = 0 then 0 else p.log2 + 1
theorem wd_zero : wd 0 = 0 := rfl
theorem wd_half (p : Nat) (h : 0 < p) : wd p = wd (p / 2) + 1 := by
  unfold wd
  rw [if_neg (by omega)]
  by_cases h2 : p / 2 = 0
  · rw [if_pos h2]
    have : p = 1 := by omega
    subst this; decide
  · rw [if_neg h2, Nat.log2_def p, if_pos (by omega)]
theorem wd_le (p : Nat) (h : p < 2 ^ 60) : wd p ≤ 60 := by
  unfold wd
  split
  · omega
  · rename_i h0
    have := (Nat.log2_lt h0).2 h
    omega

/-- How many of its last bits go. -/
def gone (p : Nat) : Nat := p.log2 - 52
def wholeN (q : Nat) (E : Int) (s : Bool) : Nat :=
  if 0 ≤ E then (if q = 0 then 0 else if 9 < E then 9223372036854775808 else q * 2 ^ E.toNat)
  else if E < -60 then (if 0 < q ∧ s = false then 1 else 0)
  else q / 2 ^ (-E).toNat + (if q % 2 ^ (-E).toNat ≠ 0 ∧ s = false then 1 else 0)

/-- What is multiplied by 10 and rounded. -/
theorem vr_ten (p j : Nat) : vr (rung (p * 2 ^ j) 0) = rne p (gone p) * 2 ^ (gone p + j) := by
  by_cases h0 : p = 0
  · subst h0
    have e1 : rung (0 * 2 ^ j) 0 = 0 := by rw [Nat.zero_mul]; decide
    have e2 : rne 0 (gone 0) = 0 := by decide
    rw [e1, e2, Nat.zero_mul]; decide
  · rw [vr_rung, Nat.sub_zero]
    have hl : lastU (p * 2 ^ j) 0 = p.log2 + j - 52 := by
      unfold lastU; rw [log2_mul_pow _ _ h0]; omega
    by_cases h1 : 52 ≤ p.log2
    · have e : lastU (p * 2 ^ j) 0 = gone p + j := by rw [hl]; unfold gone; omega
      rw [e, rne_shift]
    · have e : gone p = 0 := by unfold gone; omega
      have hj : lastU (p * 2 ^ j) 0 ≤ j := by rw [hl]; omega
      rw [e, rne_zero, rne_exact _ _ _ hj, Nat.mul_assoc, ← Nat.pow_add, Nat.zero_add]
      congr 2; omega

theorem rne_le53 (p : Nat) : rne p (gone p) ≤ 2 ^ 53 := by
  have e : lastU p 0 = gone p := by unfold lastU gone; omega
  rw [← e]; exact kept_hi p 0

/-- A number of units as a whole number, rounded up. -/
theorem whole_up (q k : Nat) (hk : k ≤ 1074 + 2100) (hq : q ≤ 2 ^ 53) (hbig : 1074 + 9 < k → 2 ^ 52 ≤ q) (s : Bool) :
    min (wholeN q ((k : Int) - 1074) s) 1099511627776 = min (upN s (q * 2 ^ k)) 1099511627776 := by
  have hee := ee_eq
  unfold wholeN upN
  rw [U_eq]
  rcases Nat.lt_or_ge k 1074 with h | h
  · rw [if_neg (by omega)]
    have e1 := mul_pow_div q (ee - k) k
    have e2 := mul_pow_mod q (ee - k) k
    have e3 : ee - k + k = ee := by omega
    rw [e3] at e1 e2
    have hp := p2 k
    have hz : q % 2 ^ (ee - k) * 2 ^ k = 0 ↔ q % 2 ^ (ee - k) = 0 := by
      constructor
      · intro hx
        rcases Nat.mul_eq_zero.1 hx with hx | hx
        · exact hx
        · omega
      · intro hx; rw [hx, Nat.zero_mul]
    rw [e1, e2]
    by_cases h60 : (k : Int) - 1074 < -60
    · rw [if_pos h60]
      have hlt : q < 2 ^ (ee - k) := Nat.lt_of_lt_of_le (show q < 2 ^ 60 from Nat.lt_of_le_of_lt hq (by decide)) (Nat.pow_le_pow_right (by omega) (by omega))
      rw [Nat.div_eq_of_lt hlt, Nat.mod_eq_of_lt hlt]
      rw [Nat.mod_eq_of_lt hlt] at hz
      have e4 : (0 < q ∧ s = false) ↔ (s = false ∧ q * 2 ^ k ≠ 0) := by
        constructor
        · rintro ⟨a, b⟩; exact ⟨b, fun c => by have := hz.1 c; omega⟩
        · rintro ⟨a, b⟩; exact ⟨by rcases Nat.eq_zero_or_pos q with c | c; exact absurd (hz.2 c) b; exact c, a⟩
      simp only [e4, Nat.zero_add]
    · rw [if_neg h60]
      have e5 : (-((k : Int) - 1074)).toNat = ee - k := by omega
      rw [e5]
      have e4 : (q % 2 ^ (ee - k) ≠ 0 ∧ s = false) ↔ (s = false ∧ q % 2 ^ (ee - k) * 2 ^ k ≠ 0) := by
        constructor
        · rintro ⟨a, b⟩; exact ⟨b, fun c => a (hz.1 c)⟩
        · rintro ⟨a, b⟩; exact ⟨fun c => b (hz.2 c), a⟩
      simp only [e4]
  · rw [if_pos (by omega)]
    have e1 : q * 2 ^ k = q * 2 ^ (k - ee) * 2 ^ ee := by
      rw [Nat.mul_assoc, ← Nat.pow_add]; congr 2; omega
    rw [e1, Nat.mul_div_cancel _ (p2 ee), Nat.mul_mod_left]
    simp only [ne_eq, not_true_eq_false, and_false, if_false, Nat.add_zero]
    have e2 : ((k : Int) - 1074).toNat = k - ee := by omega
    by_cases h0 : q = 0
    · rw [if_pos h0, h0, Nat.zero_mul]
    · rw [if_neg h0]
      by_cases h9 : 9 < (k : Int) - 1074
      · rw [if_pos h9]
        have hq52 := hbig (by omega)
        have : 2 ^ 52 * 1 ≤ q * 2 ^ (k - ee) := Nat.mul_le_mul hq52 (p2 _)
        rw [Nat.min_eq_right (by decide), Nat.min_eq_right]
        exact Nat.le_trans (by decide) this
      · rw [if_neg h9, e2]

/-- The document's answer: of a word's three parts. -/
def refT (s : Bool) (e m : Nat) : Int :=
  let m' := if e = 0 then m else m + 4503599627370496
  let e' := if e = 0 then 1 else e
  let n := if e' < 1130 then min (wholeN (rne (10 * m') (gone (10 * m'))) ((e' : Int) - 1075 + gone (10 * m')) s) 1099511627776 else 1099511627776
  if s then -(n : Int) else n

theorem parts_vr (b : Nat) : vr (rg b) = (if b / 4503599627370496 % 2048 = 0 then b % 4503599627370496 else b % 4503599627370496 + 4503599627370496) * 2 ^ ((if b / 4503599627370496 % 2048 = 0 then 1 else b / 4503599627370496 % 2048) - 1) := by
  unfold vr rg
  have e1 : b % 2 ^ 63 / 2 ^ 52 = b / 4503599627370496 % 2048 := by omega
  have e2 : b % 2 ^ 63 % 2 ^ 52 = b % 4503599627370496 := by omega
  by_cases h : b / 4503599627370496 % 2048 = 0
  · have hlt : b % 2 ^ 63 < 2 ^ 52 := by omega
    have e3 : b % 2 ^ 63 = b % 4503599627370496 := by omega
    rw [if_pos hlt, if_pos h, if_pos h, e3]; simp
  · have hlt : ¬ b % 2 ^ 63 < 2 ^ 52 := by omega
    rw [if_neg hlt, if_neg h, if_neg h, e1, e2, Nat.add_comm]

theorem tenths_up (b : Nat) : tenths b = if sg b then -((min (upN (sg b) (vr (tr (vr (rg b))))) 1099511627776 : Nat) : Int) else ((min (upN (sg b) (vr (tr (vr (rg b))))) 1099511627776 : Nat) : Int) := by
  unfold tenths
  rw [← tenW_sv, tenW, sv_word _ _ (tr_lt _), ceilZ_eq]
  unfold clampT
  cases sg b
  · simp only [Bool.false_eq_true, if_false]; omega
  · simp only [if_true]; omega

theorem gone_le (p : Nat) (h : p < 2 ^ 57) : gone p ≤ 4 := by
  unfold gone
  by_cases h0 : p = 0
  · subst h0; decide
  · have := (Nat.log2_lt h0).2 h
    omega
theorem rne_ge52 (p : Nat) (h : 2 ^ 53 ≤ p) : 2 ^ 52 ≤ rne p (gone p) := by
  have e : lastU p 0 = gone p := by unfold lastU gone; omega
  have h1 : 53 ≤ p.log2 := (Nat.le_log2 (by omega)).2 h
  have := kept_lo p 0 (by rw [e]; unfold gone; omega)
  rwa [e] at this

theorem tenths_small (s : Bool) (m j : Nat) (hm : m < 2 ^ 53) (hj : j ≤ 1128) (hn : j = 0 ∨ 2 ^ 52 ≤ m) :
    min (upN s (vr (tr (m * 2 ^ j)))) 1099511627776 = min (wholeN (rne (10 * m) (gone (10 * m))) ((j : Int) - 1074 + gone (10 * m)) s) 1099511627776 := by
  have hg := gone_le (10 * m) (by omega)
  have e1 : 10 * (m * 2 ^ j) = 10 * m * 2 ^ j := (Nat.mul_assoc ..).symm
  have e2 := vr_ten (10 * m) j
  have h53 := rne_le53 (10 * m)
  have hlt : rung (10 * m * 2 ^ j) 0 < infR := by
    apply rung_lt_of_vr
    rw [e2, vr_infR]
    have h1 : rne (10 * m) (gone (10 * m)) * 2 ^ (gone (10 * m) + j) ≤ 2 ^ 53 * 2 ^ (gone (10 * m) + j) := Nat.mul_le_mul_right _ h53
    rw [← Nat.pow_add] at h1
    exact Nat.lt_of_le_of_lt h1 (Nat.pow_lt_pow_right (by omega) (by have := te_eq; omega))
  have e3 : tr (m * 2 ^ j) = rung (10 * m * 2 ^ j) 0 := by
    unfold tr; rw [e1]; exact Nat.min_eq_left (Nat.le_of_lt hlt)
  rw [e3, e2, ← whole_up _ (gone (10 * m) + j) (by omega) h53 (fun h => rne_ge52 _ (by rcases hn with h0 | h0 <;> omega)) s]
  have e4 : ((gone (10 * m) + j : Nat) : Int) - 1074 = (j : Int) - 1074 + (gone (10 * m) : Int) := by omega
  rw [e4]

theorem tenths_big (s : Bool) (r : Nat) (hr : r ≤ infR) (h : 1130 * 2 ^ 52 ≤ r) : min (upN s (vr (tr (vr r)))) 1099511627776 = 1099511627776 := by
  have h1 : r ≤ tr (vr r) := by
    unfold tr
    have h1 := rung_mono 0 (show vr r ≤ 10 * vr r by omega)
    rw [rung_vr] at h1
    omega
  have h2 := vr_le (Nat.le_trans h h1)
  have h3 : 1099511627776 * U ≤ vr (1130 * 2 ^ 52) := by
    obtain ⟨k, hk⟩ : ∃ k : Nat, k = 1129 := ⟨_, rfl⟩
    have e : (1130 * 2 ^ 52 : Nat) = k * 2 ^ 52 + 2 ^ 52 := by omega
    rw [e, vr_mk k (2 ^ 52) (by decide) (Or.inr (Nat.le_refl _)), U_eq]
    have hee := ee_eq
    have e2 : 1099511627776 * 2 ^ ee = 2 ^ (40 + ee) := by rw [Nat.pow_add]
    rw [e2, ← Nat.pow_add]
    exact Nat.pow_le_pow_right (by omega) (by omega)
  have h4 : 1099511627776 ≤ vr (tr (vr r)) / U := (Nat.le_div_iff_mul_le U_pos).2 (Nat.le_trans h3 h2)
  apply Nat.min_eq_right
  unfold upN
  omega

theorem refT_eq (b : Nat) (hr : rg b ≤ infR) : refT (sg b) (b / 4503599627370496 % 2048) (b % 4503599627370496) = tenths b := by
  rw [tenths_up]
  unfold refT
  have hv := parts_vr b
  have er : rg b = b / 4503599627370496 % 2048 * 2 ^ 52 + b % 4503599627370496 := by unfold rg; omega
  generalize b / 4503599627370496 % 2048 = e at hv er
  have hm : b % 4503599627370496 < 4503599627370496 := Nat.mod_lt _ (by decide)
  generalize b % 4503599627370496 = m at hv er hm
  by_cases h0 : e = 0
  · subst h0
    simp only [if_true] at hv ⊢
    rw [hv, if_pos (show (1 : Nat) < 1130 by decide)]
    have := tenths_small (sg b) m 0 (by omega) (by omega) (Or.inl rfl)
    have e1 : ((1 : Nat) : Int) - 1075 = ((0 : Nat) : Int) - 1074 := by decide
    simp only [Nat.sub_self]
    rw [this, e1]
  · simp only [if_neg h0] at hv ⊢
    by_cases h1 : e < 1130
    · rw [if_pos h1]
      have := tenths_small (sg b) (m + 4503599627370496) (e - 1) (by omega) (by omega) (Or.inr (by omega))
      have e1 : ((e - 1 : Nat) : Int) - 1074 = (e : Int) - 1075 := by omega
      rw [hv, this, e1]
    · rw [if_neg h1]
      have := tenths_big (sg b) (rg b) hr (by omega)
      rw [this]
end Hf
