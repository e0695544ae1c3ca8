/- Float64s as whole numbers of units of 2^-1074: what a product with 10, a ceiling, a whole number and a comparison are, for every word that is no NaN. -/
import Ieee.Arith
namespace Hf
open Ieee

def rne (n d : Nat) : Nat := n / 2 ^ d + (if 2 ^ d < 2 * (n % 2 ^ d) ∨ (2 ^ d = 2 * (n % 2 ^ d) ∧ n / 2 ^ d % 2 = 1) then 1 else 0)

theorem p2 (d : Nat) : 0 < 2 ^ d := Nat.two_pow_pos d

theorem big_drop {n d : Nat} (h : n.log2 + 2 < d) : n < 2 ^ (n.log2 + 2) ∧ 2 * n < 2 ^ (n.log2 + 2) ∧ n < 2 ^ d ∧ 2 * n < 2 ^ d := by
  have h1 : n < 2 ^ (n.log2 + 1) := Nat.lt_log2_self
  have e2 : 2 ^ (n.log2 + 2) = 2 * 2 ^ (n.log2 + 1) := by rw [Nat.pow_succ, Nat.mul_comm]
  have h3 : 2 ^ (n.log2 + 2) ≤ 2 ^ d := Nat.pow_le_pow_right (by omega) (by omega)
  omega

theorem cut_even (neg : Bool) (n d : Nat) : Toward.even.cut neg n d = rne n d := by
  unfold Toward.cut rne
  by_cases h : d ≤ n.log2 + 2
  · rw [Nat.min_eq_left h]
    simp only [Nat.shiftLeft_eq, Nat.one_mul]
    congr 1
    by_cases a : 2 ^ d < 2 * (n % 2 ^ d)
    · simp [a]
    · by_cases b : 2 ^ d = 2 * (n % 2 ^ d)
      · by_cases c : n / 2 ^ d % 2 = 1
        · simp only [c, ← b]; simp
        · simp only [c, ← b]; simp; omega
      · have b' : (2 ^ d == 2 * (n % 2 ^ d)) = false := by simpa using b
        simp [a, b, b']
  · rw [Nat.min_eq_right (by omega)]
    obtain ⟨h1, h2, h3, h4⟩ := big_drop (Nat.lt_of_not_le h)
    simp only [Nat.shiftLeft_eq, Nat.one_mul]
    rw [Nat.div_eq_of_lt h1, Nat.mod_eq_of_lt h1, Nat.div_eq_of_lt h3, Nat.mod_eq_of_lt h3]
    have a : ¬ 2 ^ (n.log2 + 2) < 2 * n := by omega
    have b : ¬ 2 ^ (n.log2 + 2) = 2 * n := by omega
    have b' : (2 ^ (n.log2 + 2) == 2 * n) = false := by simpa using b
    have c : ¬ 2 ^ d < 2 * n := by omega
    have e : ¬ 2 ^ d = 2 * n := by omega
    simp [a, c, e, b']

theorem cut_up (neg : Bool) (n d : Nat) : Toward.up.cut neg n d = n / 2 ^ d + (if neg = false ∧ n % 2 ^ d ≠ 0 then 1 else 0) := by
  unfold Toward.cut
  by_cases h : d ≤ n.log2 + 2
  · rw [Nat.min_eq_left h]
    simp only [Nat.shiftLeft_eq, Nat.one_mul]
    congr 1
    cases neg <;> by_cases a : n % 2 ^ d = 0 <;> simp [a]
  · rw [Nat.min_eq_right (by omega)]
    obtain ⟨h1, h2, h3, h4⟩ := big_drop (Nat.lt_of_not_le h)
    simp only [Nat.shiftLeft_eq, Nat.one_mul]
    rw [Nat.div_eq_of_lt h1, Nat.mod_eq_of_lt h1, Nat.div_eq_of_lt h3, Nat.mod_eq_of_lt h3]
    cases neg <;> by_cases a : n = 0 <;> simp [a]

theorem cut_zero (neg : Bool) (n d : Nat) : Toward.zero.cut neg n d = n / 2 ^ d := by
  unfold Toward.cut
  by_cases h : d ≤ n.log2 + 2
  · rw [Nat.min_eq_left h]
    simp [Nat.shiftLeft_eq]
  · rw [Nat.min_eq_right (by omega)]
    obtain ⟨h1, h2, h3, h4⟩ := big_drop (Nat.lt_of_not_le h)
    simp only [Nat.shiftLeft_eq, Nat.one_mul]
    rw [Nat.div_eq_of_lt h1, Nat.div_eq_of_lt h3]
    simp

theorem rne_zero (n : Nat) : rne n 0 = n := by simp [rne, Nat.mod_one]

theorem mul_pow_div (a d j : Nat) : a * 2 ^ j / 2 ^ (d + j) = a / 2 ^ d := by
  rw [Nat.pow_add, Nat.mul_div_mul_right _ _ (p2 j)]

theorem mul_pow_mod (a d j : Nat) : a * 2 ^ j % 2 ^ (d + j) = a % 2 ^ d * 2 ^ j := by
  rw [Nat.pow_add, Nat.mul_mod_mul_right]

theorem rne_shift (a d j : Nat) : rne (a * 2 ^ j) (d + j) = rne a d := by
  unfold rne
  rw [mul_pow_div, mul_pow_mod, Nat.pow_add]
  have hj := p2 j
  have e1 : 2 ^ d * 2 ^ j < 2 * (a % 2 ^ d * 2 ^ j) ↔ 2 ^ d < 2 * (a % 2 ^ d) := by
    rw [← Nat.mul_assoc]; exact Nat.mul_lt_mul_right hj
  have e2 : 2 ^ d * 2 ^ j = 2 * (a % 2 ^ d * 2 ^ j) ↔ 2 ^ d = 2 * (a % 2 ^ d) := by
    rw [← Nat.mul_assoc]; exact Nat.mul_left_inj (by omega)
  simp only [e1, e2]

theorem rne_exact (a d j : Nat) (h : d ≤ j) : rne (a * 2 ^ j) d = a * 2 ^ (j - d) := by
  have e : a * 2 ^ j = a * 2 ^ (j - d) * 2 ^ d := by
    rw [Nat.mul_assoc, ← Nat.pow_add]; congr 2; omega
  have := rne_shift (a * 2 ^ (j - d)) 0 d
  rw [Nat.zero_add, rne_zero, ← e] at this
  exact this

theorem rne_lo (n d : Nat) : n / 2 ^ d ≤ rne n d := by unfold rne; omega
theorem rne_hi (n d : Nat) : rne n d ≤ n / 2 ^ d + 1 := by unfold rne; split <;> omega

theorem rne_err (n d : Nat) : 2 * (rne n d * 2 ^ d) ≤ 2 * n + 2 ^ d ∧ 2 * n ≤ 2 * (rne n d * 2 ^ d) + 2 ^ d := by
  have h := Nat.div_add_mod n (2 ^ d)
  have hm := Nat.mod_lt n (p2 d)
  unfold rne
  have e : 2 ^ d * (n / 2 ^ d) = n / 2 ^ d * 2 ^ d := Nat.mul_comm ..
  split
  · rename_i c
    rw [Nat.add_mul, Nat.one_mul]
    have : 2 ^ d ≤ 2 * (n % 2 ^ d) := by rcases c with c | c <;> omega
    omega
  · rename_i c
    have : ¬ 2 ^ d < 2 * (n % 2 ^ d) := fun x => c (Or.inl x)
    rw [Nat.add_zero]
    omega

theorem rne_mono {n n' : Nat} (d : Nat) (h : n ≤ n') : rne n d ≤ rne n' d := by
  have hq : n / 2 ^ d ≤ n' / 2 ^ d := Nat.div_le_div_right h
  rcases Nat.lt_or_ge (n / 2 ^ d) (n' / 2 ^ d) with hlt | hge
  · have := rne_hi n d; have := rne_lo n' d; omega
  · have e : n' / 2 ^ d = n / 2 ^ d := by omega
    have h1 := Nat.div_add_mod n (2 ^ d)
    have h2 := Nat.div_add_mod n' (2 ^ d)
    rw [e] at h2
    have hr : n % 2 ^ d ≤ n' % 2 ^ d := by omega
    unfold rne
    rw [e]
    split
    · rename_i c
      rw [if_pos]
      · omega
      · rcases c with c | ⟨c1, c2⟩
        · left; omega
        · rcases Nat.lt_or_ge (2 ^ d) (2 * (n' % 2 ^ d)) with x | x
          · exact Or.inl x
          · right; exact ⟨by omega, c2⟩
    · omega

/-- Where the last bit that is kept stands, in units of 2 ^ (-1074 - k). -/
def lastU (N k : Nat) : Nat := max (N.log2 - 52) k
def rung (N k : Nat) : Nat := (lastU N k - k) * 2 ^ 52 + rne N (lastU N k)
def infR : Nat := 2047 * 2 ^ 52

theorem infR_eq : double.infRung = infR := by decide
theorem least_eq : double.leastPlace = -1074 := by decide
theorem binade_eq : double.binade = 2 ^ 52 := by decide
theorem sign_eq : double.signWeight = 2 ^ 63 := by decide
theorem frac_eq : double.fractionBits = 52 := rfl

theorem log2_mul_pow (m j : Nat) (h : m ≠ 0) : (m * 2 ^ j).log2 = m.log2 + j := by
  induction j with
  | zero => simp
  | succ j ih =>
    rw [Nat.pow_succ, ← Nat.mul_assoc, Nat.mul_comm, Nat.log2_two_mul, ih]
    · omega
    · have := p2 j
      exact Nat.mul_ne_zero h (by omega)

theorem nearest_eq (neg : Bool) (mag : Nat) (place : Int) (j k : Nat) (h : place = (j : Int) - 1074 - k) :
    double.nearest neg mag place = double.word neg (min (rung (mag * 2 ^ j) k) infR) := by
  unfold Format.nearest
  by_cases hm : mag = 0
  · subst hm
    have e1 : lastU 0 k = k := by simp [lastU]
    have e2 : rung 0 k = 0 := by simp [rung, e1, rne]
    simp [e2]
  · rw [if_neg hm]
    simp only [cut_even, infR_eq, binade_eq, least_eq, frac_eq]
    have hl := log2_mul_pow mag j hm
    have hlast : max (place + ↑mag.log2 - ((52 : Nat) : Int)) (-1074 : Int) = (lastU (mag * 2 ^ j) k : Int) - 1074 - k := by
      unfold lastU
      rw [hl, h]
      omega
    rw [hlast]
    have E1 : ((lastU (mag * 2 ^ j) k : Int) - 1074 - k - (-1074)).toNat = lastU (mag * 2 ^ j) k - k := by
      have : k ≤ lastU (mag * 2 ^ j) k := by unfold lastU; omega
      omega
    have E2 : rne (mag <<< (place - ((lastU (mag * 2 ^ j) k : Int) - 1074 - k)).toNat) ((lastU (mag * 2 ^ j) k : Int) - 1074 - k - place).toNat = rne (mag * 2 ^ j) (lastU (mag * 2 ^ j) k) := by
      rw [h, Nat.shiftLeft_eq]
      rcases Nat.le_total (lastU (mag * 2 ^ j) k) j with hj | hj
      · have e1 : ((j : Int) - 1074 - k - ((lastU (mag * 2 ^ j) k : Int) - 1074 - k)).toNat = j - lastU (mag * 2 ^ j) k := by omega
        have e2 : ((lastU (mag * 2 ^ j) k : Int) - 1074 - k - ((j : Int) - 1074 - k)).toNat = 0 := by omega
        rw [e1, e2, rne_zero, rne_exact _ _ _ hj]
      · have e1 : ((j : Int) - 1074 - k - ((lastU (mag * 2 ^ j) k : Int) - 1074 - k)).toNat = 0 := by omega
        have e2 : ((lastU (mag * 2 ^ j) k : Int) - 1074 - k - ((j : Int) - 1074 - k)).toNat = lastU (mag * 2 ^ j) k - j := by omega
        rw [e1, e2, Nat.pow_zero, Nat.mul_one]
        have := rne_shift mag (lastU (mag * 2 ^ j) k - j) j
        rw [← this]
        have e3 : lastU (mag * 2 ^ j) k - j + j = lastU (mag * 2 ^ j) k := by omega
        rw [e3]
    rw [E1, E2]
    rfl

/-- What a rung stands for, in units of 2 ^ -1074. -/
def vr (r : Nat) : Nat := if r < 2 ^ 52 then r else (2 ^ 52 + r % 2 ^ 52) * 2 ^ (r / 2 ^ 52 - 1)

theorem vr_lt {r s : Nat} (h : r < s) : vr r < vr s := by
  unfold vr
  by_cases hs : s < 2 ^ 52
  · rw [if_pos (by omega), if_pos hs]; exact h
  · rw [if_neg hs]
    by_cases hr : r < 2 ^ 52
    · rw [if_pos hr]
      have := p2 (s / 2 ^ 52 - 1)
      have : (2 ^ 52 + s % 2 ^ 52) * 1 ≤ (2 ^ 52 + s % 2 ^ 52) * 2 ^ (s / 2 ^ 52 - 1) := Nat.mul_le_mul_left _ this
      omega
    · rw [if_neg hr]
      have hq : r / 2 ^ 52 ≤ s / 2 ^ 52 := Nat.div_le_div_right (by omega)
      rcases Nat.lt_or_ge (r / 2 ^ 52) (s / 2 ^ 52) with hlt | hge
      · have h1 : (2 ^ 52 + r % 2 ^ 52) < 2 ^ 53 := by omega
        have h2 : (2 ^ 52 + r % 2 ^ 52) * 2 ^ (r / 2 ^ 52 - 1) < 2 ^ 53 * 2 ^ (r / 2 ^ 52 - 1) := Nat.mul_lt_mul_of_pos_right h1 (p2 _)
        have h3 : 2 ^ 53 * 2 ^ (r / 2 ^ 52 - 1) = 2 ^ 52 * 2 ^ (r / 2 ^ 52) := by
          rw [← Nat.pow_add, ← Nat.pow_add]; congr 1; omega
        have h4 : 2 ^ 52 * 2 ^ (r / 2 ^ 52) ≤ 2 ^ 52 * 2 ^ (s / 2 ^ 52 - 1) := Nat.mul_le_mul_left _ (Nat.pow_le_pow_right (by omega) (by omega))
        have h5 : 2 ^ 52 * 2 ^ (s / 2 ^ 52 - 1) ≤ (2 ^ 52 + s % 2 ^ 52) * 2 ^ (s / 2 ^ 52 - 1) := Nat.mul_le_mul_right _ (by omega)
        exact Nat.lt_of_lt_of_le h2 (h3 ▸ Nat.le_trans h4 h5)
      · have e : s / 2 ^ 52 = r / 2 ^ 52 := by omega
        rw [e]
        exact Nat.mul_lt_mul_of_pos_right (by omega) (p2 _)

theorem vr_le {r s : Nat} (h : r ≤ s) : vr r ≤ vr s := by
  rcases Nat.lt_or_eq_of_le h with h | rfl
  · exact Nat.le_of_lt (vr_lt h)
  · exact Nat.le_refl _

theorem vr_mk (l q : Nat) (h1 : q ≤ 2 ^ 53) (h2 : l = 0 ∨ 2 ^ 52 ≤ q) : vr (l * 2 ^ 52 + q) = q * 2 ^ l := by
  unfold vr
  by_cases h0 : l * 2 ^ 52 + q < 2 ^ 52
  · rw [if_pos h0]
    have : l = 0 := by omega
    subst this; simp
  · rw [if_neg h0]
    by_cases hq : q = 2 ^ 53
    · subst hq
      have e1 : (l * 2 ^ 52 + 2 ^ 53) % 2 ^ 52 = 0 := by omega
      have e2 : (l * 2 ^ 52 + 2 ^ 53) / 2 ^ 52 = l + 2 := by omega
      have e3 : 52 + (l + 2 - 1) = 53 + l := by omega
      rw [e1, e2, Nat.add_zero, ← Nat.pow_add, ← Nat.pow_add, e3]
    · have h52 : 2 ^ 52 ≤ q := by omega
      have e1 : (l * 2 ^ 52 + q) % 2 ^ 52 = q - 2 ^ 52 := by omega
      have e2 : (l * 2 ^ 52 + q) / 2 ^ 52 = l + 1 := by omega
      have e3 : 2 ^ 52 + (q - 2 ^ 52) = q := by omega
      rw [e1, e2, Nat.add_sub_cancel, e3]

theorem kept_hi (N k : Nat) : rne N (lastU N k) ≤ 2 ^ 53 := by
  have h : N < 2 ^ (N.log2 + 1) := Nat.lt_log2_self
  have hl : N.log2 + 1 ≤ lastU N k + 53 := by unfold lastU; omega
  have h' : N < 2 ^ 53 * 2 ^ (lastU N k) := by
    rw [← Nat.pow_add]
    exact Nat.lt_of_lt_of_le h (Nat.pow_le_pow_right (by omega) (by omega))
  have : N / 2 ^ (lastU N k) < 2 ^ 53 := Nat.div_lt_of_lt_mul (by rw [Nat.mul_comm]; exact h')
  have := rne_hi N (lastU N k)
  omega

theorem kept_lo (N k : Nat) (h : k < lastU N k) : 2 ^ 52 ≤ rne N (lastU N k) := by
  have e : lastU N k = N.log2 - 52 := by unfold lastU at h ⊢; omega
  have h0 : N ≠ 0 := by
    intro h0; subst h0
    simp [lastU] at h
  have h1 : 2 ^ N.log2 ≤ N := Nat.log2_self_le h0
  have h2 : 2 ^ 52 * 2 ^ (lastU N k) ≤ N := by
    rw [← Nat.pow_add]
    exact Nat.le_trans (Nat.pow_le_pow_right (by omega) (by omega)) h1
  have : 2 ^ 52 ≤ N / 2 ^ (lastU N k) := (Nat.le_div_iff_mul_le (p2 _)).2 h2
  have := rne_lo N (lastU N k)
  omega

theorem lastU_ge (N k : Nat) : k ≤ lastU N k := by unfold lastU; omega

/-- The value of the nearest rung. -/
theorem vr_rung (N k : Nat) : vr (rung N k) = rne N (lastU N k) * 2 ^ (lastU N k - k) := by
  unfold rung
  apply vr_mk _ _ (kept_hi N k)
  rcases Nat.lt_or_ge k (lastU N k) with h | h
  · exact Or.inr (kept_lo N k h)
  · left; omega

theorem rung_mono {N N' : Nat} (k : Nat) (h : N ≤ N') : rung N k ≤ rung N' k := by
  have hl : lastU N k ≤ lastU N' k := by
    unfold lastU
    have : N.log2 ≤ N'.log2 := by
      by_cases h0 : N = 0
      · subst h0; simp
      · exact (Nat.le_log2 (by omega)).2 (Nat.le_trans (Nat.log2_self_le h0) h)
    omega
  unfold rung
  rcases Nat.lt_or_ge (lastU N k) (lastU N' k) with hlt | hge
  · have h1 := kept_hi N k
    have h2 := kept_lo N' k (Nat.lt_of_le_of_lt (lastU_ge N k) hlt)
    have h3 := lastU_ge N k
    have h5 : lastU N k - k + 1 ≤ lastU N' k - k := by omega
    generalize rne N (lastU N k) = a at *
    generalize rne N' (lastU N' k) = b at *
    generalize lastU N k - k = x at *
    generalize lastU N' k - k = y at *
    clear hl hlt h3
    omega
  · have e : lastU N' k = lastU N k := by omega
    rw [e]
    exact Nat.add_le_add_left (rne_mono (lastU N k) h) _

theorem log2_of_bounds {n k : Nat} (h1 : 2 ^ k ≤ n) (h2 : n < 2 ^ (k + 1)) : n.log2 = k := by
  have h0 : n ≠ 0 := by have := p2 k; omega
  have a := (Nat.le_log2 h0).2 h1
  have b := (Nat.log2_lt h0).2 h2
  omega

theorem rung_vr (r : Nat) : rung (vr r) 0 = r := by
  unfold vr
  by_cases h : r < 2 ^ 52
  · rw [if_pos h]
    have hl : lastU r 0 = 0 := by
      unfold lastU
      by_cases h0 : r = 0
      · subst h0; simp
      · have := (Nat.log2_lt h0).2 h
        omega
    unfold rung
    rw [hl, rne_zero]; omega
  · rw [if_neg h]
    have hf1 : 2 ^ 52 ≤ 2 ^ 52 + r % 2 ^ 52 := by omega
    have hf2 : 2 ^ 52 + r % 2 ^ 52 < 2 ^ (52 + 1) := by omega
    have hlf : (2 ^ 52 + r % 2 ^ 52).log2 = 52 := log2_of_bounds hf1 hf2
    have hl : lastU ((2 ^ 52 + r % 2 ^ 52) * 2 ^ (r / 2 ^ 52 - 1)) 0 = r / 2 ^ 52 - 1 := by
      unfold lastU
      rw [log2_mul_pow _ _ (by omega), hlf]
      omega
    unfold rung
    rw [hl, rne_exact _ _ _ (Nat.le_refl _), Nat.sub_self, Nat.pow_zero]
    omega

theorem rung_scale (N c k : Nat) : rung (N * 2 ^ c) (k + c) = rung N k := by
  have hl : lastU (N * 2 ^ c) (k + c) = lastU N k + c := by
    unfold lastU
    by_cases h0 : N = 0
    · subst h0; simp
    · rw [log2_mul_pow _ _ h0]; omega
  unfold rung
  rw [hl, rne_shift]
  have e : lastU N k + c - (k + c) = lastU N k - k := by omega
  rw [e]

/-- A number of at most 53 bits is hit. -/
theorem vr_rung_exact (C j : Nat) (h : C < 2 ^ 53) : vr (rung (C * 2 ^ j) 0) = C * 2 ^ j := by
  rw [vr_rung]
  have hl : lastU (C * 2 ^ j) 0 ≤ j := by
    unfold lastU
    by_cases h0 : C = 0
    · subst h0; simp
    · rw [log2_mul_pow _ _ h0]
      have := (Nat.log2_lt h0).2 h
      omega
  rw [rne_exact _ _ _ hl, Nat.sub_zero, Nat.mul_assoc, ← Nat.pow_add]
  have e : j - lastU (C * 2 ^ j) 0 + lastU (C * 2 ^ j) 0 = j := by omega
  rw [e]

@[irreducible] def te : Nat := 2098
theorem te_eq : te = 2098 := by unfold te; rfl
theorem vr_infR : vr infR = 2 ^ te := by unfold te; decide +kernel

theorem vr_pos : 0 < vr infR := by decide +kernel

theorem rung_lt_of_vr {x : Nat} (h : vr x < vr infR) : x < infR := by
  rcases Nat.lt_or_ge x infR with h1 | h1
  · exact h1
  · have := vr_le h1; omega

/-! ## words -/
def sg (b : Nat) : Bool := b / 2 ^ 63 % 2 == 1
def rg (b : Nat) : Nat := b % 2 ^ 63
/-- What a word that is no NaN stands for, in units of 2 ^ -1074; an infinity as the next number would be. -/
def sv (b : Nat) : Int := if sg b then -(vr (rg b) : Int) else vr (rg b)

theorem sg_word (s : Bool) (x : Nat) (h : x < 2 ^ 63) : sg (double.word s x) = s := by
  unfold sg Format.word
  rw [sign_eq]
  cases s
  · have e : x / 2 ^ 63 = 0 := Nat.div_eq_of_lt h
    simp [e]
  · have e : (2 ^ 63 + x) / 2 ^ 63 = 1 := by omega
    simp only [if_true, e]; decide
theorem rg_word (s : Bool) (x : Nat) (h : x < 2 ^ 63) : rg (double.word s x) = x := by
  unfold rg Format.word
  rw [sign_eq]
  cases s
  · simp only [Bool.false_eq_true, if_false]; omega
  · simp only [if_true]; omega
theorem infR_lt : infR < 2 ^ 63 := by decide

theorem read_num (b : Nat) (h : rg b < infR) : ∃ m j : Nat, double.read b = .number (sg b) m ((j : Int) - 1074) ∧ m * 2 ^ j = vr (rg b) := by
  unfold Format.read
  simp only [sign_eq, binade_eq, infR_eq, least_eq]
  unfold rg at h
  by_cases h1 : b % 2 ^ 63 < 2 ^ 52
  · rw [if_pos h1]
    refine ⟨b % 2 ^ 63, 0, ?_, ?_⟩
    · simp [sg]
    · unfold vr rg; rw [if_pos h1]; simp
  · rw [if_neg h1, if_pos h]
    refine ⟨2 ^ 52 + b % 2 ^ 63 % 2 ^ 52, b % 2 ^ 63 / 2 ^ 52 - 1, ?_, ?_⟩
    · have e : (-1074 + ((b % 2 ^ 63 / 2 ^ 52 - 1 : Nat) : Int)) = ((b % 2 ^ 63 / 2 ^ 52 - 1 : Nat) : Int) - 1074 := by omega
      rw [e]; rfl
    · unfold vr rg; rw [if_neg h1]

theorem read_inf (b : Nat) (h : rg b = infR) : double.read b = .infinity (sg b) := by
  unfold Format.read
  simp only [sign_eq, binade_eq, infR_eq, least_eq]
  unfold rg at h
  rw [h]
  rw [if_neg (by decide), if_neg (by decide), if_pos rfl]
  rfl

theorem read_nan (b : Nat) (h : infR < rg b) : double.read b = .nan (sg b) (rg b - infR) := by
  unfold Format.read
  simp only [sign_eq, binade_eq, infR_eq, least_eq]
  unfold rg at h ⊢
  have h0 : (2 : Nat) ^ 52 < infR := by decide
  rw [if_neg (by omega), if_neg (by omega), if_neg (by omega)]
  rfl

theorem cmp_eq (a b : Int) : compare a b = if a < b then .lt else if a = b then .eq else .gt := rfl

theorem cmp_scale (a b : Int) (k : Nat) (hk : 0 < k) : compare (a * k) (b * k) = compare a b := by
  have hk' : (0 : Int) < k := by omega
  rw [cmp_eq, cmp_eq]
  have e1 : a * k < b * k ↔ a < b := Int.mul_lt_mul_right hk'
  have e2 : a * k = b * k ↔ a = b := Int.mul_eq_mul_right_iff (by omega)
  simp only [e1, e2]

theorem signed_eq (s : Bool) (m u : Nat) : signed s m u = if s then -((m * 2 ^ u : Nat) : Int) else ((m * 2 ^ u : Nat) : Int) := by
  unfold signed; rw [Nat.shiftLeft_eq]

theorem signed_scale (s : Bool) (m u k : Nat) : signed s m u * ((2 ^ k : Nat) : Int) = signed s m (u + k) := by
  rw [signed_eq, signed_eq, Nat.pow_add, ← Nat.mul_assoc]
  cases s
  · simp only [Bool.false_eq_true, if_false]; push_cast; rfl
  · simp only [if_true]; push_cast; rw [Int.neg_mul]

theorem signed_sv (b m j : Nat) (h : m * 2 ^ j = vr (rg b)) : signed (sg b) m j = sv b := by
  rw [signed_eq, h]; rfl

theorem order_eq (b c : Nat) (hb : rg b ≤ infR) (hc : rg c ≤ infR) : double.order b c = some (compare (sv b) (sv c)) := by
  unfold Format.order
  have lt_inf : ∀ x, rg x < infR → vr (rg x) < vr infR := fun x h => vr_lt h
  rcases Nat.lt_or_eq_of_le hb with hb | hb <;> rcases Nat.lt_or_eq_of_le hc with hc | hc
  · obtain ⟨m, i, e1, f1⟩ := read_num b hb
    obtain ⟨n, j, e2, f2⟩ := read_num c hc
    rw [e1, e2]
    simp only [Datum.order]
    congr 1
    have hmin : min ((i : Int) - 1074) ((j : Int) - 1074) = ((min i j : Nat) : Int) - 1074 := by omega
    rw [hmin]
    have t1 : ((i : Int) - 1074 - (((min i j : Nat) : Int) - 1074)).toNat = i - min i j := by omega
    have t2 : ((j : Int) - 1074 - (((min i j : Nat) : Int) - 1074)).toNat = j - min i j := by omega
    rw [t1, t2, ← cmp_scale _ _ (2 ^ min i j) (p2 _), signed_scale, signed_scale]
    have t3 : i - min i j + min i j = i := by omega
    have t4 : j - min i j + min i j = j := by omega
    rw [t3, t4, signed_sv b m i f1, signed_sv c n j f2]
  · obtain ⟨m, i, e1, f1⟩ := read_num b hb
    have h1 := lt_inf b hb
    rw [e1, read_inf c hc]
    simp only [Datum.order]
    unfold sv
    rw [hc]
    generalize vr (rg b) = x at *
    generalize vr infR = y at *
    rw [cmp_eq]
    congr 1
    cases sg b <;> cases sg c <;> simp only [if_true, if_false, Bool.false_eq_true]
    all_goals first | (rw [if_pos (by omega)]) | (rw [if_neg (by omega), if_neg (by omega)])
  · obtain ⟨n, j, e2, f2⟩ := read_num c hc
    have h1 := lt_inf c hc
    rw [e2, read_inf b hb]
    simp only [Datum.order]
    unfold sv
    rw [hb]
    generalize vr (rg c) = x at *
    generalize vr infR = y at *
    rw [cmp_eq]
    congr 1
    cases sg b <;> cases sg c <;> simp only [if_true, if_false, Bool.false_eq_true]
    all_goals first | (rw [if_pos (by omega)]) | (rw [if_neg (by omega), if_neg (by omega)])
  · rw [read_inf b hb, read_inf c hc]
    simp only [Datum.order]
    unfold sv
    rw [hb, hc]
    have h1 : 0 < vr infR := vr_pos
    generalize vr infR = y at *
    congr 1
    rw [cmp_eq]
    cases sg b <;> cases sg c <;> simp only [if_true, if_false, Bool.false_eq_true]
    · rw [if_neg (by omega)]; rfl
    · rw [if_neg (by omega), if_neg (by omega)]; rfl
    · rw [if_pos (by omega)]; rfl
    · rw [if_neg (by omega)]; rfl

theorem order_nan_l (b c : Nat) (hb : infR < rg b) : double.order b c = none := by
  unfold Format.order; rw [read_nan b hb]; rfl
theorem order_nan_r (b c : Nat) (hc : infR < rg c) : double.order b c = none := by
  unfold Format.order; rw [read_nan c hc]; cases double.read b <;> rfl

def tenBits : Nat := 4621819117588971520
theorem read_ten : double.read tenBits = .number false (5 * 2 ^ 50) (-49) := by decide

/-- What a number is when it is multiplied by 10 and rounded. -/
def tr (x : Nat) : Nat := min (rung (10 * x) 0) infR
def TZ (z : Int) : Int := if z < 0 then -(vr (tr z.natAbs) : Int) else vr (tr z.natAbs)

theorem tr_le (x : Nat) : tr x ≤ infR := Nat.min_le_right _ _
theorem tr_mono {x y : Nat} (h : x ≤ y) : tr x ≤ tr y := by
  unfold tr
  have := rung_mono 0 (Nat.mul_le_mul_left 10 h)
  omega

theorem mul_ten (b : Nat) (hb : rg b ≤ infR) : double.mul b tenBits = some (double.word (sg b) (tr (vr (rg b)))) := by
  unfold Format.mul
  rcases Nat.lt_or_eq_of_le hb with hb | hb
  · obtain ⟨m, i, e1, f1⟩ := read_num b hb
    rw [e1, read_ten]
    simp only [Datum.product, Option.map_some, Format.write, Bool.xor_false]
    congr 1
    rw [nearest_eq (sg b) _ _ i 49 (by omega)]
    unfold tr
    rw [← f1]
    have e : m * (5 * 2 ^ 50) * 2 ^ i = 10 * (m * 2 ^ i) * 2 ^ 49 := by
      have : (2 : Nat) ^ 50 = 2 * 2 ^ 49 := by decide
      rw [this]
      generalize 2 ^ i = x
      generalize (2 : Nat) ^ 49 = y
      have e10 : (10 : Nat) = 5 * 2 := rfl
      rw [e10]
      simp only [Nat.mul_comm, Nat.mul_left_comm, Nat.mul_assoc]
    have e2 := rung_scale (10 * (m * 2 ^ i)) 49 0
    rw [Nat.zero_add] at e2
    rw [e, e2]
  · rw [read_inf b hb, read_ten]
    have : tr (vr (rg b)) = infR := by
      unfold tr
      have h1 := rung_mono 0 (show vr (rg b) ≤ 10 * vr (rg b) by omega)
      rw [rung_vr, hb] at h1
      rw [hb]; omega
    rw [this]
    simp only [Datum.product]
    rw [if_neg (by decide)]
    simp [Format.write, infR_eq]

theorem mul_ten_nan (b : Nat) (hb : infR < rg b) : double.mul b tenBits = none := by
  unfold Format.mul; rw [read_nan b hb]; rfl

theorem sv_word (s : Bool) (x : Nat) (h : x < 2 ^ 63) : sv (double.word s x) = if s then -(vr x : Int) else vr x := by
  unfold sv; rw [sg_word s x h, rg_word s x h]

theorem tr_lt (x : Nat) : tr x < 2 ^ 63 := Nat.lt_of_le_of_lt (tr_le x) infR_lt

theorem tr_zero : tr 0 = 0 := by decide

theorem vr_zero : vr 0 = 0 := by decide

theorem sv_mul (b : Nat) : sv (double.word (sg b) (tr (vr (rg b)))) = TZ (sv b) := by
  rw [sv_word _ _ (tr_lt _)]
  unfold TZ sv
  cases hs : sg b
  · simp only [Bool.false_eq_true, if_false]
    rw [if_neg (by omega), Int.natAbs_natCast]
  · simp only [if_true]
    by_cases h0 : vr (rg b) = 0
    · simp [h0, tr_zero, vr_zero]
    · rw [if_pos (by omega)]
      have : (-(vr (rg b) : Int)).natAbs = vr (rg b) := by omega
      rw [this]

theorem TZ_mono {x y : Int} (h : x ≤ y) : TZ x ≤ TZ y := by
  unfold TZ
  by_cases hx : x < 0 <;> by_cases hy : y < 0
  · rw [if_pos hx, if_pos hy]
    have := vr_le (tr_mono (show y.natAbs ≤ x.natAbs by omega))
    omega
  · rw [if_pos hx, if_neg hy]; omega
  · omega
  · rw [if_neg hx, if_neg hy]
    have := vr_le (tr_mono (show x.natAbs ≤ y.natAbs by omega))
    omega

/-- One, in units of 2 ^ -1074. -/
@[irreducible] def ee : Nat := 1074
theorem ee_eq : ee = 1074 := by unfold ee; rfl
@[irreducible] def U : Nat := 2 ^ ee
theorem U_eq : U = 2 ^ ee := by unfold U; rfl
theorem U_pos : 0 < U := by rw [U_eq]; exact p2 ee

/-- The least whole number that is not below z units. -/
def ceilZ (z : Int) : Int := -((-z) / (U : Int))

theorem whole_part (m i : Nat) : m <<< ((i : Int) - 1074).toNat / 2 ^ (-((i : Int) - 1074)).toNat = m * 2 ^ i / U ∧ (m <<< ((i : Int) - 1074).toNat % 2 ^ (-((i : Int) - 1074)).toNat = 0 ↔ m * 2 ^ i % U = 0) := by
  rw [Nat.shiftLeft_eq]
  have hee := ee_eq
  rcases Nat.le_total ee i with h | h
  · have e1 : ((i : Int) - 1074).toNat = i - ee := by omega
    have e2 : (-((i : Int) - 1074)).toNat = 0 := by omega
    have e3 : m * 2 ^ i = m * 2 ^ (i - ee) * U := by
      have : i = i - ee + ee := by omega
      rw [U_eq, Nat.mul_assoc, ← Nat.pow_add, ← this]
    rw [e1, e2, e3, Nat.pow_zero, Nat.div_one, Nat.mod_one, Nat.mul_div_cancel _ U_pos, Nat.mul_mod_left]
    simp
  · have e1 : ((i : Int) - 1074).toNat = 0 := by omega
    have e2 : (-((i : Int) - 1074)).toNat = ee - i := by omega
    have e3 := mul_pow_div m (ee - i) i
    have e4 := mul_pow_mod m (ee - i) i
    have e5 : ee - i + i = ee := by omega
    rw [e5, ← U_eq] at e3 e4
    rw [e1, e2, Nat.pow_zero, Nat.mul_one, e3, e4]
    refine ⟨rfl, ?_⟩
    have := p2 i
    constructor
    · intro h; rw [h, Nat.zero_mul]
    · intro h
      rcases Nat.mul_eq_zero.1 h with h | h
      · exact h
      · omega

/-- How great it is when it is rounded up. -/
def upN (s : Bool) (x : Nat) : Nat := x / U + (if s = false ∧ x % U ≠ 0 then 1 else 0)

theorem read_up (b : Nat) (h : rg b < infR) : (double.read b).integral .up = .number (sg b) (upN (sg b) (vr (rg b))) 0 := by
  obtain ⟨m, i, e, f⟩ := read_num b h
  rw [e]
  simp only [Datum.integral, cut_up]
  obtain ⟨h1, h2⟩ := whole_part m i
  rw [h1, f]
  unfold upN
  rw [f] at h2
  simp only [ne_eq, h2]

theorem read_zero (b : Nat) (h : rg b < infR) : (double.read b).toInt .zero = some (if sg b then -((vr (rg b) / U : Nat) : Int) else ((vr (rg b) / U : Nat) : Int)) := by
  obtain ⟨m, i, e, f⟩ := read_num b h
  rw [e]
  simp only [Datum.toInt, Datum.integral, cut_zero]
  obtain ⟨h1, h2⟩ := whole_part m i
  rw [h1, f, signed_eq, Nat.pow_zero, Nat.mul_one]

theorem nearest_whole (s : Bool) (C : Nat) (h : C < 2 ^ 53) : rg (double.nearest s C 0) < infR ∧ sg (double.nearest s C 0) = s ∧ vr (rg (double.nearest s C 0)) = C * U := by
  rw [nearest_eq s C 0 ee 0 (by have := ee_eq; omega)]
  have e := vr_rung_exact C ee h
  rw [← U_eq] at e ⊢
  have hlt : rung (C * U) 0 < infR := by
    apply rung_lt_of_vr
    rw [e]
    have h1 : C * U < 2 ^ 53 * U := Nat.mul_lt_mul_of_pos_right h U_pos
    rw [U_eq, ← Nat.pow_add] at h1
    rw [U_eq, vr_infR]
    exact Nat.lt_trans h1 (Nat.pow_lt_pow_right (by omega) (by have := ee_eq; have := te_eq; omega))
  have hm : min (rung (C * U) 0) infR = rung (C * U) 0 := Nat.min_eq_left (Nat.le_of_lt hlt)
  have h63 := Nat.lt_trans hlt infR_lt
  rw [hm, rg_word _ _ h63, sg_word _ _ h63, e]
  exact ⟨hlt, rfl, rfl⟩

/-- A float64, rounded up. -/
def upW (b : Nat) : Nat := double.write ((double.read b).integral .up)

theorem ceil_pos (x K : Nat) (hK : 0 < K) : -((-(x : Int)) / (K : Int)) = ((x / K + (if x % K ≠ 0 then 1 else 0) : Nat) : Int) := by
  have e := Nat.div_add_mod x K
  have hm := Nat.mod_lt x hK
  have ez : (x : Int) = (K : Int) * ((x / K : Nat) : Int) + ((x % K : Nat) : Int) := by exact_mod_cast e.symm
  by_cases h0 : x % K = 0
  · rw [if_neg (by simpa using h0)]
    have e2 : (-(x : Int)) = -((x / K : Nat) : Int) * (K : Int) := by
      rw [h0] at ez
      rw [ez, Int.neg_mul, Int.mul_comm]; simp
    rw [e2, Int.mul_ediv_cancel _ (by omega)]
    simp
  · rw [if_pos h0]
    have e2 : (-(x : Int)) = ((K : Int) - ((x % K : Nat) : Int)) + (-(((x / K : Nat) : Int) + 1)) * (K : Int) := by
      rw [ez, Int.neg_mul, Int.add_mul, Int.one_mul, Int.mul_comm ((x / K : Nat) : Int)]
      omega
    rw [e2, Int.add_mul_ediv_right _ _ (by omega), Int.ediv_eq_zero_of_lt (by omega) (by omega)]
    push_cast; omega

theorem ceilZ_eq (s : Bool) (x : Nat) : ceilZ (if s then -(x : Int) else x) = if s then -((upN s x : Nat) : Int) else ((upN s x : Nat) : Int) := by
  unfold ceilZ upN
  cases s
  · simp only [Bool.false_eq_true, if_false, true_and]
    exact ceil_pos x U U_pos
  · simp

theorem up_int (b : Nat) (h : rg b < infR) (hx : vr (rg b) < 2 ^ 40 * U) : (double.read (upW b)).toInt .zero = some (ceilZ (sv b)) := by
  unfold upW
  rw [read_up b h]
  have hU := U_pos
  have hlt : vr (rg b) / U < 2 ^ 40 := (Nat.div_lt_iff_lt_mul hU).2 hx
  have hC : upN (sg b) (vr (rg b)) < 2 ^ 53 := by unfold upN; split <;> omega
  obtain ⟨h1, h2, h3⟩ := nearest_whole (sg b) _ hC
  show (double.read (double.nearest _ _ 0)).toInt .zero = _
  rw [read_zero _ h1, h2, h3, Nat.mul_div_cancel _ hU]
  unfold sv
  rw [ceilZ_eq]

theorem ceilZ_le {x y : Int} (h : x ≤ y) : ceilZ x ≤ ceilZ y := by
  unfold ceilZ
  have hU := U_pos
  have := Int.ediv_le_ediv (c := (U : Int)) (by omega) (show -y ≤ -x by omega)
  omega
theorem ceilZ_mul (n : Int) : ceilZ (n * U) = n := by
  unfold ceilZ
  have hU := U_pos
  rw [← Int.neg_mul, Int.mul_ediv_cancel _ (by omega)]
  omega
/-- A number of units is not above its ceiling, and more than one below it. -/
theorem ceilZ_bd (z : Int) : z ≤ ceilZ z * U ∧ (ceilZ z - 1) * U < z := by
  unfold ceilZ
  have hU := U_pos
  have h1 := Int.mul_ediv_add_emod (-z) U
  have h2 := Int.emod_nonneg (-z) (b := (U : Int)) (by omega)
  have h3 := Int.emod_lt_of_pos (-z) (b := (U : Int)) (by omega)
  have e1 : -(-z / (U : Int)) * (U : Int) = -((U : Int) * (-z / (U : Int))) := by rw [Int.neg_mul, Int.mul_comm]
  have e2 : (-(-z / (U : Int)) - 1) * (U : Int) = -((U : Int) * (-z / (U : Int))) - U := by rw [Int.sub_mul, Int.neg_mul, Int.one_mul, Int.mul_comm]
  omega

theorem whole_lt_inf (C : Nat) (h : C ≤ 2 ^ 53) : C * U < vr infR := by
  have h1 : C * U ≤ 2 ^ 53 * U := Nat.mul_le_mul_right _ h
  rw [U_eq, ← Nat.pow_add] at h1
  rw [U_eq, vr_infR]
  exact Nat.lt_of_le_of_lt h1 (Nat.pow_lt_pow_right (by omega) (by have := ee_eq; have := te_eq; omega))

/-- A whole number of at most 53 bits, as a float64. -/
theorem ofInt_eq (n : Int) (h : n.natAbs < 2 ^ 53) : rg (double.nearest (decide (n < 0)) n.natAbs 0) < infR ∧ sv (double.nearest (decide (n < 0)) n.natAbs 0) = n * U := by
  obtain ⟨h1, h2, h3⟩ := nearest_whole (decide (n < 0)) n.natAbs h
  refine ⟨h1, ?_⟩
  unfold sv
  rw [h2, h3]
  by_cases hn : n < 0
  · rw [if_pos (by simpa using hn)]
    have : n = -(n.natAbs : Int) := by omega
    rw [Int.natCast_mul, ← Int.neg_mul, ← this]
  · rw [if_neg (by simpa using hn)]
    have : n = (n.natAbs : Int) := by omega
    rw [Int.natCast_mul, ← this]

def topB : Nat := 4787326403894837248
def lowB : Nat := 14010698440749613056
theorem topB_eq : topB = double.nearest (decide ((1099511627776 : Int) < 0)) (1099511627776 : Int).natAbs 0 := by decide +kernel
theorem lowB_eq : lowB = double.nearest (decide ((-1099511627776 : Int) < 0)) (-1099511627776 : Int).natAbs 0 := by decide +kernel
theorem topB_sv : rg topB < infR ∧ sv topB = 1099511627776 * U := by rw [topB_eq]; exact ofInt_eq _ (by decide)
theorem lowB_sv : rg lowB < infR ∧ sv lowB = -1099511627776 * U := by rw [lowB_eq]; exact ofInt_eq _ (by decide)

/-- Within the tenths. -/
def clampT (z : Int) : Int := max (-1099511627776) (min 1099511627776 z)
/-- The tenths of a float64 that is no NaN. -/
def tenths (b : Nat) : Int := clampT (ceilZ (TZ (sv b)))

theorem clampT_bd (z : Int) : -1099511627776 ≤ clampT z ∧ clampT z ≤ 1099511627776 := by unfold clampT; omega
theorem tenths_bd (b : Nat) : -1099511627776 ≤ tenths b ∧ tenths b ≤ 1099511627776 := clampT_bd _
theorem tenths_mono (a b : Nat) (h : sv a ≤ sv b) : tenths a ≤ tenths b := by
  unfold tenths
  have := ceilZ_le (TZ_mono h)
  unfold clampT
  omega

/-- Ten times a float64 that is no NaN. -/
def tenW (b : Nat) : Nat := double.word (sg b) (tr (vr (rg b)))
theorem tenW_rg (b : Nat) : rg (tenW b) = tr (vr (rg b)) := rg_word _ _ (tr_lt _)
theorem tenW_le (b : Nat) : rg (tenW b) ≤ infR := by rw [tenW_rg]; exact tr_le _
theorem tenW_sv (b : Nat) : sv (tenW b) = TZ (sv b) := sv_mul b

theorem cmp_gt (a b : Int) : (some (compare a b) == some Ordering.gt || some (compare a b) == some Ordering.eq) = decide (b ≤ a) := by
  rw [cmp_eq]
  by_cases h1 : a < b
  · rw [if_pos h1]; simp; omega
  · rw [if_neg h1]
    by_cases h2 : a = b
    · rw [if_pos h2]; simp; omega
    · rw [if_neg h2]; simp; omega
theorem cmp_le (a b : Int) : (some (compare a b) == some Ordering.lt || some (compare a b) == some Ordering.eq) = decide (a ≤ b) := by
  rw [cmp_eq]
  by_cases h1 : a < b
  · rw [if_pos h1]; simp; omega
  · rw [if_neg h1]
    by_cases h2 : a = b
    · rw [if_pos h2]; simp; omega
    · rw [if_neg h2]; simp; omega
theorem cmp_lt (a b : Int) : (some (compare a b) == some Ordering.lt) = decide (a < b) := by
  rw [cmp_eq]
  by_cases h1 : a < b
  · rw [if_pos h1]; simp; omega
  · rw [if_neg h1]
    by_cases h2 : a = b
    · rw [if_pos h2]; simp; omega
    · rw [if_neg h2]; simp; omega
theorem cmp_self (a : Int) : (some (compare a a) == some Ordering.eq) = true := by
  rw [cmp_eq, if_neg (by omega), if_pos rfl]; rfl

theorem tenths_hi (b : Nat) (h : sv topB ≤ sv (tenW b)) : tenths b = 1099511627776 := by
  rw [tenW_sv, topB_sv.2] at h
  have := ceilZ_le h
  rw [ceilZ_mul] at this
  unfold tenths clampT; omega
theorem tenths_lo (b : Nat) (h : sv (tenW b) ≤ sv lowB) : tenths b = -1099511627776 := by
  rw [tenW_sv, lowB_sv.2] at h
  have := ceilZ_le h
  rw [ceilZ_mul] at this
  unfold tenths clampT; omega
theorem tenths_mid (b : Nat) (h1 : ¬ sv topB ≤ sv (tenW b)) (h2 : ¬ sv (tenW b) ≤ sv lowB) : rg (tenW b) < infR ∧ (double.read (upW (tenW b))).toInt .zero = some (tenths b) := by
  rw [topB_sv.2] at h1
  rw [lowB_sv.2] at h2
  have hv : vr (rg (tenW b)) < 1099511627776 * U := by
    unfold sv at h1 h2
    cases hs : sg (tenW b) <;> rw [hs] at h1 h2 <;> simp only [Bool.false_eq_true, if_true, if_false] at h1 h2 <;> omega
  have hr : rg (tenW b) < infR := rung_lt_of_vr (Nat.lt_trans hv (whole_lt_inf _ (by decide)))
  refine ⟨hr, ?_⟩
  rw [up_int _ hr (by simpa using hv)]
  congr 1
  have a1 := ceilZ_le (show sv (tenW b) ≤ 1099511627776 * U by omega)
  have a2 := ceilZ_le (show -1099511627776 * (U : Int) ≤ sv (tenW b) by omega)
  rw [ceilZ_mul] at a1 a2
  unfold tenths clampT
  rw [← tenW_sv]
  omega
end Hf
