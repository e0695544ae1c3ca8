/- Float64s as whole numbers of units of 2^-1074, second part: what a whole number divided by 10 is, and what a sum is, rounded; for every whole number of at most 31 bits, and every two words that are numbers. -/
import Derived.Test.YtigohcfedmefbaaDoorRef
namespace Hf
open Ieee

/-- A quotient with a last bit that tells whether anything is left, rounded: not further off than half a unit. -/
theorem div_round (a n D : Nat) (hn : 0 < n) (hD : 2 ≤ D) :
    2 * (rne (2 * (a / n) + (a % n != 0).toNat) D * 2 ^ D * n) ≤ 4 * a + 2 ^ D * n ∧ 4 * a ≤ 2 * (rne (2 * (a / n) + (a % n != 0).toNat) D * 2 ^ D * n) + 2 ^ D * n := by
  have ha := Nat.div_add_mod a n
  have hm := Nat.mod_lt a hn
  by_cases h0 : a % n = 0
  · have e : (a % n != 0).toNat = 0 := by simp [h0]
    rw [e, Nat.add_zero]
    obtain ⟨h1, h2⟩ := rne_err (2 * (a / n)) D
    have h1' := Nat.mul_le_mul_right n h1
    have h2' := Nat.mul_le_mul_right n h2
    have e2 : 2 * (2 * (a / n)) * n = 4 * a := by
      rw [← Nat.mul_assoc 2 2 (a / n), Nat.mul_assoc (2 * 2), Nat.mul_comm (a / n) n]
      omega
    rw [Nat.add_mul, e2, Nat.mul_assoc 2] at h1'
    rw [Nat.add_mul, e2, Nat.mul_assoc 2] at h2'
    exact ⟨h1', h2'⟩
  · have e : (a % n != 0).toNat = 1 := by simp [h0]
    rw [e]
    generalize hQ : a / n = Q at *
    -- an odd number is not half way
    have key : 2 * (rne (2 * Q + 1) D * 2 ^ D) + 2 ≤ 2 * (2 * Q + 1) + 2 ^ D ∧ 2 * (2 * Q + 1) + 2 ≤ 2 * (rne (2 * Q + 1) D * 2 ^ D) + 2 ^ D := by
      have hd := Nat.div_add_mod (2 * Q + 1) (2 ^ D)
      have hl := Nat.mod_lt (2 * Q + 1) (p2 D)
      obtain ⟨c, hc⟩ : ∃ c, 2 ^ D = 4 * c := ⟨2 ^ (D - 2), by
        have : D = (D - 2) + 2 := by omega
        conv => lhs; rw [this, Nat.pow_add]
        omega⟩
      have eq : 2 ^ D * ((2 * Q + 1) / 2 ^ D) = (2 * Q + 1) / 2 ^ D * 2 ^ D := Nat.mul_comm ..
      have odd : (2 * Q + 1) % 2 ^ D % 2 = 1 := by
        rw [hc, show 4 * c = 2 * (2 * c) by omega, Nat.mod_mul_right_mod]; omega
      unfold rne
      split
      · rename_i h
        rw [Nat.add_mul, Nat.one_mul]
        have : 2 ^ D < 2 * ((2 * Q + 1) % 2 ^ D) := by rcases h with h | ⟨h, -⟩ <;> omega
        omega
      · rename_i h
        have : ¬ 2 ^ D < 2 * ((2 * Q + 1) % 2 ^ D) := fun x => h (Or.inl x)
        simp only [Nat.add_zero]
        omega
    obtain ⟨h1, h2⟩ := key
    have h1' := Nat.mul_le_mul_right n h1
    have h2' := Nat.mul_le_mul_right n h2
    simp only [Nat.add_mul, Nat.mul_assoc 2] at h1' h2'
    have e3 : n * Q = Q * n := Nat.mul_comm ..
    generalize rne (2 * Q + 1) D * 2 ^ D * n = R at *
    generalize 2 ^ D * n = S at *
    generalize Q * n = T at *
    omega

theorem read_num2 (b : Nat) (h : rg b < infR) : ∃ m j : Nat, double.read b = .number (sg b) m ((j : Int) - 1074) ∧ m * 2 ^ j = vr (rg b) ∧ m < 2 ^ 53 := by
  unfold Format.read
  simp only [sign_eq, binade_eq, infR_eq, least_eq]
  unfold rg at h
  by_cases h1 : b % 2 ^ 63 < 2 ^ 52
  · rw [if_pos h1]
    refine ⟨b % 2 ^ 63, 0, ?_, ?_, by omega⟩
    · simp [sg]
    · unfold vr rg; rw [if_pos h1]; simp
  · rw [if_neg h1, if_pos h]
    refine ⟨2 ^ 52 + b % 2 ^ 63 % 2 ^ 52, b % 2 ^ 63 / 2 ^ 52 - 1, ?_, ?_, by omega⟩
    · have e : (-1074 + ((b % 2 ^ 63 / 2 ^ 52 - 1 : Nat) : Int)) = ((b % 2 ^ 63 / 2 ^ 52 - 1 : Nat) : Int) - 1074 := by omega
      rw [e]; rfl
    · unfold vr rg; rw [if_neg h1]

theorem log_ten : (5 * 2 ^ 50 : Nat).log2 = 52 := by decide

/-- A whole number that is not 0, divided by 10. -/
theorem div_ten (v : Int) (h0 : v ≠ 0) (hv : v.natAbs ≤ 2 ^ 31) :
    ∃ f, double.div (double.nearest (decide (v < 0)) v.natAbs 0) tenBits = some f ∧ rg f < infR ∧ sg f = decide (v < 0) ∧
      ∃ q l, vr (rg f) = q * 2 ^ l ∧ 2 ^ 52 ≤ q ∧ q ≤ 2 ^ 53 ∧ 10 * (q * 2 ^ l) ≤ v.natAbs * U + 5 * 2 ^ l ∧ v.natAbs * U ≤ 10 * (q * 2 ^ l) + 5 * 2 ^ l := by
  obtain ⟨w1, w2, w3⟩ := nearest_whole (decide (v < 0)) v.natAbs (Nat.lt_of_le_of_lt hv (by decide))
  generalize double.nearest (decide (v < 0)) v.natAbs 0 = b at *
  generalize decide (v < 0) = s at *
  have ha0 : 0 < v.natAbs := by omega
  generalize v.natAbs = a0 at *
  obtain ⟨m, i, e1, e2, hm⟩ := read_num2 b w1
  rw [w3] at e2
  have hU := U_pos
  have hee := ee_eq
  have hm0 : m ≠ 0 := by
    intro h; subst h
    rw [Nat.zero_mul] at e2
    rcases Nat.mul_eq_zero.1 e2.symm with h | h <;> omega
  have hlm : m.log2 ≤ 52 := by have := (Nat.log2_lt hm0).2 hm; omega
  -- the place is high
  have hi : 1022 ≤ i := by
    rcases Nat.lt_or_ge i 1022 with h | h
    · exfalso
      have a1 : m * 2 ^ i < 2 ^ 53 * 2 ^ i := Nat.mul_lt_mul_of_pos_right hm (p2 i)
      have a2 : 2 ^ 53 * 2 ^ i ≤ U := by rw [U_eq, ← Nat.pow_add]; exact Nat.pow_le_pow_right (by omega) (by omega)
      have a3 : 1 * U ≤ a0 * U := Nat.mul_le_mul_right U ha0
      omega
    · exact h
  unfold Format.div
  rw [e1, read_ten]
  simp only [Datum.quotient, Bool.xor_false, w2]
  rw [if_neg (by decide), log_ten, show double.fractionBits + 2 + 52 - m.log2 = 106 - m.log2 from rfl]
  simp only [Option.map_some, Format.write, Nat.shiftLeft_eq]
  have hmore : 54 ≤ 106 - m.log2 := by omega
  have hmore2 : 106 - m.log2 ≤ 106 := by omega
  have hla : (m * 2 ^ (106 - m.log2)).log2 = 106 := by rw [log2_mul_pow _ _ hm0]; omega
  generalize 106 - m.log2 = more at *
  have hap : m * 2 ^ more ≠ 0 := Nat.mul_ne_zero hm0 (by have := p2 more; omega)
  have ha1 : 2 ^ 106 ≤ m * 2 ^ more := (Nat.le_log2 hap).1 (by omega)
  have hr := fun D hD => div_round (m * 2 ^ more) (5 * 2 ^ 50) D (by decide) hD
  have hQ : 2 ^ 54 ≤ 2 * (m * 2 ^ more / (5 * 2 ^ 50)) + (m * 2 ^ more % (5 * 2 ^ 50) != 0).toNat := by
    have : 2 ^ 53 ≤ m * 2 ^ more / (5 * 2 ^ 50) := (Nat.le_div_iff_mul_le (by decide)).2 (Nat.le_trans (by decide) ha1)
    omega
  generalize 2 * (m * 2 ^ more / (5 * 2 ^ 50)) + (m * 2 ^ more % (5 * 2 ^ 50) != 0).toNat = Q at *
  have hlQ : 54 ≤ Q.log2 := (Nat.le_log2 (by omega)).2 hQ
  have hQ0 : Q ≠ 0 := by omega
  rw [nearest_eq s Q _ (i + 48 - more) 0 (by omega)]
  have hl : lastU (Q * 2 ^ (i + 48 - more)) 0 = (Q.log2 - 52) + (i + 48 - more) := by
    unfold lastU; rw [log2_mul_pow _ _ hQ0]; omega
  have hv' := vr_rung (Q * 2 ^ (i + 48 - more)) 0
  rw [hl, rne_shift, Nat.sub_zero] at hv'
  have hq1 : rne Q (Q.log2 - 52) ≤ 2 ^ 53 := by
    have := kept_hi Q 0
    have e : lastU Q 0 = Q.log2 - 52 := by unfold lastU; omega
    rwa [e] at this
  have hq2 : 2 ^ 52 ≤ rne Q (Q.log2 - 52) := by
    have e : lastU Q 0 = Q.log2 - 52 := by unfold lastU; omega
    have := kept_lo Q 0 (by omega)
    rwa [e] at this
  obtain ⟨r1, r2⟩ := hr (Q.log2 - 52) (by omega)
  generalize rne Q (Q.log2 - 52) = q at *
  obtain ⟨D, hD⟩ : ∃ D, D = Q.log2 - 52 := ⟨_, rfl⟩
  rw [← hD] at r1 r2 hv'
  obtain ⟨j, hj⟩ : ∃ j, j = i + 48 - more := ⟨_, rfl⟩
  rw [← hj] at hv' ⊢
  -- in units
  have k1 := Nat.mul_le_mul_right (2 ^ j) r1
  have k2 := Nat.mul_le_mul_right (2 ^ j) r2
  have f1 : 4 * (m * 2 ^ more) * 2 ^ j = a0 * U * 2 ^ 50 := by
    have g1 : 2 ^ more * 2 ^ j = 2 ^ i * 2 ^ 48 := by rw [← Nat.pow_add, ← Nat.pow_add]; congr 1; omega
    have g2 : 4 * (m * 2 ^ more) * 2 ^ j = 4 * (m * (2 ^ more * 2 ^ j)) := by simp only [Nat.mul_assoc]
    rw [g2, g1, ← Nat.mul_assoc m, e2]
    generalize a0 * U = x
    omega
  have f2 : q * 2 ^ D * (5 * 2 ^ 50) * 2 ^ j = 5 * (q * 2 ^ (D + j)) * 2 ^ 50 := by
    rw [Nat.pow_add]
    generalize (2 : Nat) ^ D = x
    generalize (2 : Nat) ^ j = y
    generalize (2 : Nat) ^ 50 = z
    simp only [Nat.mul_comm, Nat.mul_left_comm, Nat.mul_assoc]
  have f3 : 2 ^ D * (5 * 2 ^ 50) * 2 ^ j = 5 * 2 ^ (D + j) * 2 ^ 50 := by
    rw [Nat.pow_add]
    generalize (2 : Nat) ^ D = x
    generalize (2 : Nat) ^ j = y
    generalize (2 : Nat) ^ 50 = z
    simp only [Nat.mul_comm, Nat.mul_left_comm, Nat.mul_assoc]
  rw [Nat.add_mul, f1, f3, Nat.mul_assoc 2, f2] at k1
  rw [Nat.add_mul, f1, f3, Nat.mul_assoc 2, f2] at k2
  have q52 := Nat.mul_le_mul_right (2 ^ (D + j)) hq2
  have hx : vr (rung (Q * 2 ^ j) 0) < vr infR := by
    rw [hv', vr_infR]
    have u1 : a0 * U ≤ 2 ^ 31 * U := Nat.mul_le_mul_right U hv
    have u2 : 2 ^ 31 * U < 2 ^ te := by rw [U_eq, ← Nat.pow_add]; exact Nat.pow_lt_pow_right (by omega) (by have := te_eq; omega)
    generalize a0 * U = x at *
    generalize (2 : Nat) ^ te = y at *
    generalize q * 2 ^ (D + j) = z at *
    generalize (2 : Nat) ^ (D + j) = u at *
    omega
  have hlt := rung_lt_of_vr hx
  have hmin : min (rung (Q * 2 ^ j) 0) infR = rung (Q * 2 ^ j) 0 := Nat.min_eq_left (Nat.le_of_lt hlt)
  have h63 := Nat.lt_trans hlt infR_lt
  rw [hmin]
  refine ⟨_, rfl, by rw [rg_word _ _ h63]; exact hlt, sg_word _ _ h63, q, D + j, by rw [rg_word _ _ h63]; exact hv', hq2, hq1, ?_, ?_⟩
  · generalize a0 * U = x at *
    generalize q * 2 ^ (D + j) = z at *
    generalize (2 : Nat) ^ (D + j) = u at *
    omega
  · generalize a0 * U = x at *
    generalize q * 2 ^ (D + j) = z at *
    generalize (2 : Nat) ^ (D + j) = u at *
    omega

/-- 2^1064: a thousand and twenty-fourth of one. -/
@[irreducible] def gg : Nat := 1064
theorem gg_eq : gg = 1064 := by unfold gg; rfl
@[irreducible] def G : Nat := 2 ^ gg
theorem G_eq : G = 2 ^ gg := by unfold G; rfl
theorem G_pos : 0 < G := by rw [G_eq]; exact p2 gg
theorem U_G : U = 1024 * G := by
  rw [U_eq, G_eq, show (1024 : Nat) = 2 ^ 10 from rfl, ← Nat.pow_add]
  congr 1
  have := ee_eq; have := gg_eq; omega

/-- What is rounded. -/
def RN (N : Nat) : Nat := vr (min (rung N 0) infR)
def RZ (z : Int) : Int := if z < 0 then -(RN z.natAbs : Int) else RN z.natAbs
theorem RN_mono {x y : Nat} (h : x ≤ y) : RN x ≤ RN y := by
  unfold RN
  have := rung_mono 0 h
  exact vr_le (by omega)
theorem RZ_mono {x y : Int} (h : x ≤ y) : RZ x ≤ RZ y := by
  unfold RZ
  by_cases hx : x < 0 <;> by_cases hy : y < 0
  · rw [if_pos hx, if_pos hy]
    have := RN_mono (show y.natAbs ≤ x.natAbs by omega)
    omega
  · rw [if_pos hx, if_neg hy]; omega
  · omega
  · rw [if_neg hx, if_neg hy]
    have := RN_mono (show x.natAbs ≤ y.natAbs by omega)
    omega
theorem TZ_RZ (z : Int) : TZ z = RZ (10 * z) := by
  unfold TZ RZ RN tr
  by_cases h : z < 0
  · rw [if_pos h, if_pos (by omega)]
    have : (10 * z).natAbs = 10 * z.natAbs := by omega
    rw [this]
  · rw [if_neg h, if_neg (by omega)]
    have : (10 * z).natAbs = 10 * z.natAbs := by omega
    rw [this]

/-- A number of at most 53 bits, in thousand and twenty-fourths, is hit. -/
theorem RN_grid (c : Nat) (h : c < 2 ^ 53) : RN (c * G) = c * G := by
  have e := vr_rung_exact c gg h
  rw [← G_eq] at e
  have hlt : rung (c * G) 0 < infR := by
    apply rung_lt_of_vr
    rw [e, vr_infR]
    have h1 : c * G < 2 ^ 53 * G := Nat.mul_lt_mul_of_pos_right h G_pos
    rw [G_eq, ← Nat.pow_add] at h1
    rw [G_eq]
    exact Nat.lt_trans h1 (Nat.pow_lt_pow_right (by omega) (by have := gg_eq; have := te_eq; omega))
  unfold RN
  rw [Nat.min_eq_left (Nat.le_of_lt hlt), e]
theorem RZ_grid (c : Int) (h : c.natAbs < 2 ^ 53) : RZ (c * G) = c * G := by
  unfold RZ
  have hG := G_pos
  have e : (c * (G : Int)).natAbs = c.natAbs * G := by rw [Int.natAbs_mul, Int.natAbs_natCast]
  rw [e, RN_grid _ h]
  by_cases hc : c < 0
  · rw [if_pos (Int.mul_neg_of_neg_of_pos hc (by omega))]
    have : (c.natAbs : Int) = -c := by omega
    rw [Int.natCast_mul, this, Int.neg_mul, Int.neg_neg]
  · rw [if_neg (Int.not_lt.2 (Int.mul_nonneg (by omega) (by omega)))]
    have : (c.natAbs : Int) = c := by omega
    rw [Int.natCast_mul, this]
/-- What is rounded is not further off than a thousand and twenty-fourth. -/
theorem RZ_near (z : Int) (h1 : -4503599627370496 * G ≤ z) (h2 : z ≤ 4503599627370496 * G) : z - G ≤ RZ z ∧ RZ z ≤ z + G := by
  have hG := G_pos
  have e1 := Int.mul_ediv_add_emod z G
  have e2 := Int.emod_nonneg z (b := (G : Int)) (by omega)
  have e3 := Int.emod_lt_of_pos z (b := (G : Int)) (by omega)
  have c1 : -4503599627370496 ≤ z / (G : Int) := Int.le_ediv_of_mul_le (by omega) h1
  have c2 : z / (G : Int) ≤ 4503599627370496 := by
    have := Int.ediv_le_ediv (c := (G : Int)) (by omega) h2
    rwa [Int.mul_ediv_cancel _ (by omega)] at this
  have g1 := RZ_grid (z / (G : Int)) (by omega)
  have g2 := RZ_grid (z / (G : Int) + 1) (by omega)
  have e4 : (G : Int) * (z / (G : Int)) = z / (G : Int) * G := Int.mul_comm ..
  have e5 : (z / (G : Int) + 1) * (G : Int) = z / (G : Int) * G + G := by rw [Int.add_mul, Int.one_mul]
  have m1 := RZ_mono (show z / (G : Int) * G ≤ z by omega)
  have m2 := RZ_mono (show z ≤ (z / (G : Int) + 1) * (G : Int) by omega)
  rw [g1] at m1
  rw [g2, e5] at m2
  omega

/-- A sum. -/
theorem add_eq (b c : Nat) (hb : rg b < infR) (hc : rg c < infR) : ∃ f, double.add b c = some f ∧ rg f ≤ infR ∧ sv f = RZ (sv b + sv c) := by
  obtain ⟨m, i, e1, f1⟩ := read_num b hb
  obtain ⟨n, j, e2, f2⟩ := read_num c hc
  unfold Format.add
  rw [e1, e2]
  simp only [Datum.sum, Option.map_some, Format.write]
  have hmin : min ((i : Int) - 1074) ((j : Int) - 1074) = ((min i j : Nat) : Int) - 1074 := by omega
  rw [hmin]
  have t1 : ((i : Int) - 1074 - (((min i j : Nat) : Int) - 1074)).toNat = i - min i j := by omega
  have t2 : ((j : Int) - 1074 - (((min i j : Nat) : Int) - 1074)).toNat = j - min i j := by omega
  rw [t1, t2]
  have s1 := signed_scale (sg b) m (i - min i j) (min i j)
  have s2 := signed_scale (sg c) n (j - min i j) (min i j)
  have t3 : i - min i j + min i j = i := by omega
  have t4 : j - min i j + min i j = j := by omega
  rw [t3, signed_sv b m i f1] at s1
  rw [t4, signed_sv c n j f2] at s2
  generalize signed (sg b) m (i - min i j) = x at *
  generalize signed (sg c) n (j - min i j) = y at *
  have s3 : (x + y) * ((2 ^ min i j : Nat) : Int) = sv b + sv c := by rw [Int.add_mul, s1, s2]
  have hp := p2 (min i j)
  rw [nearest_eq _ _ _ (min i j) 0 (by omega), ← s3]
  have en : ((x + y) * ((2 ^ min i j : Nat) : Int)).natAbs = (x + y).natAbs * 2 ^ min i j := by rw [Int.natAbs_mul, Int.natAbs_natCast]
  have hle : min (rung ((x + y).natAbs * 2 ^ min i j) 0) infR ≤ infR := Nat.min_le_right _ _
  have h63 := Nat.lt_of_le_of_lt hle infR_lt
  refine ⟨_, rfl, by rw [rg_word _ _ h63]; exact hle, ?_⟩
  rw [sv_word _ _ h63]
  unfold RZ RN
  rw [en]
  by_cases h0 : x + y = 0
  · have r0 : rung 0 0 = 0 := by decide
    rw [h0]
    simp [vr_zero, r0]
  · rw [if_neg h0]
    by_cases hn : x + y < 0
    · rw [if_pos (by simpa using hn), if_pos (Int.mul_neg_of_neg_of_pos hn (by omega))]
    · rw [if_neg (by simpa using hn), if_neg (Int.not_lt.2 (Int.mul_nonneg (by omega) (by omega)))]
end Hf
