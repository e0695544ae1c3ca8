/- There and back in plain whole numbers (layer 1): a tenth's float64 has that tenth, and what is up to 0.04 more or less has the next one, or the same; for every whole number of at most 31 bits. -/
import Derived.Test.YtigohcfedmefbaaDoorQuo
namespace Hf
open Ieee

theorem l_le (a0 q l : Nat) (ha : a0 ≤ 2 ^ 31) (hq : 2 ^ 52 ≤ q) (h : 10 * (q * 2 ^ l) ≤ a0 * U + 5 * 2 ^ l) : l ≤ 1050 := by
  rcases Nat.lt_or_ge 1050 l with hl | hl
  · exfalso
    have hee := ee_eq
    have u1 : a0 * U ≤ 2 ^ 31 * U := Nat.mul_le_mul_right U ha
    have q52 := Nat.mul_le_mul_right (2 ^ l) hq
    have u2 : 2 ^ 31 * U ≤ 2 ^ 54 * 2 ^ l := by
      rw [U_eq, ← Nat.pow_add, ← Nat.pow_add]; exact Nat.pow_le_pow_right (by omega) (by omega)
    have hp := p2 l
    generalize a0 * U = x at *
    generalize q * 2 ^ l = z at *
    generalize (2 : Nat) ^ l = u at *
    omega
  · exact hl

/-- Ten times it, rounded, is the whole number. -/
theorem back_exact (a0 q l : Nat) (ha : a0 ≤ 2 ^ 31) (hq : 2 ^ 52 ≤ q) (hq2 : q ≤ 2 ^ 53) (h1 : 10 * (q * 2 ^ l) ≤ a0 * U + 5 * 2 ^ l) (h2 : a0 * U ≤ 10 * (q * 2 ^ l) + 5 * 2 ^ l) :
    RN (10 * (q * 2 ^ l)) = a0 * U := by
  have hl := l_le a0 q l ha hq h1
  have hee := ee_eq
  have hp := p2 l
  have e1 : a0 * U = (16 * (a0 * 2 ^ (1070 - l))) * 2 ^ l := by
    rw [U_eq, show (16 : Nat) = 2 ^ 4 from rfl, ← Nat.mul_assoc, Nat.mul_comm (2 ^ 4) a0, Nat.mul_assoc, Nat.mul_assoc, ← Nat.pow_add, ← Nat.pow_add]
    congr 2; omega
  have e2 : 10 * (q * 2 ^ l) = (10 * q) * 2 ^ l := (Nat.mul_assoc ..).symm
  rw [e1, e2] at h1 h2
  rw [e1, e2]
  generalize a0 * 2 ^ (1070 - l) = w at *
  rw [← Nat.add_mul] at h1 h2
  have h1' := Nat.le_of_mul_le_mul_right h1 hp
  have h2' := Nat.le_of_mul_le_mul_right h2 hp
  have hv := vr_ten (10 * q) l
  have hgone : gone (10 * q) = 3 ∨ gone (10 * q) = 4 := by
    have a1 : 55 ≤ (10 * q).log2 := (Nat.le_log2 (by omega)).2 (by omega)
    have a2 : (10 * q).log2 < 57 := (Nat.log2_lt (by omega)).2 (by omega)
    unfold gone; omega
  have hval : rne (10 * q) (gone (10 * q)) * 2 ^ (gone (10 * q) + l) = 16 * w * 2 ^ l := by
    rw [Nat.pow_add, ← Nat.mul_assoc]
    congr 1
    rcases hgone with hg | hg
    · rw [hg]
      unfold rne
      have e8 : (2 : Nat) ^ 3 = 8 := rfl
      rw [e8]
      split
      · rename_i c; rcases c with c | ⟨c, d⟩ <;> omega
      · rename_i c
        have c1 : ¬ 8 < 2 * (10 * q % 8) := fun x => c (Or.inl x)
        have c2 : 8 = 2 * (10 * q % 8) → ¬ 10 * q / 8 % 2 = 1 := fun x y => c (Or.inr ⟨x, y⟩)
        by_cases c3 : 8 = 2 * (10 * q % 8)
        · have := c2 c3; omega
        · omega
    · rw [hg]
      unfold rne
      have e16 : (2 : Nat) ^ 4 = 16 := rfl
      rw [e16]
      split
      · rename_i c; rcases c with c | ⟨c, d⟩ <;> omega
      · rename_i c
        have c1 : ¬ 16 < 2 * (10 * q % 16) := fun x => c (Or.inl x)
        omega
  unfold RN
  rw [hval] at hv
  have hlt : rung (10 * q * 2 ^ l) 0 < infR := by
    apply rung_lt_of_vr
    rw [hv, ← e1, vr_infR]
    have u1 : a0 * U ≤ 2 ^ 31 * U := Nat.mul_le_mul_right U ha
    have u2 : 2 ^ 31 * U < 2 ^ te := by rw [U_eq, ← Nat.pow_add]; exact Nat.pow_lt_pow_right (by omega) (by have := te_eq; omega)
    omega
  rw [Nat.min_eq_left (Nat.le_of_lt hlt), hv]

theorem tenths_of_TZ (b : Nat) (n : Int) (h : TZ (sv b) = n * U) (h1 : -1099511627776 ≤ n) (h2 : n ≤ 1099511627776) : tenths b = n := by
  unfold tenths
  rw [h, ceilZ_mul]
  unfold clampT; omega

/-- A tenth's float64. -/
theorem fl_facts (v : Int) (hv : v.natAbs ≤ 2 ^ 31) :
    ∃ f, double.div (double.nearest (decide (v < 0)) v.natAbs 0) tenBits = some f ∧ rg f < infR ∧ tenths f = v ∧ 1024 * (v * G) - G ≤ 10 * sv f ∧ 10 * sv f ≤ 1024 * (v * G) + G := by
  have hG := G_pos
  by_cases h0 : v = 0
  · subst h0
    refine ⟨0, by decide, by decide, ?_, ?_, ?_⟩
    · apply tenths_of_TZ
      · have : sv 0 = 0 := by decide
        rw [this, TZ_RZ, Int.zero_mul]; decide
      · decide
      · decide
    · have : sv 0 = 0 := by decide
      rw [this]; omega
    · have : sv 0 = 0 := by decide
      rw [this]; omega
  · obtain ⟨f, d1, d2, d3, q, l, x1, x2, x3, x4, x5⟩ := div_ten v h0 hv
    refine ⟨f, d1, d2, ?_, ?_⟩
    · apply tenths_of_TZ _ _ _ (by omega) (by omega)
      have e := back_exact v.natAbs q l hv x2 x3 x4 x5
      rw [TZ_RZ]
      unfold sv
      rw [d3, x1]
      have hU := U_pos
      by_cases hn : v < 0
      · have en : v = -(v.natAbs : Int) := by omega
        have hp : 0 < q * 2 ^ l := Nat.mul_pos (by omega) (p2 l)
        rw [decide_eq_true hn]
        simp only [if_true]
        unfold RZ
        rw [if_pos (by omega)]
        have ea : (10 * -((q * 2 ^ l : Nat) : Int)).natAbs = 10 * (q * 2 ^ l) := by omega
        rw [ea, e, Int.natCast_mul, ← Int.neg_mul, ← en]
      · have en : v = (v.natAbs : Int) := by omega
        rw [decide_eq_false hn]
        simp only [Bool.false_eq_true, if_false]
        unfold RZ
        rw [if_neg (by omega)]
        have ea : (10 * ((q * 2 ^ l : Nat) : Int)).natAbs = 10 * (q * 2 ^ l) := by omega
        rw [ea, e, Int.natCast_mul, ← en]
    · have hl := l_le v.natAbs q l hv x2 x4
      have h5 : 5 * 2 ^ l ≤ G := by
        have : 2 ^ (3 + l) ≤ G := by rw [G_eq]; exact Nat.pow_le_pow_right (by omega) (by have := gg_eq; omega)
        rw [Nat.pow_add] at this
        omega
      have eU : v.natAbs * U = 1024 * (v.natAbs * G) := by rw [U_G, ← Nat.mul_assoc, Nat.mul_comm v.natAbs 1024, Nat.mul_assoc]
      rw [eU] at x4 x5
      have ev : ((v.natAbs * G : Nat) : Int) = if v < 0 then -(v * G) else v * G := by
        rw [Int.natCast_mul]
        by_cases hn : v < 0
        · rw [if_pos hn, ← Int.neg_mul]; congr 1; omega
        · rw [if_neg hn]; congr 1; omega
      unfold sv
      rw [d3, x1]
      generalize v * (G : Int) = A at *
      generalize v.natAbs * G = B at *
      generalize q * 2 ^ l = z at *
      generalize (2 : Nat) ^ l = u at *
      by_cases hn : v < 0
      · rw [decide_eq_true hn]; rw [if_pos hn] at ev
        simp only [if_true]; omega
      · rw [decide_eq_false hn]; rw [if_neg hn] at ev
        simp only [Bool.false_eq_true, if_false]; omega

/-- A number of hundredths, as a float64. -/
def hunW (k : Int) : Nat :=
  if k = -4 then 13809297465413604475
  else if k = -3 then 13807676169547751096
  else if k = -2 then 13804793865786233979
  else if k = -1 then 13800290266158863483
  else if k = 1 then 4576918229304087675
  else if k = 2 then 4581421828931458171
  else if k = 3 then 4584304132692975288
  else if k = 4 then 4585925428558828667
  else 0
def hunBits : Nat := 4636737291354636288
theorem hun_facts (k : Int) (h1 : -4 ≤ k) (h2 : k ≤ 4) :
    double.div (double.nearest (decide (k < 0)) k.natAbs 0) hunBits = some (hunW k) ∧ rg (hunW k) < infR ∧ 1024 * (k * G) - G ≤ 100 * sv (hunW k) ∧ 100 * sv (hunW k) ≤ 1024 * (k * G) + G := by
  have : k = -4 ∨ k = -3 ∨ k = -2 ∨ k = -1 ∨ k = 0 ∨ k = 1 ∨ k = 2 ∨ k = 3 ∨ k = 4 := by omega
  rw [G_eq, gg_eq]
  rcases this with rfl | rfl | rfl | rfl | rfl | rfl | rfl | rfl | rfl
  all_goals exact ⟨by decide +kernel, by decide +kernel, by decide +kernel, by decide +kernel⟩

theorem RZ_self (f : Nat) (h : rg f < infR) : RZ (sv f) = sv f := by
  have e : (sv f).natAbs = vr (rg f) := by
    unfold sv
    cases sg f
    · simp only [Bool.false_eq_true, if_false, Int.natAbs_natCast]
    · simp only [if_true, Int.natAbs_neg, Int.natAbs_natCast]
  have e2 : RN (vr (rg f)) = vr (rg f) := by unfold RN; rw [rung_vr, Nat.min_eq_left (Nat.le_of_lt h)]
  unfold RZ
  rw [e, e2]
  unfold sv
  cases sg f
  · simp only [Bool.false_eq_true, if_false]; rw [if_neg (by omega)]
  · simp only [if_true]
    by_cases h0 : vr (rg f) = 0
    · rw [h0]; rfl
    · rw [if_pos (by omega)]

/-- Some hundredths more or less. -/
theorem more_facts (v : Int) (hv : v.natAbs ≤ 2 ^ 31) (k : Int) (k1 : -4 ≤ k) (k2 : k ≤ 4) (f y : Nat) (hf : rg f < infR) (ht : tenths f = v) (x1 : 1024 * (v * G) - G ≤ 10 * sv f) (x2 : 10 * sv f ≤ 1024 * (v * G) + G)
    (hy : sv y = RZ (sv f + sv (hunW k))) : tenths y = if 0 < k then v + 1 else v := by
  obtain ⟨-, -, d1, d2⟩ := hun_facts k k1 k2
  have hG := G_pos
  have hGI : (0 : Int) < G := by omega
  have vb1 : -2147483648 * (G : Int) ≤ v * G := Int.mul_le_mul_of_nonneg_right (by omega) (by omega)
  have vb2 : v * (G : Int) ≤ 2147483648 * G := Int.mul_le_mul_of_nonneg_right (by omega) (by omega)
  have kb1 : -4 * (G : Int) ≤ k * G := Int.mul_le_mul_of_nonneg_right (by omega) (by omega)
  have kb2 : k * (G : Int) ≤ 4 * G := Int.mul_le_mul_of_nonneg_right (by omega) (by omega)
  by_cases h0 : k = 0
  · subst h0
    have e0 : sv (hunW 0) = 0 := by decide
    rw [e0, Int.add_zero, RZ_self f hf] at hy
    rw [if_neg (by omega), ← ht]
    have a := tenths_mono y f (by omega)
    have b := tenths_mono f y (by omega)
    omega
  · obtain ⟨n1, n2⟩ := RZ_near (sv f + sv (hunW k)) (by omega) (by omega)
    rw [← hy] at n1 n2
    have U1 : (U : Int) = 1024 * G := by rw [U_G, Int.natCast_mul]; rfl
    have e1 : TZ (sv y) = RZ (10 * sv y) := TZ_RZ _
    have g0 := RZ_grid (1024 * v) (by omega)
    have g1 := RZ_grid (1024 * v + 1024) (by omega)
    have g2 := RZ_grid (1024 * v + 64) (by omega)
    have g3 := RZ_grid (1024 * v - 960) (by omega)
    have s0 : 1024 * v * (G : Int) = 1024 * (v * G) := Int.mul_assoc ..
    have s1 : (1024 * v + 1024) * (G : Int) = 1024 * (v * G) + 1024 * G := by rw [Int.add_mul, s0]
    have s2 : (1024 * v + 64) * (G : Int) = 1024 * (v * G) + 64 * G := by rw [Int.add_mul, s0]
    have s3 : (1024 * v - 960) * (G : Int) = 1024 * (v * G) - 960 * G := by rw [Int.sub_mul, s0]
    rw [s0] at g0
    rw [s1] at g1
    rw [s2] at g2
    rw [s3] at g3
    have cb := ceilZ_bd (TZ (sv y))
    have w0 := ceilZ_mul v
    have w1 := ceilZ_mul (v + 1)
    have c1 : v * (U : Int) = 1024 * (v * G) := by rw [U1, ← Int.mul_assoc, Int.mul_comm v 1024, Int.mul_assoc]
    have c2 : (v + 1) * (U : Int) = 1024 * (v * G) + 1024 * G := by rw [Int.add_mul, c1, U1, Int.one_mul]
    have c3 : (v - 1) * (U : Int) = 1024 * (v * G) - 1024 * G := by rw [Int.sub_mul, c1, U1, Int.one_mul]
    rw [c1] at w0
    rw [c2] at w1
    by_cases hk : 0 < k
    · rw [if_pos hk]
      have kb3 : 1 * (G : Int) ≤ k * G := Int.mul_le_mul_of_nonneg_right (by omega) (by omega)
      have m1 := RZ_mono (show 10 * sv y ≤ 1024 * (v * G) + 1024 * G by omega)
      have m2 := RZ_mono (show 1024 * (v * G) + 64 * G ≤ 10 * sv y by omega)
      rw [g1] at m1
      rw [g2] at m2
      rw [← e1] at m1 m2
      have q1 := ceilZ_le m1
      rw [w1] at q1
      have q2 : v < ceilZ (TZ (sv y)) := by
        have : v * (U : Int) < ceilZ (TZ (sv y)) * U := by rw [c1]; omega
        exact Int.lt_of_mul_lt_mul_right this (by omega)
      unfold tenths clampT
      omega
    · rw [if_neg hk]
      have kb3 : k * (G : Int) ≤ -1 * G := Int.mul_le_mul_of_nonneg_right (by omega) (by omega)
      have m1 := RZ_mono (show 10 * sv y ≤ 1024 * (v * G) by omega)
      have m2 := RZ_mono (show 1024 * (v * G) - 960 * G ≤ 10 * sv y by omega)
      rw [g0] at m1
      rw [g3] at m2
      rw [← e1] at m1 m2
      have q1 := ceilZ_le m1
      rw [w0] at q1
      have q2 : v - 1 < ceilZ (TZ (sv y)) := by
        have : (v - 1) * (U : Int) < ceilZ (TZ (sv y)) * U := by rw [c3]; omega
        exact Int.lt_of_mul_lt_mul_right this (by omega)
      unfold tenths clampT
      omega
end Hf
