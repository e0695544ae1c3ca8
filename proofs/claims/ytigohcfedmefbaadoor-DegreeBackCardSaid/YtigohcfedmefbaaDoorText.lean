/- Texts of tenths, as lists of bytes: what a tenth's text is, that it is no other tenth's, and what is read of it. -/
import Derived.Lib.ItoaNum
import Derived.Lib.ItoaMem
import Derived.Lib.Atoi
import Derived.ShutString
namespace Hf
open Go

def bs (l : List UInt8) : ByteArray := ⟨l.toArray⟩
theorem bs_append (a b : List UInt8) : bs a ++ bs b = bs (a ++ b) := by
  unfold bs
  ext1
  rw [ByteArray.data_append]
  simp
theorem bs_toList (s : ByteArray) : bs s.data.toList = s := by unfold bs; cases s; simp
theorem toList_bs (l : List UInt8) : (bs l).data.toList = l := by simp [bs]
theorem size_of_list' (l : List UInt8) : (⟨l.toArray⟩ : ByteArray).size = l.length := by
  show l.toArray.size = _; simp
theorem bs_size (l : List UInt8) : (bs l).size = l.length := size_of_list' l

/-- A number's figures, a point ahead of the last one. -/
def figL (n : Nat) : List UInt8 := Lib.decDigits (n / 10) ++ [46] ++ Lib.decDigits (n % 10)
/-- A tenth's text. -/
def textL (t : Int) : List UInt8 := if t < 0 then 45 :: figL t.natAbs else figL t.natAbs
def IsT (t : Int) : Prop := -1099511627776 ≤ t ∧ t ≤ 1099511627776

theorem nDigits_le12 (n : Nat) (h : n < 1000000000000) : 1 ≤ Lib.nDigits n ∧ Lib.nDigits n ≤ 12 := by
  refine ⟨Lib.nDigits_pos n, ?_⟩
  rcases Nat.lt_or_ge 12 (Lib.nDigits n) with h1 | h1
  · exfalso
    have go : ∀ (k n : Nat), k < Lib.nDigits n → 10 ^ k ≤ n ∨ k = 0 := by
      intro k
      induction k with
      | zero => intro n _; exact Or.inr rfl
      | succ k ih =>
        intro n hn
        left
        by_cases h10 : n < 10
        · rw [Lib.nDigits_small h10] at hn; omega
        · rw [Lib.nDigits_big h10] at hn
          rcases ih (n / 10) (by omega) with h | h
          · rw [Nat.pow_succ]; omega
          · subst h; simp; omega
    rcases go 12 n h1 with h2 | h2
    · have : (10 : Nat) ^ 12 = 1000000000000 := by decide
      omega
    · omega
  · exact h1

theorem figL_len (n : Nat) (h : n ≤ 1099511627776) : 3 ≤ (figL n).length ∧ (figL n).length ≤ 14 := by
  unfold figL
  simp only [List.length_append, List.length_cons, List.length_nil, Lib.decDigits_length]
  have h1 := nDigits_le12 (n / 10) (by omega)
  have h2 : Lib.nDigits (n % 10) = 1 := Lib.nDigits_small (by omega)
  omega
theorem textL_len (t : Int) (h : IsT t) : 3 ≤ (textL t).length ∧ (textL t).length ≤ 15 := by
  obtain ⟨h1, h2⟩ := h
  have := figL_len t.natAbs (by omega)
  unfold textL
  split
  · simp only [List.length_cons]; omega
  · omega

theorem digitVal_mk (d : Nat) (h : d < 10) : Lib.digitVal (UInt8.ofNat (48 + d)) = some d := by
  have : ∀ d : Fin 10, Lib.digitVal (UInt8.ofNat (48 + d.val)) = some d.val := by decide +kernel
  exact this ⟨d, h⟩

theorem decFrom_append (l : List UInt8) : ∀ (acc n : Nat) (m : List UInt8), Lib.decFrom acc l = some n → Lib.decFrom acc (l ++ m) = Lib.decFrom n m := by
  induction l with
  | nil => intro acc n m h; simp [Lib.decFrom] at h; subst h; rfl
  | cons b r ih =>
    intro acc n m h
    simp only [List.cons_append, Lib.decFrom] at h ⊢
    cases hd : Lib.digitVal b with
    | none => simp [hd] at h
    | some d => simp [hd] at h ⊢; exact ih _ _ _ h
theorem decFrom_one (a d : Nat) (h : d < 10) : Lib.decFrom a [UInt8.ofNat (48 + d)] = some (a * 10 + d) := by
  simp only [Lib.decFrom, digitVal_mk d h]
theorem decFrom_digits (n : Nat) : Lib.decFrom 0 (Lib.decDigits n) = some n := by
  induction n using Nat.strongRecOn with
  | ind n ih =>
    by_cases h : n < 10
    · rw [Lib.decDigits_one h, decFrom_one 0 n h]; simp
    · rw [Lib.decDigits, dif_neg h, decFrom_append _ _ _ _ (ih (n / 10) (by omega)), decFrom_one _ _ (by omega)]
      congr 1; omega
theorem digits_ne (n : Nat) : Lib.decDigits n ≠ [] := by
  intro h
  have h1 := Lib.decDigits_length n
  have h2 := Lib.nDigits_pos n
  rw [h] at h1; simp at h1; omega

theorem digits_head (n : Nat) : ∃ b r, Lib.decDigits n = b :: r ∧ b ≠ 45 ∧ b ≠ 43 := by
  cases h : Lib.decDigits n with
  | nil => exact absurd h (digits_ne n)
  | cons b r =>
    refine ⟨b, r, rfl, ?_⟩
    have := decFrom_digits n
    rw [h] at this
    constructor
    · rintro rfl; simp [Lib.decFrom, Lib.digitVal] at this
    · rintro rfl; simp [Lib.decFrom, Lib.digitVal] at this

/-- A text without its last byte but one. -/
def cutPt (l : List UInt8) : List UInt8 := l.take (l.length - 2) ++ l.drop (l.length - 1)

theorem cutPt_fig (a : List UInt8) (c d : UInt8) : cutPt (a ++ [c] ++ [d]) = a ++ [d] := by
  unfold cutPt
  have e1 : (a ++ [c] ++ [d]).length - 2 = a.length := by simp
  have e2 : (a ++ [c] ++ [d]).length - 1 = (a ++ [c]).length := by simp
  rw [e1, e2, List.drop_left, List.append_assoc, List.take_left]

theorem figL_eq (n : Nat) : figL n = Lib.decDigits (n / 10) ++ [46] ++ [UInt8.ofNat (48 + n % 10)] := by
  unfold figL; rw [Lib.decDigits_one (by omega : n % 10 < 10)]

theorem decNat_cut (n : Nat) : Lib.decNat (Lib.decDigits (n / 10) ++ [UInt8.ofNat (48 + n % 10)]) = some n := by
  unfold Lib.decNat
  obtain ⟨b, r, e, -⟩ := digits_head (n / 10)
  rw [if_neg (by rw [e]; simp), decFrom_append _ _ _ _ (decFrom_digits _), decFrom_one _ _ (by omega)]
  congr 1; omega

theorem atoi_cut (t : Int) : Lib.atoi (cutPt (textL t)) = some t := by
  unfold textL
  by_cases h : t < 0
  · rw [if_pos h, figL_eq, ← List.cons_append, ← List.cons_append, cutPt_fig, List.cons_append]
    simp only [Lib.atoi, decNat_cut]
    simp; omega
  · rw [if_neg h, figL_eq, cutPt_fig]
    have h1 := decNat_cut t.natAbs
    obtain ⟨b, r, e, n1, n2⟩ := digits_head (t.natAbs / 10)
    rw [e, List.cons_append] at h1 ⊢
    simp only [Lib.atoi]
    rw [if_neg (by simpa using n1), if_neg (by simpa using n2), h1]
    simp; omega

theorem textL_inj {a b : Int} (h : textL a = textL b) : a = b := by
  have h1 := atoi_cut a
  rw [h, atoi_cut b] at h1
  exact (Option.some.inj h1).symm
theorem dig_size (n : Nat) (h : n < 1000000000000) : (bs (Lib.decDigits n)).size ≤ 12 := by
  rw [bs_size, Lib.decDigits_length]; exact (nDigits_le12 n h).2
theorem fig_size (n : Nat) (h : n ≤ 1099511627776) : (bs (figL n)).size ≤ 14 := by
  rw [bs_size]; exact (figL_len n h).2
theorem size_app (a b : ByteArray) : (a ++ b).size = a.size + b.size := by simp
theorem textL_ne (t : Int) : textL t ≠ [] := by
  intro h
  unfold textL figL at h
  split at h <;> simp at h

/-- The number that a text's digits spell, whatever else is there. -/
def stepN (a : Nat) (b : UInt8) : Nat := if 48 ≤ b.toNat ∧ b.toNat ≤ 57 then 10 * a + (b.toNat - 48) else a
def refN (l : List UInt8) : Nat := l.foldl stepN 0
/-- Is there a minus ahead, of k bytes? -/
def mn (l : List UInt8) (k : Nat) : Bool := decide (0 < k) && decide (l.head? = some 45)
def finN (l : List UInt8) : Int := if mn l l.length then -(refN l : Int) else refN l

theorem refN_snoc (l : List UInt8) (c : UInt8) : refN (l ++ [c]) = stepN (refN l) c := by simp [refN]
theorem take_snoc (s : ByteArray) (k : Nat) (h : k < s.size) : s.data.toList.take (k + 1) = s.data.toList.take k ++ [s[k]] := by
  rw [List.take_succ_eq_append_getElem (by simpa using h)]; rfl
theorem refN_lt (l : List UInt8) : ∀ k, refN (l.take k) < 10 ^ k := by
  intro k
  induction k with
  | zero => simp [refN]
  | succ k ih =>
    by_cases h : k < l.length
    · rw [List.take_succ_eq_append_getElem h, refN_snoc]
      unfold stepN
      rw [Nat.pow_succ]
      split <;> omega
    · rw [List.take_of_length_le (by omega)] at *
      rw [Nat.pow_succ]; omega
theorem refN_bd (l : List UInt8) (k : Nat) (h : k ≤ 15) : refN (l.take k) < 1000000000000000 :=
  Nat.lt_of_lt_of_le (refN_lt l k) (Nat.le_trans (Nat.pow_le_pow_right (by omega) h) (by decide))

theorem fold_digits (n : Nat) : ∀ a, (Lib.decDigits n).foldl stepN a = a * 10 ^ (Lib.decDigits n).length + n := by
  induction n using Nat.strongRecOn with
  | ind n ih =>
    intro a
    have one : ∀ d, d < 10 → ∀ a, stepN a (UInt8.ofNat (48 + d)) = 10 * a + d := by
      intro d hd a
      have e : (UInt8.ofNat (48 + d)).toNat = 48 + d := by simp; omega
      unfold stepN
      rw [e, if_pos (by omega)]; omega
    by_cases h : n < 10
    · rw [Lib.decDigits_one h]
      simp only [List.foldl_cons, List.foldl_nil, List.length_cons, List.length_nil]
      rw [one n h]; omega
    · rw [Lib.decDigits, dif_neg h, List.foldl_append, ih (n / 10) (by omega)]
      simp only [List.foldl_cons, List.foldl_nil, List.length_append, List.length_cons, List.length_nil]
      rw [one _ (by omega), Nat.pow_add, Nat.pow_one, ← Nat.mul_assoc]
      generalize a * 10 ^ (Lib.decDigits (n / 10)).length = x
      omega
theorem fold_fig (n : Nat) : (figL n).foldl stepN 0 = n := by
  unfold figL
  rw [List.foldl_append, List.foldl_append, fold_digits, fold_digits]
  have h1 : (Lib.decDigits (n % 10)).length = 1 := by rw [Lib.decDigits_length, Lib.nDigits_small (by omega)]
  have h2 : ∀ a, [(46 : UInt8)].foldl stepN a = a := by intro a; simp [stepN]
  rw [h1, h2]
  omega
theorem finN_text (t : Int) : finN (textL t) = t := by
  have hl : 0 < (textL t).length := by
    have := textL_ne t
    cases h : textL t with
    | nil => exact absurd h this
    | cons a b => simp
  unfold finN mn
  by_cases h : t < 0
  · have e : textL t = 45 :: figL t.natAbs := by unfold textL; rw [if_pos h]
    have e2 : refN (textL t) = t.natAbs := by
      rw [e]; unfold refN
      rw [List.foldl_cons]
      have : stepN 0 45 = 0 := by decide
      rw [this, fold_fig]
    rw [if_pos (by rw [e]; simp), e2]; omega
  · have e : textL t = figL t.natAbs := by unfold textL; rw [if_neg h]
    have e2 : refN (textL t) = t.natAbs := by
      rw [e]; unfold refN; rw [fold_fig]
    obtain ⟨b, r, e3, n1, -⟩ := digits_head (t.natAbs / 10)
    rw [if_neg, e2]
    · omega
    · rw [e]; unfold figL; rw [e3]; simp [n1]
end Hf
