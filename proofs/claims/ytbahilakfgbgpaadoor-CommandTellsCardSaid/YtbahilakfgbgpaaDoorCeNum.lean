/- Certificates in plain words: what may be, its bytes, the certificate of bytes; a book's list. No condition but those written. -/
import Derived.Test.YtbahilakfgbgpaaDoorOcBk
import Derived.Test.YtbahilakfgbgpaaDoorCkNum
import Derived.IntWalk
namespace Go.Proofs.YtbahilakfgbgpaaDoor.Ce
open Oc

/-- A certificate. -/
structure Ct where
  id : Int
  order : Int
  lot : Int
  product : Int
  units : Int
  minute : Int
  exposure : Int
  allowance : Int
deriving DecidableEq
def ct0 : Ct := ⟨0, 0, 0, 0, 0, 0, 0, 0⟩
def fld (c : Ct) : List Int := [c.id, c.order, c.lot, c.product, c.units, c.minute, c.exposure, c.allowance]
/-- May a number be? -/
def mayB (n : Int) : Bool := decide (0 ≤ n ∧ n ≤ 4611686018427387904)
def rightB (c : Ct) : Bool := (fld c).all mayB
/-- Its bytes, without their sum. -/
def raw (c : Ct) : List Nat := (fld c).flatMap fun n => be 8 n.toNat
/-- The i-th number of bytes. -/
def num (b : List Nat) (i : Nat) : Int := IntKind.i64.wrap (Oc.val ((b.drop (8 * i)).take 8) : Nat)
def said (b : List Nat) : Ct := ⟨num b 0, num b 1, num b 2, num b 3, num b 4, num b 5, num b 6, num b 7⟩
/-- The certificate of bytes, and the error. -/
def dec (b : List Nat) : Ct × Int := if b.length = 66 then (if Ck.goodB b = true then (if rightB (said b) = true then (said b, 0) else (ct0, 2)) else (ct0, 3)) else (ct0, 2)
theorem mayB_iff {n : Int} : mayB n = true ↔ 0 ≤ n ∧ n ≤ 4611686018427387904 := by unfold mayB; exact decide_eq_true_iff
theorem right_iff {c : Ct} : rightB c = true ↔ ∀ n ∈ fld c, 0 ≤ n ∧ n ≤ 4611686018427387904 := by
  unfold rightB
  rw [List.all_eq_true]
  exact ⟨fun h n hn => mayB_iff.1 (h n hn), fun h n hn => mayB_iff.2 (h n hn)⟩
theorem flat_eight : ∀ (l : List Int), (l.flatMap fun n => be 8 n.toNat).length = 8 * l.length
  | [] => rfl
  | x :: l => by
    rw [List.flatMap_cons, List.length_append, be_length, flat_eight l, List.length_cons]
    omega
theorem raw_length (c : Ct) : (raw c).length = 64 := by
  unfold raw
  rw [flat_eight]
  rfl
theorem raw_lt (c : Ct) : ∀ x ∈ raw c, x < 256 := fun x hx => by
  unfold raw at hx
  obtain ⟨n, _, h⟩ := List.mem_flatMap.1 hx
  exact be_lt 8 _ x h
theorem flat_part : ∀ (l : List Int) (i : Nat) (x : Int) (r : List Nat), l[i]? = some x → (((l.flatMap fun n => be 8 n.toNat) ++ r).drop (8 * i)).take 8 = be 8 x.toNat
  | [], i, x, r, h => by simp at h
  | y :: l, 0, x, r, h => by
    simp only [List.getElem?_cons_zero, Option.some.injEq] at h
    subst h
    rw [List.flatMap_cons, Nat.mul_zero, List.drop_zero, List.append_assoc, List.take_left' (be_length 8 _)]
  | y :: l, i + 1, x, r, h => by
    rw [List.flatMap_cons, List.append_assoc, show 8 * (i + 1) = 8 + 8 * i by omega, ← List.drop_drop, List.drop_left' (be_length 8 _)]
    exact flat_part l i x r (by simpa using h)
theorem num_back {n : Int} (h : 0 ≤ n ∧ n ≤ 4611686018427387904) {b : List Nat} {i : Nat} (hb : (b.drop (8 * i)).take 8 = be 8 n.toNat) : num b i = n := by
  unfold num
  rw [hb, val_be (by omega), IntWalk.i64_in _ (by omega)]
  omega
theorem said_raw {c : Ct} (h : rightB c = true) (r : List Nat) : said (raw c ++ r) = c := by
  have hr := right_iff.1 h
  have key : ∀ (i : Nat) (x : Int), (fld c)[i]? = some x → num (raw c ++ r) i = x := fun i x hx => num_back (hr x (List.mem_of_getElem? hx)) (flat_part (fld c) i x r hx)
  obtain ⟨a0, a1, a2, a3, a4, a5, a6, a7⟩ := c
  unfold said
  rw [key 0 a0 rfl, key 1 a1 rfl, key 2 a2 rfl, key 3 a3 rfl, key 4 a4 rfl, key 5 a5 rfl, key 6 a6 rfl, key 7 a7 rfl]
/-- There: the certificate of a certificate's bytes. -/
theorem dec_tight {c : Ct} (h : rightB c = true) : dec (Ck.tight (raw c)) = (c, 0) := by
  have h1 : said (Ck.tight (raw c)) = c := by rw [Ck.tight_eq]; exact said_raw h _
  unfold dec
  rw [if_pos (by rw [Ck.tight_length, raw_length]), if_pos (Ck.good_tight (raw_lt c)), h1, if_pos h]
theorem valo_shift (l : List Nat) : ∀ u, valo u l = 256 ^ l.length * u + Oc.val l := by
  induction l with
  | nil =>
    intro u
    simp [Oc.val, valo_nil]
  | cons x l ih =>
    intro u
    show valo u (x :: l) = 256 ^ (l.length + 1) * u + valo 0 (x :: l)
    rw [valo_cons, valo_cons, ih, ih (256 * 0 + x), Nat.pow_succ, Nat.mul_add, Nat.mul_zero, Nat.zero_add, ← Nat.mul_assoc]
    omega
theorem be_add (k : Nat) : ∀ x n, be k (256 ^ k * x + n) = be k n := by
  induction k with
  | zero =>
    intro x n
    rfl
  | succ k ih =>
    intro x n
    have e : 256 ^ (k + 1) * x + n = 256 ^ k * (256 * x) + n := by rw [Nat.pow_succ, Nat.mul_assoc]
    rw [be_succ, be_succ, e, ih, Nat.mul_add_div (Nat.pow_pos (by decide))]
    congr 1
    omega
theorem be_val {l : List Nat} (hl : ∀ x ∈ l, x < 256) : be l.length (Oc.val l) = l := by
  induction l with
  | nil => rfl
  | cons x l ih =>
    have hx := hl x List.mem_cons_self
    have hl' : ∀ y ∈ l, y < 256 := fun y hy => hl y (List.mem_cons_of_mem _ hy)
    have hv := val_lt hl'
    have e : Oc.val (x :: l) = 256 ^ l.length * x + Oc.val l := by
      show valo 0 (x :: l) = _
      rw [valo_cons, valo_shift]
      simp
    show be (l.length + 1) (Oc.val (x :: l)) = x :: l
    rw [be_succ, e, be_add, ih hl', Nat.mul_add_div (Nat.pow_pos (by decide)), Nat.div_eq_of_lt hv]
    congr 1
    omega
theorem be_list {l : List Nat} {k : Nat} (hk : l.length = k) (hl : ∀ x ∈ l, x < 256) : be k (Oc.val l) = l := by
  subst hk
  exact be_val hl
theorem get_256 {l : List Nat} (h : ∀ x ∈ l, x < 256) (k : Nat) : l.getD k 0 < 256 := by
  by_cases hk : k < l.length
  · rw [List.getD_eq_getElem?_getD, List.getElem?_eq_getElem hk]
    exact h _ (List.getElem_mem hk)
  · rw [List.getD_eq_getElem?_getD, List.getElem?_eq_none (by omega)]
    decide
theorem tight_good {b : List Nat} {n : Nat} (hn : b.length = n + 2) (hx : ∀ x ∈ b, x < 256) (hg : Ck.goodB b = true) : Ck.tight (b.take n) = b := by
  rw [Ck.good_long hn, decide_eq_true_eq] at hg
  have h1 := get_256 hx n
  have h2 := get_256 hx (n + 1)
  rw [Ck.tight_eq, hg]
  conv => rhs; rw [Ck.split_two hn]
  congr 2
  · omega
  · congr 1
    omega
/-- And back: bytes that are a frame's are its. -/
theorem part_len {b : List Nat} (hb : b.length = 66) {i : Nat} (hi : i < 8) : ((b.drop (8 * i)).take 8).length = 8 := by
  rw [List.length_take, List.length_drop]
  omega
theorem num_be {b : List Nat} (hb : b.length = 66) (hx : ∀ x ∈ b, x < 256) {i : Nat} (hi : i < 8) (h : 0 ≤ num b i ∧ num b i ≤ 4611686018427387904) : be 8 (num b i).toNat = (b.drop (8 * i)).take 8 := by
  have hl := part_len hb hi
  have hp : ∀ x ∈ (b.drop (8 * i)).take 8, x < 256 := fun x hx' => hx x (List.mem_of_mem_drop (List.mem_of_mem_take hx'))
  have hv := val_lt hp
  rw [hl] at hv
  unfold num at h ⊢
  have e : IntKind.i64.wrap (Oc.val ((b.drop (8 * i)).take 8) : Nat) = (Oc.val ((b.drop (8 * i)).take 8) : Nat) := by
    rw [IntKind.wrap_i64] at h ⊢
    omega
  rw [e, Int.toNat_natCast]
  exact be_list hl hp
theorem eight_parts (b : List Nat) : (b.drop (8 * 0)).take 8 ++ ((b.drop (8 * 1)).take 8 ++ ((b.drop (8 * 2)).take 8 ++ ((b.drop (8 * 3)).take 8 ++ ((b.drop (8 * 4)).take 8 ++ ((b.drop (8 * 5)).take 8 ++ ((b.drop (8 * 6)).take 8 ++ (b.drop (8 * 7)).take 8)))))) = b.take 64 := by
  have step : ∀ k, b.take (8 * (k + 1)) = b.take (8 * k) ++ (b.drop (8 * k)).take 8 := fun k => by
    rw [show 8 * (k + 1) = 8 * k + 8 by omega, List.take_add]
  rw [show 64 = 8 * (7 + 1) from rfl, step 7, step 6, step 5, step 4, step 3, step 2, step 1, step 0]
  simp
/-- Back: bytes that are a certificate's are its. -/
theorem dec_back {b : List Nat} (hx : ∀ x ∈ b, x < 256) (h : (dec b).2 = 0) : rightB (dec b).1 = true ∧ Ck.tight (raw (dec b).1) = b := by
  unfold dec at *
  by_cases h1 : b.length = 66
  · rw [if_pos h1] at h ⊢
    by_cases h2 : Ck.goodB b = true
    · rw [if_pos h2] at h ⊢
      by_cases h3 : rightB (said b) = true
      · rw [if_pos h3] at h ⊢
        refine ⟨h3, ?_⟩
        have hr := right_iff.1 h3
        have e : raw (said b) = b.take 64 := by
          have q : ∀ i, i < 8 → num b i ∈ fld (said b) → be 8 (num b i).toNat = (b.drop (8 * i)).take 8 := fun i hi hm => num_be h1 hx hi (hr _ hm)
          rw [← eight_parts b, ← q 0 (by decide) (by simp [fld, said]), ← q 1 (by decide) (by simp [fld, said]), ← q 2 (by decide) (by simp [fld, said]), ← q 3 (by decide) (by simp [fld, said]), ← q 4 (by decide) (by simp [fld, said]), ← q 5 (by decide) (by simp [fld, said]), ← q 6 (by decide) (by simp [fld, said]), ← q 7 (by decide) (by simp [fld, said])]
          simp [raw, fld, said]
        show Ck.tight (raw (said b)) = b
        rw [e]
        exact tight_good h1 hx h2
      · rw [if_neg h3] at h
        cases h
    · rw [if_neg h2] at h
      cases h
  · rw [if_neg h1] at h
    cases h
theorem ext8 {a b c d e f g h a2 b2 c2 d2 e2 f2 g2 h2 : Int} (k : a = a2 ∧ b = b2 ∧ c = c2 ∧ d = d2 ∧ e = e2 ∧ f = f2 ∧ g = g2 ∧ h = h2) : (⟨a, b, c, d, e, f, g, h⟩ : Ct) = ⟨a2, b2, c2, d2, e2, f2, g2, h2⟩ := by
  obtain ⟨rfl, rfl, rfl, rfl, rfl, rfl, rfl, rfl⟩ := k
  rfl
/-- One more is issued: the list, the ID, the error. -/
def issueF (l : List Ct) (c : Ct) : List Ct × Int × Int := if rightB c = true then (l ++ [{ c with id := (l.length : Int) + 1 }], (l.length : Int) + 1, 0) else (l, 0, 1)
/-- The one with an ID. -/
def certF (l : List Ct) (id : Int) : Ct × Int := if 1 ≤ id ∧ id ≤ l.length then ((l[(id - 1).toNat]?).getD ct0, 0) else (ct0, 5)
/-- The IDs of those that are flagged by what is known now. -/
def flagF : List Ct → List Int → List Int
  | c :: l, n :: now => if c.allowance < n then c.id :: flagF l now else flagF l now
  | _, _ => []
/-- A book's list: each that may be, IDs as they come. -/
structure Good (l : List Ct) : Prop where
  id : ∀ (i : Nat) (c : Ct), l[i]? = some c → c.id = (i : Int) + 1
theorem good_nil : Good [] := ⟨fun i c h => by simp at h⟩
theorem Good.issued {l : List Ct} (h : Good l) (c : Ct) : Good (issueF l c).1 := by
  unfold issueF
  split
  · refine ⟨fun i x hx => ?_⟩
    by_cases hi : i < l.length
    · rw [List.getElem?_append_left hi] at hx
      exact h.id i x hx
    · rw [List.getElem?_append_right (by omega)] at hx
      have h0 : i - l.length = 0 := by
        have := (List.getElem?_eq_some_iff.1 hx).1
        simp only [List.length_singleton] at this
        omega
      rw [h0] at hx
      simp only [List.getElem?_cons_zero, Option.some.injEq] at hx
      rw [← hx]
      simp only
      omega
  · exact h
theorem flag_nil (l : List Ct) : flagF l [] = [] := by
  cases l <;> rfl
end Go.Proofs.YtbahilakfgbgpaaDoor.Ce
