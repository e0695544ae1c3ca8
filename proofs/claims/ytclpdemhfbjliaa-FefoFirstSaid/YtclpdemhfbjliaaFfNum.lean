/- Which lots go first, in plain words: an order that keeps ties, what is picked. No condition but those written. -/
import Derived.Test.YtclpdemhfbjliaaLoNum
namespace Go.Proofs.Ytclpdemhfbjliaa.Ff
open Lo

/-- One goes ahead of another one. -/
def bfB (a b : Lt) : Bool := decide (a.expiry < b.expiry ∨ (a.expiry = b.expiry ∧ a.id < b.id))
theorem bf_iff {a b : Lt} : bfB a b = true ↔ a.expiry < b.expiry ∨ (a.expiry = b.expiry ∧ a.id < b.id) := decide_eq_true_iff
theorem bf_no {a b : Lt} : bfB a b = false ↔ b.expiry < a.expiry ∨ (a.expiry = b.expiry ∧ b.id ≤ a.id) := by
  unfold bfB
  rw [decide_eq_false_iff_not]
  omega
theorem bf_irr (a : Lt) : bfB a a = false := bf_no.2 (.inr ⟨rfl, Int.le_refl _⟩)
/-- One more is put in its place, ahead of those that are as good. -/
def ins (x : Lt) : List Lt → List Lt
  | [] => [x]
  | y :: s => if bfB y x = true then y :: ins x s else x :: y :: s
/-- In order; of those that are as good the one ahead in the list first. -/
def isort : List Lt → List Lt
  | [] => []
  | x :: l => ins x (isort l)
theorem ins_mem {x y : Lt} : ∀ {s : List Lt}, y ∈ ins x s ↔ y = x ∨ y ∈ s
  | [] => by simp [ins]
  | z :: s => by
    unfold ins
    split
    · rw [List.mem_cons, ins_mem, List.mem_cons]
      exact ⟨fun h => h.elim (fun h => .inr (.inl h)) (fun h => h.elim .inl (fun h => .inr (.inr h))), fun h => h.elim (fun h => .inr (.inl h)) (fun h => h.elim .inl (fun h => .inr (.inr h)))⟩
    · rw [List.mem_cons]
theorem isort_mem {y : Lt} : ∀ {l : List Lt}, y ∈ isort l ↔ y ∈ l
  | [] => by simp [isort]
  | x :: l => by rw [isort, ins_mem, isort_mem, List.mem_cons]
theorem ins_len (x : Lt) : ∀ s : List Lt, (ins x s).length = s.length + 1
  | [] => rfl
  | y :: s => by
    unfold ins
    split
    · rw [List.length_cons, ins_len x s, List.length_cons]
    · simp
theorem isort_len : ∀ l : List Lt, (isort l).length = l.length
  | [] => rfl
  | x :: l => by rw [isort, ins_len, isort_len l, List.length_cons]
theorem ins_front {x : Lt} : ∀ {s : List Lt}, (∀ y ∈ s, bfB y x = false) → ins x s = x :: s
  | [], _ => rfl
  | y :: s, h => by
    unfold ins
    rw [if_neg (by rw [h y (by simp)]; exact Bool.false_ne_true)]
/-- The one that goes first, and the rest. -/
theorem isort_split {x : Lt} {B : List Lt} (hB : ∀ b ∈ B, bfB b x = false) : ∀ {A : List Lt}, (∀ a ∈ A, bfB x a = true) → isort (A ++ x :: B) = x :: isort (A ++ B)
  | [], _ => by
    rw [List.nil_append, List.nil_append, isort]
    exact ins_front (fun y hy => hB y (isort_mem.1 hy))
  | a :: A, h => by
    rw [List.cons_append, List.cons_append, isort, isort, isort_split hB (fun b hb => h b (List.mem_cons_of_mem _ hb))]
    show (if bfB x a = true then x :: ins a (isort (A ++ B)) else a :: x :: isort (A ++ B)) = x :: ins a (isort (A ++ B))
    rw [if_pos (h a (by simp))]
/-- Of two that stand in the order the one behind doesn't go ahead. -/
def Srt (s : List Lt) : Prop := s.Pairwise fun a b => bfB b a = false
theorem ins_srt {x : Lt} : ∀ {s : List Lt}, Srt s → Srt (ins x s)
  | [], _ => List.pairwise_singleton _ _
  | y :: s, h => by
    obtain ⟨h1, h2⟩ := List.pairwise_cons.1 h
    unfold ins
    by_cases hb : bfB y x = true
    · rw [if_pos hb]
      refine List.pairwise_cons.2 ⟨fun z hz => ?_, ins_srt h2⟩
      rcases ins_mem.1 hz with rfl | hz
      · have := bf_iff.1 hb
        exact bf_no.2 (by omega)
      · exact h1 z hz
    · rw [if_neg hb]
      have hn := bf_no.1 (by simpa using hb)
      refine List.pairwise_cons.2 ⟨fun z hz => ?_, h⟩
      rcases List.mem_cons.1 hz with rfl | hz
      · exact bf_no.2 hn
      · have h3 := bf_no.1 (h1 z hz)
        exact bf_no.2 (by omega)
theorem isort_srt : ∀ l : List Lt, Srt (isort l)
  | [] => List.Pairwise.nil
  | _ :: l => ins_srt (isort_srt l)
theorem ins_perm (x : Lt) : ∀ s : List Lt, (ins x s).Perm (x :: s)
  | [] => List.Perm.refl _
  | y :: s => by
    unfold ins
    split
    · exact ((ins_perm x s).cons y).trans (List.Perm.swap x y s)
    · exact List.Perm.refl _
theorem isort_perm : ∀ l : List Lt, (isort l).Perm l
  | [] => List.Perm.refl _
  | x :: l => (ins_perm x (isort l)).trans ((isort_perm l).cons x)
/-- Those that are not taken. -/
def rem : List Lt → List Bool → List Lt
  | x :: l, b :: t => if b = true then rem l t else x :: rem l t
  | _, _ => []
theorem rem_nil (t : List Bool) : rem [] t = [] := by cases t <;> rfl
theorem rem_app : ∀ {l m : List Lt} {s t : List Bool}, l.length = s.length → rem (l ++ m) (s ++ t) = rem l s ++ rem m t
  | [], m, [], t, _ => by simp [rem_nil]
  | [], m, b :: s, t, h => by simp at h
  | x :: l, m, [], t, h => by simp at h
  | x :: l, m, b :: s, t, h => by
    have h' : l.length = s.length := by simpa using h
    simp only [List.cons_append, rem]
    rw [rem_app h']
    split <;> simp
theorem rem_mem {x : Lt} : ∀ {l : List Lt} {t : List Bool}, x ∈ rem l t → ∃ j : Nat, l[j]? = some x ∧ t[j]? = some false
  | [], t, h => by rw [rem_nil] at h; cases h
  | _ :: l, [], h => by simp [rem] at h
  | y :: l, b :: t, h => by
    unfold rem at h
    by_cases hb : b = true
    · rw [if_pos hb] at h
      obtain ⟨j, h1, h2⟩ := rem_mem h
      exact ⟨j + 1, by simpa using h1, by simpa using h2⟩
    · rw [if_neg hb] at h
      rcases List.mem_cons.1 h with rfl | h
      · exact ⟨0, rfl, by simpa using hb⟩
      · obtain ⟨j, h1, h2⟩ := rem_mem h
        exact ⟨j + 1, by simpa using h1, by simpa using h2⟩
theorem mem_rem {x : Lt} : ∀ {l : List Lt} {t : List Bool} {j : Nat}, l[j]? = some x → t[j]? = some false → x ∈ rem l t
  | [], t, j, h, _ => by simp at h
  | y :: l, [], j, _, h => by simp at h
  | y :: l, b :: t, 0, h1, h2 => by
    simp only [List.getElem?_cons_zero, Option.some.injEq] at h1 h2
    subst h1 h2
    simp [rem]
  | y :: l, b :: t, j + 1, h1, h2 => by
    simp only [List.getElem?_cons_succ] at h1 h2
    have := mem_rem h1 h2
    unfold rem
    split
    · exact this
    · exact List.mem_cons_of_mem _ this
/-- One that is not taken, between those ahead and those behind. -/
theorem rem_at {l : List Lt} {t : List Bool} (hl : l.length = t.length) {i : Nat} {x : Lt} (hx : l[i]? = some x) (ht : t[i]? = some false) :
    rem l t = rem (l.take i) (t.take i) ++ x :: rem (l.drop (i + 1)) (t.drop (i + 1)) ∧ rem l (t.set i true) = rem (l.take i) (t.take i) ++ rem (l.drop (i + 1)) (t.drop (i + 1)) := by
  have hi := (List.getElem?_eq_some_iff.1 hx).1
  have hit := (List.getElem?_eq_some_iff.1 ht).1
  have e1 : l = l.take i ++ x :: l.drop (i + 1) := by
    rw [← (List.getElem?_eq_some_iff.1 hx).2]
    simp
  have e2 : t = t.take i ++ false :: t.drop (i + 1) := by
    rw [← (List.getElem?_eq_some_iff.1 ht).2]
    simp
  have hlen : (l.take i).length = (t.take i).length := by simp; omega
  have e3 : t.set i true = t.take i ++ true :: t.drop (i + 1) := by
    rw [List.set_eq_take_append_cons_drop, if_pos hit]
  constructor
  · conv => lhs; rw [e1, e2]
    rw [rem_app hlen]
    simp [rem]
  · rw [e3]
    conv => lhs; arg 1; rw [e1]
    rw [rem_app hlen]
    simp [rem]
/-- The one that goes first of those that are not taken: the first of these that none goes ahead of. -/
structure Best (l : List Lt) (t : List Bool) (i : Nat) (x : Lt) : Prop where
  here : l[i]? = some x
  free : t[i]? = some false
  ahead : ∀ (j : Nat) (y : Lt), j < i → l[j]? = some y → t[j]? = some false → bfB x y = true
  none : ∀ (j : Nat) (y : Lt), l[j]? = some y → t[j]? = some false → bfB y x = false
/-- It is taken. -/
theorem best_take {l : List Lt} {t : List Bool} (hl : l.length = t.length) {i : Nat} {x : Lt} (h : Best l t i x) : isort (rem l t) = x :: isort (rem l (t.set i true)) := by
  obtain ⟨h1, h2⟩ := rem_at hl h.here h.free
  rw [h1, h2]
  refine isort_split (fun b hb => ?_) (fun a ha => ?_)
  · obtain ⟨j, k1, k2⟩ := rem_mem hb
    rw [List.getElem?_drop] at k1 k2
    exact h.none _ b k1 k2
  · obtain ⟨j, k1, k2⟩ := rem_mem ha
    rw [List.getElem?_take] at k1 k2
    by_cases hj : j < i
    · rw [if_pos hj] at k1 k2
      exact h.ahead j a hj k1 k2
    · rw [if_neg hj] at k1
      cases k1
/-- What the loop over lots has found up to a place. -/
inductive Upto (l : List Lt) (t : List Bool) (k : Nat) : Int → Prop
  | none : (∀ (j : Nat) (y : Lt), j < k → l[j]? = some y → t[j]? ≠ some false) → Upto l t k (-1)
  | best (i : Nat) (x : Lt) : i < k → l[i]? = some x → t[i]? = some false → (∀ (j : Nat) (y : Lt), j < i → l[j]? = some y → t[j]? = some false → bfB x y = true) → (∀ (j : Nat) (y : Lt), j < k → l[j]? = some y → t[j]? = some false → bfB y x = false) → Upto l t k (i : Nat)
theorem upto_start (l : List Lt) (t : List Bool) : Upto l t 0 (-1) := .none (fun j y h => by omega)
theorem upto_taken {l : List Lt} {t : List Bool} {k : Nat} {b : Int} (h : Upto l t k b) (ht : t[k]? = some true) : Upto l t (k + 1) b := by
  cases h with
  | none h => exact .none (fun j y hj hy => by
      by_cases e : j = k
      · subst e
        rw [ht]
        simp
      · exact h j y (by omega) hy)
  | best i x h1 h2 h3 h4 h5 => exact .best i x (by omega) h2 h3 h4 (fun j y hj hy hf => by
      by_cases e : j = k
      · subst e
        rw [ht] at hf
        cases hf
      · exact h5 j y (by omega) hy hf)
theorem upto_first {l : List Lt} {t : List Bool} {k : Nat} {x : Lt} (h : Upto l t k (-1)) (hx : l[k]? = some x) (ht : t[k]? = some false) : Upto l t (k + 1) (k : Nat) := by
  generalize hb : (-1 : Int) = b at h
  cases h with
  | none h0 => exact .best k x (by omega) hx ht (fun j y hj hy hf => absurd hf (h0 j y hj hy)) (fun j y hj hy hf => by
      by_cases e : j = k
      · subst e
        rw [hx] at hy
        rw [← Option.some.inj hy]
        exact bf_irr _
      · exact absurd hf (h0 j y (by omega) hy))
  | best i y => omega
/-- The one at a place, against the best one so far. -/
theorem upto_next {l : List Lt} {t : List Bool} {k i : Nat} {x z : Lt} (h : Upto l t k (i : Nat)) (hx : l[k]? = some x) (ht : t[k]? = some false) (hz : l[i]? = some z) : Upto l t (k + 1) (if bfB x z = true then (k : Nat) else (i : Nat) : Nat) := by
  generalize hb : ((i : Nat) : Int) = b at h
  cases h with
  | none h0 => omega
  | best i2 z2 h1 h2 h3 h4 h5 =>
    obtain rfl : i = i2 := by omega
    rw [hz] at h2
    obtain rfl := Option.some.inj h2
    by_cases hc : bfB x z = true
    · rw [if_pos hc]
      have c1 := bf_iff.1 hc
      refine .best k x (by omega) hx ht (fun j y hj hy hf => ?_) (fun j y hj hy hf => ?_)
      · have := bf_no.1 (h5 j y hj hy hf)
        exact bf_iff.2 (by omega)
      · by_cases e : j = k
        · subst e
          rw [hx] at hy
          rw [← Option.some.inj hy]
          exact bf_irr _
        · have := bf_no.1 (h5 j y (by omega) hy hf)
          exact bf_no.2 (by omega)
    · rw [if_neg hc]
      refine .best i z (by omega) hz h3 h4 (fun j y hj hy hf => ?_)
      by_cases e : j = k
      · subst e
        rw [hx] at hy
        rw [← Option.some.inj hy]
        simpa using hc
      · exact h5 j y (by omega) hy hf
theorem upto_best {l : List Lt} {t : List Bool} {i : Nat} {x : Lt} (h : Upto l t l.length (i : Nat)) (hx : l[i]? = some x) : Best l t i x := by
  generalize hb : ((i : Nat) : Int) = b at h
  generalize hn : l.length = n at h
  cases h with
  | none h0 => omega
  | best i2 z2 h1 h2 h3 h4 h5 =>
    obtain rfl : i = i2 := by omega
    rw [hx] at h2
    obtain rfl := Option.some.inj h2
    exact ⟨hx, h3, h4, fun j y hy hf => h5 j y (by have := (List.getElem?_eq_some_iff.1 hy).1; omega) hy hf⟩
theorem upto_none {l : List Lt} {t : List Bool} (h : Upto l t l.length (-1)) : rem l t = [] := by
  generalize hb : (-1 : Int) = b at h
  generalize hn : l.length = n at h
  cases h with
  | none h0 =>
    refine List.eq_nil_iff_forall_not_mem.2 (fun y hy => ?_)
    obtain ⟨j, h1, h2⟩ := rem_mem hy
    exact h0 j y (by have := (List.getElem?_eq_some_iff.1 h1).1; omega) h1 h2
  | best i y => omega
/-- A place that the loop has found lies within the list. -/
theorem upto_place {l : List Lt} {t : List Bool} {k : Nat} {b : Int} (h : Upto l t k b) : b = -1 ∨ ∃ (i : Nat) (x : Lt), b = (i : Nat) ∧ i < k ∧ l[i]? = some x := by
  cases h with
  | none _ => exact .inl rfl
  | best i x h1 h2 => exact .inr ⟨i, x, rfl, h1, h2⟩
/-- What is picked. -/
def pk : Int → List Lt → List (Int × Int)
  | _, [] => []
  | left, x :: s => if left ≤ 0 then [] else (x.id, min x.units left) :: pk (left - min x.units left) s
/-- Are there not so many? -/
def short : Int → List Lt → Bool
  | left, [] => decide (0 < left)
  | left, x :: s => if left ≤ 0 then false else short (left - min x.units left) s
/-- A product's lots, in order. -/
def ofP (l : List Lt) (p : Int) : List Lt := isort (l.filter fun x => decide (x.product = p))
def wrongB (l : List Lt) (p u : Int) : Bool := decide (u < 1) || l.any fun x => decide (x.product = p) && (decide (x.units < 1) || decide (1048576 < x.units))
def pickL (l : List Lt) (p u : Int) : List (Int × Int) × Int := if wrongB l p u = true then ([], 1) else if short u (ofP l p) = true then ([], 11) else (pk u (ofP l p), 0)
/-- Those of other products are taken from the start. -/
def others (l : List Lt) (p : Int) : List Bool := l.map fun x => decide (x.product ≠ p)
theorem rem_others (p : Int) : ∀ l : List Lt, rem l (others l p) = l.filter fun x => decide (x.product = p)
  | [] => rfl
  | x :: l => by
    have ih := rem_others p l
    unfold others at *
    rw [List.map_cons, rem, List.filter_cons]
    by_cases h : x.product = p
    · rw [if_neg (by simp [h]), if_pos (by simp [h]), ih]
    · rw [if_pos (by simp [h]), if_neg (by simp [h]), ih]
theorem rem_false : ∀ l : List Lt, rem l (List.replicate l.length false) = l
  | [] => rfl
  | x :: l => by
    rw [List.length_cons, List.replicate_succ, rem, if_neg Bool.false_ne_true, rem_false l]
theorem rem_length : ∀ {l : List Lt} {t : List Bool}, (rem l t).length ≤ l.length
  | [], t => by rw [rem_nil]; exact Nat.le_refl _
  | y :: l, [] => Nat.zero_le _
  | y :: l, b :: t => by
    have := rem_length (l := l) (t := t)
    unfold rem
    split
    · simp only [List.length_cons]
      omega
    · simp only [List.length_cons]
      omega
end Go.Proofs.Ytclpdemhfbjliaa.Ff
