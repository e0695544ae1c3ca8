/- Series in plain words: readings, what is put, what counts, all in order. No condition but those written. -/
namespace Go.Proofs.Ytfdakkghikimcaa.Se

/-- A reading. -/
structure Rd where
  min : Int
  seq : Int
  ten : Int
instance : DecidableEq Rd := fun a b =>
  if h : a.min = b.min ∧ a.seq = b.seq ∧ a.ten = b.ten then isTrue (by
    cases a
    cases b
    simp only at h
    rw [h.1, h.2.1, h.2.2])
  else isFalse (by
    rintro rfl
    exact h ⟨rfl, rfl, rfl⟩)
def zero : Rd := ⟨0, 0, 0⟩
def tenB (t : Int) : Bool := decide (-1099511627776 ≤ t ∧ t ≤ 1099511627776)
def rightB (r : Rd) : Bool := decide (-1099511627776 ≤ r.ten ∧ r.ten ≤ 1099511627776 ∧ 0 ≤ r.min ∧ r.min ≤ 1048575 ∧ 0 ≤ r.seq ∧ r.seq ≤ 65535)
def mayB (worst gap : Int) : Bool := decide (-1099511627776 ≤ worst ∧ worst ≤ 1099511627776 ∧ 0 ≤ gap ∧ gap ≤ 1048575)
theorem right_of {r : Rd} (h : rightB r = true) : -1099511627776 ≤ r.ten ∧ r.ten ≤ 1099511627776 ∧ 0 ≤ r.min ∧ r.min ≤ 1048575 ∧ 0 ≤ r.seq ∧ r.seq ≤ 65535 := by simpa [rightB] using h
theorem may_of {w g : Int} (h : mayB w g = true) : -1099511627776 ≤ w ∧ w ≤ 1099511627776 ∧ 0 ≤ g ∧ g ≤ 1048575 := by simpa [mayB] using h
/-- One is ahead of another one. -/
def lt (a b : Rd) : Prop := a.min < b.min ∨ a.min = b.min ∧ a.seq < b.seq
instance (a b : Rd) : Decidable (lt a b) := inferInstanceAs (Decidable (_ ∨ _))
def ltB (a b : Rd) : Bool := decide (lt a b)
/-- They stand at one place. -/
def one (a b : Rd) : Prop := a.min = b.min ∧ a.seq = b.seq
instance (a b : Rd) : Decidable (one a b) := inferInstanceAs (Decidable (_ ∧ _))
theorem lt_irrefl (a : Rd) : ¬ lt a a := by unfold lt; omega
theorem lt_trans {a b c : Rd} (h : lt a b) (k : lt b c) : lt a c := by unfold lt at *; omega
theorem lt_asymm {a b : Rd} (h : lt a b) : ¬ lt b a := by unfold lt at *; omega
theorem lt_or (a b : Rd) : lt a b ∨ one a b ∨ lt b a := by unfold lt one; omega
theorem not_lt_one {a b : Rd} (h : one a b) : ¬ lt a b := by unfold lt one at *; omega
theorem one_comm {a b : Rd} (h : one a b) : one b a := by unfold one at *; omega
theorem one_lt {a b c : Rd} (h : one a b) : lt b c ↔ lt a c := by unfold lt one at *; omega
theorem lt_one {a b c : Rd} (h : one a b) : lt c b ↔ lt c a := by unfold lt one at *; omega

/-- What becomes of readings, as they came, when one is put: whether anything changed, and they. -/
def put : List Rd → Rd → Bool × List Rd
  | [], r => (true, [r])
  | x :: l, r => if one x r then (if r.ten ≤ x.ten then (false, x :: l) else (true, ⟨x.min, x.seq, r.ten⟩ :: l)) else ((put l r).1, x :: (put l r).2)
/-- No two at one place. -/
def Apart (l : List Rd) : Prop := l.Pairwise fun a b => ¬ one a b
theorem put_from (l : List Rd) (r : Rd) : ∀ i, i ≤ l.length → (∀ j x, j < i → l[j]? = some x → ¬ one x r) → put l r = ((put (l.drop i) r).1, l.take i ++ (put (l.drop i) r).2) := by
  induction l with
  | nil =>
    intro i hi _
    simp
  | cons x l ih =>
    intro i hi h
    cases i with
    | zero => simp
    | succ i =>
      have h0 : ¬ one x r := h 0 x (by omega) rfl
      have h1 := ih i (by simpa using hi) (fun j y hj hy => h (j + 1) y (by omega) (by simpa using hy))
      have h2 := (Prod.ext_iff.1 h1).1
      have h3 := (Prod.ext_iff.1 h1).2
      simp only at h2 h3
      rw [put, if_neg h0, List.drop_succ_cons, List.take_succ_cons, List.cons_append, ← h2, ← h3]
theorem put_here {l : List Rd} {r x : Rd} {i : Nat} (hx : l[i]? = some x) (ho : one x r) (h : ∀ j y, j < i → l[j]? = some y → ¬ one y r) :
    put l r = if r.ten ≤ x.ten then (false, l) else (true, l.set i ⟨x.min, x.seq, r.ten⟩) := by
  have hi : i < l.length := (List.getElem?_eq_some_iff.1 hx).1
  have hx' : l[i] = x := (List.getElem?_eq_some_iff.1 hx).2
  rw [put_from l r i (Nat.le_of_lt hi) h, List.drop_eq_getElem_cons hi, hx', put, if_pos ho]
  split
  · have : l.take i ++ x :: l.drop (i + 1) = l := by
      rw [← hx', ← List.drop_eq_getElem_cons hi, List.take_append_drop]
    simp [this]
  · rw [List.set_eq_take_append_cons_drop, if_pos hi]
theorem put_end {l : List Rd} {r : Rd} (h : ∀ j y, j < l.length → l[j]? = some y → ¬ one y r) : put l r = (true, l ++ [r]) := by
  rw [put_from l r l.length (Nat.le_refl _) h, List.drop_length, List.take_length, put]
theorem put_right {l : List Rd} {r : Rd} (hl : ∀ x ∈ l, rightB x = true) (hr : rightB r = true) : ∀ x ∈ (put l r).2, rightB x = true := by
  induction l with
  | nil =>
    intro x hx
    simp only [put, List.mem_singleton] at hx
    rw [hx]
    exact hr
  | cons y l ih =>
    have hy := hl y List.mem_cons_self
    have hl' : ∀ x ∈ l, rightB x = true := fun x hx => hl x (List.mem_cons_of_mem _ hx)
    intro x hx
    unfold put at hx
    split at hx
    · split at hx
      · exact hl x hx
      · rcases List.mem_cons.1 hx with rfl | hx
        · have h1 := right_of hy
          have h2 := right_of hr
          simp only [rightB, decide_eq_true_eq]
          omega
        · exact hl' x hx
    · rcases List.mem_cons.1 hx with rfl | hx
      · exact hy
      · exact ih hl' x hx
theorem put_len (l : List Rd) (r : Rd) : (put l r).2.length ≤ l.length + 1 := by
  induction l with
  | nil => simp [put]
  | cons y l ih =>
    unfold put
    split
    · split <;> simp
    · simpa using ih
/-- Who is there when one was put. -/
theorem put_mem {l : List Rd} (ha : Apart l) (r x : Rd) : x ∈ (put l r).2 ↔ (x ∈ l ∧ ¬ one x r) ∨ (∃ y, y ∈ l ∧ one y r ∧ x = ⟨r.min, r.seq, max y.ten r.ten⟩) ∨ ((∀ y ∈ l, ¬ one y r) ∧ x = r) := by
  induction l with
  | nil => simp [put]
  | cons y l ih =>
    have ha' := List.pairwise_cons.1 ha
    unfold put
    by_cases ho : one y r
    · rw [if_pos ho]
      have hl : ∀ z ∈ l, ¬ one z r := fun z hz hzr => ha'.1 z hz (by unfold one at *; omega)
      split
      · rename_i hle
        have hm : (⟨r.min, r.seq, max y.ten r.ten⟩ : Rd) = y := by
          obtain ⟨a, b, c⟩ := y
          simp only [one] at ho
          simp only at hle
          simp only [Rd.mk.injEq]
          omega
        rw [List.mem_cons]
        constructor
        · rintro (rfl | hx)
          · exact .inr (.inl ⟨_, List.mem_cons_self, ho, hm.symm⟩)
          · exact .inl ⟨.inr hx, hl x hx⟩
        · rintro (⟨hx, hn⟩ | ⟨z, hz, hzr, rfl⟩ | ⟨hn, _⟩)
          · exact hx
          · rcases List.mem_cons.1 hz with rfl | hz
            · exact .inl hm
            · exact absurd hzr (hl z hz)
          · exact absurd ho (hn y List.mem_cons_self)
      · rename_i hle
        have hm : (⟨r.min, r.seq, max y.ten r.ten⟩ : Rd) = ⟨y.min, y.seq, r.ten⟩ := by
          simp only [one] at ho
          simp only [Rd.mk.injEq]
          omega
        rw [List.mem_cons]
        constructor
        · rintro (rfl | hx)
          · exact .inr (.inl ⟨y, List.mem_cons_self, ho, hm.symm⟩)
          · exact .inl ⟨List.mem_cons_of_mem _ hx, hl x hx⟩
        · rintro (⟨hx, hn⟩ | ⟨z, hz, hzr, rfl⟩ | ⟨hn, _⟩)
          · rcases List.mem_cons.1 hx with rfl | hx
            · exact absurd ho hn
            · exact .inr hx
          · rcases List.mem_cons.1 hz with rfl | hz
            · exact .inl hm
            · exact absurd hzr (hl z hz)
          · exact absurd ho (hn y List.mem_cons_self)
    · rw [if_neg ho, List.mem_cons, ih ha'.2]
      constructor
      · rintro (rfl | ⟨hx, hn⟩ | ⟨z, hz, hzr, rfl⟩ | ⟨hn, rfl⟩)
        · exact .inl ⟨List.mem_cons_self, ho⟩
        · exact .inl ⟨List.mem_cons_of_mem _ hx, hn⟩
        · exact .inr (.inl ⟨z, List.mem_cons_of_mem _ hz, hzr, rfl⟩)
        · refine .inr (.inr ⟨fun z hz => ?_, rfl⟩)
          rcases List.mem_cons.1 hz with rfl | hz
          · exact ho
          · exact hn z hz
      · rintro (⟨hx, hn⟩ | ⟨z, hz, hzr, rfl⟩ | ⟨hn, rfl⟩)
        · rcases List.mem_cons.1 hx with rfl | hx
          · exact .inl rfl
          · exact .inr (.inl ⟨hx, hn⟩)
        · rcases List.mem_cons.1 hz with rfl | hz
          · exact absurd hzr ho
          · exact .inr (.inr (.inl ⟨z, hz, hzr, rfl⟩))
        · exact .inr (.inr (.inr ⟨fun z hz => hn z (List.mem_cons_of_mem _ hz), rfl⟩))
theorem put_apart {l : List Rd} (ha : Apart l) (r : Rd) : Apart (put l r).2 := by
  induction l with
  | nil => simp [put, Apart]
  | cons y l ih =>
    have ha' := List.pairwise_cons.1 ha
    unfold put
    by_cases ho : one y r
    · rw [if_pos ho]
      split
      · exact ha
      · exact List.pairwise_cons.2 ⟨fun z hz h => ha'.1 z hz h, ha'.2⟩
    · rw [if_neg ho]
      refine List.pairwise_cons.2 ⟨fun z hz => ?_, ih ha'.2⟩
      rcases (put_mem ha'.2 r z).1 hz with ⟨hz, _⟩ | ⟨u, hu, hur, rfl⟩ | ⟨_, rfl⟩
      · exact ha'.1 z hz
      · exact ho
      · exact ho
/-- The reading that counts, so far: behind some of them. -/
def lastStep (m : Int) (o : Option Rd) (x : Rd) : Option Rd :=
  if m < x.min then o else match o with
  | none => some x
  | some y => if lt y x then some x else some y
def lastL (l : List Rd) (m : Int) : Option Rd := l.foldl (lastStep m) none
theorem lastL_snoc (l : List Rd) (x : Rd) (m : Int) : lastL (l ++ [x]) m = lastStep m (lastL l m) x := by simp [lastL]
/-- What it is: the greatest one of those that are not above the minute. -/
theorem lastL_spec (l : List Rd) (m : Int) : (lastL l m = none ∧ ∀ x ∈ l, m < x.min) ∨ ∃ y, lastL l m = some y ∧ y ∈ l ∧ y.min ≤ m ∧ ∀ x ∈ l, x.min ≤ m → ¬ lt y x := by
  suffices H : ∀ (n : Nat) (k : List Rd), k.length = n → (lastL k m = none ∧ ∀ x ∈ k, m < x.min) ∨ ∃ y, lastL k m = some y ∧ y ∈ k ∧ y.min ≤ m ∧ ∀ x ∈ k, x.min ≤ m → ¬ lt y x from H _ l rfl
  intro n
  induction n with
  | zero =>
    intro k hk
    obtain rfl : k = [] := List.eq_nil_of_length_eq_zero hk
    exact .inl ⟨rfl, by simp⟩
  | succ n ih =>
    intro k hk
    obtain ⟨k', x, rfl⟩ : ∃ k' x, k = k' ++ [x] := by
      have hne : k ≠ [] := by
        rintro rfl
        simp at hk
      exact ⟨k.dropLast, k.getLast hne, (List.dropLast_concat_getLast hne).symm⟩
    have hk' : k'.length = n := by simpa using hk
    rw [lastL_snoc]
    unfold lastStep
    by_cases hx : m < x.min
    · rw [if_pos hx]
      rcases ih k' hk' with ⟨h1, h2⟩ | ⟨y, h1, h2, h3, h4⟩
      · exact .inl ⟨h1, fun z hz => by
          rcases List.mem_append.1 hz with hz | hz
          · exact h2 z hz
          · rw [List.mem_singleton.1 hz]
            exact hx⟩
      · exact .inr ⟨y, h1, List.mem_append_left _ h2, h3, fun z hz hzm => by
          rcases List.mem_append.1 hz with hz | hz
          · exact h4 z hz hzm
          · rw [List.mem_singleton.1 hz] at hzm
            omega⟩
    · rw [if_neg hx]
      rcases ih k' hk' with ⟨h1, h2⟩ | ⟨y, h1, h2, h3, h4⟩
      · rw [h1]
        exact .inr ⟨x, rfl, by simp, by omega, fun z hz hzm => by
          rcases List.mem_append.1 hz with hz | hz
          · have := h2 z hz
            omega
          · rw [List.mem_singleton.1 hz]
            exact lt_irrefl x⟩
      · rw [h1]
        simp only
        by_cases hlt : lt y x
        · rw [if_pos hlt]
          exact .inr ⟨x, rfl, by simp, by omega, fun z hz hzm => by
            rcases List.mem_append.1 hz with hz | hz
            · intro hxz
              exact h4 z hz hzm (lt_trans hlt hxz)
            · rw [List.mem_singleton.1 hz]
              exact lt_irrefl x⟩
        · rw [if_neg hlt]
          exact .inr ⟨y, rfl, List.mem_append_left _ h2, h3, fun z hz hzm => by
            rcases List.mem_append.1 hz with hz | hz
            · exact h4 z hz hzm
            · rw [List.mem_singleton.1 hz]
              exact hlt⟩
/-- The reading that counts at a minute, if it is not too long ago. -/
def cntOf (gap m : Int) : Option Rd → Option Rd
  | none => none
  | some y => if gap < m - y.min then none else some y
def cnt (gap : Int) (l : List Rd) (m : Int) : Option Rd := cntOf gap m (lastL l m)
def air (worst gap : Int) (l : List Rd) (m : Int) : Int := match cnt gap l m with
  | none => worst
  | some y => y.ten
/-- The least Minute above a minute, so far; -1: none. -/
def nextStep (m : Int) (n : Int) (x : Rd) : Int := if m < x.min ∧ (n < 0 ∨ x.min < n) then x.min else n
def nextL (l : List Rd) (m : Int) : Int := l.foldl (nextStep m) (-1)
theorem nextL_snoc (l : List Rd) (x : Rd) (m : Int) : nextL (l ++ [x]) m = nextStep m (nextL l m) x := by simp [nextL]
def next (gap : Int) (l : List Rd) (m : Int) : Int := match cnt gap l m with
  | none => nextL l m
  | some y => if nextL l m < 0 ∨ y.min + gap + 1 < nextL l m then y.min + gap + 1 else nextL l m
/-- In order. -/
def Sorted (s : List Rd) : Prop := s.Pairwise lt
def ins (r : Rd) : List Rd → List Rd
  | [] => [r]
  | x :: l => if lt r x then r :: x :: l else x :: ins r l
def sortL (l : List Rd) : List Rd := l.foldr ins []
theorem mem_ins (r x : Rd) (l : List Rd) : x ∈ ins r l ↔ x = r ∨ x ∈ l := by
  induction l with
  | nil => simp [ins]
  | cons y l ih =>
    unfold ins
    split
    · simp
    · simp only [List.mem_cons, ih]
      constructor
      · rintro (h | h | h)
        · exact .inr (.inl h)
        · exact .inl h
        · exact .inr (.inr h)
      · rintro (h | h | h)
        · exact .inr (.inl h)
        · exact .inl h
        · exact .inr (.inr h)
theorem len_ins (r : Rd) (l : List Rd) : (ins r l).length = l.length + 1 := by
  induction l with
  | nil => rfl
  | cons y l ih =>
    unfold ins
    split
    · simp
    · simp [ih]
theorem sorted_ins {r : Rd} {l : List Rd} (h : Sorted l) (hr : ∀ x ∈ l, ¬ one x r) : Sorted (ins r l) := by
  induction l with
  | nil => simp [ins, Sorted]
  | cons y l ih =>
    have h' := List.pairwise_cons.1 h
    unfold ins
    by_cases hlt : lt r y
    · rw [if_pos hlt]
      refine List.pairwise_cons.2 ⟨fun z hz => ?_, h⟩
      rcases List.mem_cons.1 hz with rfl | hz
      · exact hlt
      · exact lt_trans hlt (h'.1 z hz)
    · rw [if_neg hlt]
      have hy : lt y r := by
        rcases lt_or r y with h1 | h1 | h1
        · exact absurd h1 hlt
        · exact absurd (one_comm h1) (hr y List.mem_cons_self)
        · exact h1
      refine List.pairwise_cons.2 ⟨fun z hz => ?_, ih h'.2 (fun x hx => hr x (List.mem_cons_of_mem _ hx))⟩
      rcases (mem_ins r z l).1 hz with rfl | hz
      · exact hy
      · exact h'.1 z hz
theorem mem_sort (l : List Rd) (x : Rd) : x ∈ sortL l ↔ x ∈ l := by
  induction l with
  | nil => simp [sortL]
  | cons y l ih =>
    show x ∈ ins y (sortL l) ↔ _
    rw [mem_ins, ih, List.mem_cons]
theorem len_sort (l : List Rd) : (sortL l).length = l.length := by
  induction l with
  | nil => rfl
  | cons y l ih =>
    show (ins y (sortL l)).length = _
    rw [len_ins, ih, List.length_cons]
theorem sorted_sort {l : List Rd} (h : Apart l) : Sorted (sortL l) := by
  induction l with
  | nil => simp [sortL, Sorted]
  | cons y l ih =>
    have h' := List.pairwise_cons.1 h
    exact sorted_ins (ih h'.2) (fun x hx hxy => h'.1 x ((mem_sort l x).1 hx) (one_comm hxy))
theorem sorted_apart {l : List Rd} (h : Sorted l) : Apart l := h.imp fun h1 h2 => not_lt_one h2 h1
theorem sorted_eq {s : List Rd} : ∀ {t : List Rd}, Sorted s → Sorted t → (∀ x, x ∈ s ↔ x ∈ t) → s = t := by
  induction s with
  | nil =>
    intro t _ _ h
    match t with
    | [] => rfl
    | y :: t => exact absurd ((h y).2 List.mem_cons_self) (by simp)
  | cons x s ih =>
    intro t hs ht h
    match t, ht, h with
    | [], _, h => exact absurd ((h x).1 List.mem_cons_self) (by simp)
    | y :: t, ht, h =>
      have hs' := List.pairwise_cons.1 hs
      have ht' := List.pairwise_cons.1 ht
      have e : x = y := by
        rcases List.mem_cons.1 ((h x).1 List.mem_cons_self) with e | hx
        · exact e
        · rcases List.mem_cons.1 ((h y).2 List.mem_cons_self) with e | hy
          · exact e.symm
          · exact absurd (hs'.1 y hy) (lt_asymm (ht'.1 x hx))
      subst e
      congr 1
      refine ih hs'.2 ht'.2 fun z => ⟨fun hz => ?_, fun hz => ?_⟩
      · rcases List.mem_cons.1 ((h z).1 (List.mem_cons_of_mem _ hz)) with rfl | hz'
        · exact absurd (hs'.1 z hz) (lt_irrefl z)
        · exact hz'
      · rcases List.mem_cons.1 ((h z).2 (List.mem_cons_of_mem _ hz)) with rfl | hz'
        · exact absurd (ht'.1 z hz) (lt_irrefl z)
        · exact hz'
theorem sorted_at {s : List Rd} (h : Sorted s) {i j : Nat} {x y : Rd} (hx : s[i]? = some x) (hy : s[j]? = some y) (hij : i < j) : lt x y := by
  obtain ⟨hi, rfl⟩ := List.getElem?_eq_some_iff.1 hx
  obtain ⟨hj, rfl⟩ := List.getElem?_eq_some_iff.1 hy
  exact List.pairwise_iff_getElem.1 h i j hi hj hij
/-- What isn't told yet, when k are. -/
def Cand (s : List Rd) (k : Nat) (x : Rd) : Prop := ∀ z, 0 < k → s[k - 1]? = some z → lt z x
theorem cand_at {s : List Rd} (h : Sorted s) {k j : Nat} {x : Rd} (hx : s[j]? = some x) (hk : k ≤ s.length) : Cand s k x ↔ k ≤ j := by
  constructor
  · intro hc
    by_cases h0 : 0 < k
    · have hlt := hc _ h0 (List.getElem?_eq_getElem (show k - 1 < s.length by omega))
      have hg := List.getElem?_eq_getElem (show k - 1 < s.length by omega)
      by_cases hkj : k ≤ j
      · exact hkj
      · by_cases he : j = k - 1
        · subst he
          rw [hg] at hx
          cases hx
          exact absurd hlt (lt_irrefl _)
        · exact absurd hlt (lt_asymm (sorted_at h hx hg (by omega)))
    · omega
  · intro hkj z h0 hz
    exact sorted_at h hz hx (by omega)
/-- The first one that isn't told yet. -/
theorem cand_first {s : List Rd} (h : Sorted s) {k : Nat} {y : Rd} (hk : k < s.length) (hy : y ∈ s) (hc : Cand s k y) (hm : ∀ x ∈ s, Cand s k x → ¬ lt x y) : s[k]? = some y := by
  obtain ⟨j, hj⟩ := List.mem_iff_getElem?.1 hy
  have hkj := (cand_at h hj (Nat.le_of_lt hk)).1 hc
  by_cases he : k = j
  · subst he
    exact hj
  · have hg := List.getElem?_eq_getElem hk
    exact absurd (sorted_at h hg hj (by omega)) (hm _ (List.getElem_mem hk) ((cand_at h hg (Nat.le_of_lt hk)).2 (Nat.le_refl _)))
/-- Whether anything changed, the error, and what there is then. -/
def putR (L : List Rd) (r : Rd) : Bool × Nat × List Rd := if rightB r then ((put L r).1, 0, (put L r).2) else (false, 1, L)
end Go.Proofs.Ytfdakkghikimcaa.Se
