/- Orders, in plain words: a book as a list. No condition but those written. -/
namespace Go.Proofs.Ytpkniomjohjbiaa.Or

/-- An order. -/
structure Od where
  id : Int
  product : Int
  units : Int
  state : Int
deriving DecidableEq
def od0 : Od := ⟨0, 0, 0, 0⟩
/-- May an order come? -/
def wantB (product units : Int) : Bool := decide (1 ≤ product ∧ product ≤ 16) && decide (1 ≤ units ∧ units ≤ 1048576)
/-- The ID, and the error, of one that comes; the orders behind it. -/
def wantF (l : List Od) (product units : Int) : List Od × Int × Int :=
  if wantB product units = true then (if 64 ≤ l.length then (l, 0, 4) else (l ++ [⟨l.length + 1, product, units, 0⟩], (l.length : Int) + 1, 0)) else (l, 0, 1)
/-- The first one with an ID. -/
def getF (id : Int) : List Od → Option Od
  | [] => none
  | x :: l => if x.id = id then some x else getF id l
def orderF (l : List Od) (id : Int) : Od × Int := match getF id l with
  | none => (od0, 5)
  | some x => (x, 0)
/-- In another state. -/
def turned (id to : Int) (x : Od) : Od := if x.id = id then { x with state := to } else x
def changeF (l : List Od) (id frm to : Int) : List Od × Int := match getF id l with
  | none => (l, 5)
  | some x => if x.state = frm then (l.map (turned id to), 0) else (l, 8)
/-- May it be an order of a book, at a place? -/
def okB (i : Nat) (x : Od) : Bool := decide (x.id = (i : Int) + 1) && wantB x.product x.units && decide (0 ≤ x.state ∧ x.state ≤ 2)
def oksB : Nat → List Od → Bool
  | _, [] => true
  | i, x :: l => okB i x && oksB (i + 1) l
def rightB (l : List Od) : Bool := decide (l.length ≤ 64) && oksB 0 l
/-- A book's list. -/
structure Good (l : List Od) : Prop where
  len : l.length ≤ 64
  ok : ∀ i x, l[i]? = some x → okB i x = true
theorem wantB_iff {p u : Int} : wantB p u = true ↔ (1 ≤ p ∧ p ≤ 16) ∧ 1 ≤ u ∧ u ≤ 1048576 := by
  unfold wantB
  simp only [Bool.and_eq_true, decide_eq_true_eq]
theorem okB_iff {i : Nat} {x : Od} : okB i x = true ↔ x.id = (i : Int) + 1 ∧ wantB x.product x.units = true ∧ 0 ≤ x.state ∧ x.state ≤ 2 := by
  unfold okB
  simp only [Bool.and_eq_true, decide_eq_true_eq]
  constructor
  · rintro ⟨⟨a, b⟩, c⟩
    exact ⟨a, b, c⟩
  · rintro ⟨a, b, c⟩
    exact ⟨⟨a, b⟩, c⟩
theorem oksB_iff : ∀ (l : List Od) (k : Nat), oksB k l = true ↔ ∀ i x, l[i]? = some x → okB (k + i) x = true
  | [], k => by simp [oksB]
  | y :: l, k => by
    unfold oksB
    rw [Bool.and_eq_true, oksB_iff l (k + 1)]
    constructor
    · rintro ⟨h1, h2⟩ i x hx
      cases i with
      | zero =>
        simp only [List.getElem?_cons_zero, Option.some.injEq] at hx
        rw [← hx]
        exact h1
      | succ i =>
        have := h2 i x (by simpa using hx)
        rwa [show k + 1 + i = k + (i + 1) by omega] at this
    · intro h
      refine ⟨h 0 y rfl, fun i x hx => ?_⟩
      have := h (i + 1) x (by simpa using hx)
      rwa [show k + (i + 1) = k + 1 + i by omega] at this
theorem rightB_iff {l : List Od} : rightB l = true ↔ Good l := by
  unfold rightB
  rw [Bool.and_eq_true, decide_eq_true_eq, oksB_iff]
  constructor
  · rintro ⟨h1, h2⟩
    exact ⟨h1, fun i x hx => by have := h2 i x hx; rwa [Nat.zero_add] at this⟩
  · rintro ⟨h1, h2⟩
    exact ⟨h1, fun i x hx => by rw [Nat.zero_add]; exact h2 i x hx⟩
theorem good_nil : Good [] := ⟨Nat.zero_le _, fun i x hx => by simp at hx⟩
theorem Good.id {l : List Od} (h : Good l) {i : Nat} {x : Od} (hx : l[i]? = some x) : x.id = (i : Int) + 1 := (okB_iff.1 (h.ok i x hx)).1
theorem Good.want {l : List Od} (h : Good l) {i : Nat} {x : Od} (hx : l[i]? = some x) : wantB x.product x.units = true := (okB_iff.1 (h.ok i x hx)).2.1
theorem Good.state {l : List Od} (h : Good l) {i : Nat} {x : Od} (hx : l[i]? = some x) : 0 ≤ x.state ∧ x.state ≤ 2 := (okB_iff.1 (h.ok i x hx)).2.2
theorem getF_none {id : Int} : ∀ {l : List Od}, getF id l = none ↔ ∀ x ∈ l, x.id ≠ id
  | [] => by simp [getF]
  | y :: l => by
    unfold getF
    by_cases h : y.id = id
    · rw [if_pos h]
      simp [h]
    · rw [if_neg h, getF_none]
      simp [h]
/-- The first one: none ahead of it has the ID. -/
theorem getF_at {id : Int} : ∀ {l : List Od} {x : Od}, getF id l = some x → x.id = id ∧ ∃ i : Nat, l[i]? = some x ∧ ∀ j y, j < i → l[j]? = some y → y.id ≠ id
  | [], x, h => by simp [getF] at h
  | y :: l, x, h => by
    unfold getF at h
    by_cases hy : y.id = id
    · rw [if_pos hy] at h
      cases h
      exact ⟨hy, 0, rfl, fun j z hj => by omega⟩
    · rw [if_neg hy] at h
      obtain ⟨h1, i, h2, h3⟩ := getF_at h
      refine ⟨h1, i + 1, by simpa using h2, fun j z hj hz => ?_⟩
      cases j with
      | zero =>
        simp only [List.getElem?_cons_zero, Option.some.injEq] at hz
        rw [← hz]
        exact hy
      | succ j => exact h3 j z (by omega) (by simpa using hz)
/-- None of the first ones has the ID. -/
def NoId (l : List Od) (id : Int) (k : Nat) : Prop := ∀ j y, j < k → l[j]? = some y → y.id ≠ id
theorem noid_zero (l : List Od) (id : Int) : NoId l id 0 := fun j y hj => by omega
theorem noid_next {l : List Od} {id : Int} {k : Nat} {x : Od} (h : NoId l id k) (hx : l[k]? = some x) (hn : x.id ≠ id) : NoId l id (k + 1) := fun j y hj hy => by
  by_cases hk : j < k
  · exact h j y hk hy
  · obtain rfl : j = k := by omega
    rw [hx] at hy
    cases hy
    exact hn
theorem getF_of {l : List Od} {id : Int} {k : Nat} {x : Od} (h : NoId l id k) (hx : l[k]? = some x) (he : x.id = id) : getF id l = some x := by
  induction l generalizing k with
  | nil => simp at hx
  | cons y l ih =>
    unfold getF
    cases k with
    | zero =>
      simp only [List.getElem?_cons_zero, Option.some.injEq] at hx
      rw [hx, if_pos he]
    | succ k =>
      rw [if_neg (h 0 y (by omega) rfl)]
      exact ih (k := k) (fun j z hj hz => h (j + 1) z (by omega) (by simpa using hz)) (by simpa using hx)
theorem getF_past {l : List Od} {id : Int} (h : NoId l id l.length) : getF id l = none := by
  rw [getF_none]
  intro x hx
  obtain ⟨i, hi, e⟩ := List.mem_iff_getElem.1 hx
  exact h i x hi (by rw [List.getElem?_eq_getElem hi, e])
/-- In a book the ID is the place. -/
theorem Good.get {l : List Od} (h : Good l) (id : Int) : getF id l = if 1 ≤ id ∧ id ≤ l.length then l[(id - 1).toNat]? else none := by
  by_cases hi : 1 ≤ id ∧ id ≤ l.length
  · rw [if_pos hi]
    have hl : (id - 1).toNat < l.length := by omega
    obtain ⟨x, hx⟩ : ∃ x, l[(id - 1).toNat]? = some x := ⟨_, List.getElem?_eq_getElem hl⟩
    rw [hx]
    refine getF_of (k := (id - 1).toNat) (fun j y hj hy => ?_) hx ?_
    · have := h.id hy
      omega
    · have := h.id hx
      omega
  · rw [if_neg hi, getF_none]
    intro x hx
    obtain ⟨i, hl, e⟩ := List.mem_iff_getElem.1 hx
    have := h.id (i := i) (x := x) (by rw [List.getElem?_eq_getElem hl, e])
    omega
theorem turned_id (id to : Int) (x : Od) : (turned id to x).id = x.id := by
  unfold turned
  split <;> rfl
theorem turned_product (id to : Int) (x : Od) : (turned id to x).product = x.product := by
  unfold turned
  split <;> rfl
theorem turned_units (id to : Int) (x : Od) : (turned id to x).units = x.units := by
  unfold turned
  split <;> rfl
theorem Good.turned {l : List Od} (h : Good l) (id to : Int) (h0 : 0 ≤ to) (h2 : to ≤ 2) : Good (l.map (turned id to)) := by
  refine ⟨by rw [List.length_map]; exact h.len, fun i x hx => ?_⟩
  rw [List.getElem?_map] at hx
  cases hy : l[i]? with
  | none => rw [hy] at hx; cases hx
  | some y =>
    rw [hy] at hx
    obtain rfl : Or.turned id to y = x := by simpa using hx
    rw [okB_iff, turned_id, turned_product, turned_units]
    refine ⟨h.id hy, h.want hy, ?_⟩
    unfold Or.turned
    split
    · exact ⟨h0, h2⟩
    · exact h.state hy
theorem Good.change {l : List Od} (h : Good l) (id frm to : Int) (h0 : 0 ≤ to) (h2 : to ≤ 2) : Good (changeF l id frm to).1 := by
  unfold changeF
  split
  · exact h
  · split
    · exact h.turned id to h0 h2
    · exact h
theorem Good.wanted {l : List Od} (h : Good l) (product units : Int) : Good (wantF l product units).1 := by
  unfold wantF
  split
  case isFalse => exact h
  case isTrue hw =>
    split
    · exact h
    · rename_i hl
      refine ⟨by simp only [List.length_append, List.length_singleton]; omega, fun i x hx => ?_⟩
      by_cases hi : i < l.length
      · rw [List.getElem?_append_left hi] at hx
        exact h.ok i x hx
      · rw [List.getElem?_append_right (by omega)] at hx
        have h0 : i - l.length = 0 := by
          have := (List.getElem?_eq_some_iff.1 hx).1
          simp only [List.length_singleton] at this
          omega
        rw [h0] at hx
        simp only [List.getElem?_cons_zero, Option.some.injEq] at hx
        subst hx
        rw [okB_iff]
        exact ⟨by simp only; omega, hw, Int.le_refl 0, by show (0 : Int) ≤ 2; decide⟩
/-- What an act may make of a book: no more than one comes, behind all; products and units stay; what is shipped stays so, and what is shipped was allocated. -/
structure Next (l l' : List Od) : Prop where
  low : l.length ≤ l'.length
  up : l'.length ≤ l.length + 1
  was : ∀ (i : Nat) (x : Od), l[i]? = some x → ∃ y : Od, l'[i]? = some y ∧ y.product = x.product ∧ y.units = x.units ∧ (x.state = 2 → y.state = 2) ∧ (y.state = 2 → x.state ≠ 0)
  new : ∀ y : Od, l'[l.length]? = some y → y.state = 0
theorem next_same (l : List Od) (hn : ∀ (i : Nat) (x : Od), l[i]? = some x → x.state = 2 → x.state ≠ 0) : Next l l :=
  ⟨Nat.le_refl _, Nat.le_succ _, fun i x hx => ⟨x, hx, rfl, rfl, id, hn i x hx⟩, fun y hy => by simp at hy⟩
theorem next_refl (l : List Od) : Next l l := next_same l (fun i x _ h => by omega)
theorem next_want (l : List Od) (product units : Int) : Next l (wantF l product units).1 := by
  unfold wantF
  split
  case isFalse => exact next_refl l
  case isTrue hw =>
    split
    · exact next_refl l
    · refine ⟨by simp, by simp, fun i x hx => ⟨x, ?_, rfl, rfl, id, fun h => by omega⟩, fun y hy => ?_⟩
      · rw [List.getElem?_append_left (List.getElem?_eq_some_iff.1 hx).1]
        exact hx
      · rw [List.getElem?_append_right (Nat.le_refl _), Nat.sub_self] at hy
        simp only [List.getElem?_cons_zero, Option.some.injEq] at hy
        rw [← hy]
theorem next_change {l : List Od} (h : Good l) (id frm to : Int) (hf : frm ≠ 2) (ht : to = 2 → frm ≠ 0) : Next l (changeF l id frm to).1 := by
  unfold changeF
  cases hg : getF id l with
  | none => exact next_refl l
  | some z =>
    obtain ⟨hz, k, hk, _⟩ := getF_at hg
    simp only
    split
    case isFalse => exact next_refl l
    case isTrue hs =>
      refine ⟨by simp, by simp, fun i x hx => ⟨turned id to x, by rw [List.getElem?_map, hx]; rfl, turned_product _ _ _, turned_units _ _ _, ?_⟩, fun y hy => by simp at hy⟩
      by_cases hi : x.id = id
      · have h1 := h.id hx
        have h2 := h.id hk
        obtain rfl : i = k := by omega
        rw [hx] at hk
        cases hk
        unfold turned
        rw [if_pos hi]
        simp only
        exact ⟨fun e => absurd (hs.symm.trans e) hf, fun e => by rw [hs]; exact ht e⟩
      · unfold turned
        rw [if_neg hi]
        exact ⟨fun e => e, fun e => by omega⟩
end Go.Proofs.Ytpkniomjohjbiaa.Or
