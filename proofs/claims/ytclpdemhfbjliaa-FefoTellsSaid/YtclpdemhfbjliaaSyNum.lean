/- Stays in plain words: where something was. No condition but those written. -/
import Derived.Test.YtclpdemhfbjliaaOcNum
namespace Go.Proofs.Ytclpdemhfbjliaa.Sy

/-- A stay. -/
structure Sy where
  zone : Int
  frm : Int
  to : Int
  deriving DecidableEq
/-- Does a stay have a minute? -/
def has (m : Int) (s : Sy) : Bool := decide (s.frm ≤ m) && (decide (s.to = -1) || decide (m < s.to))
theorem has_iff {m : Int} {s : Sy} : has m s = true ↔ s.frm ≤ m ∧ (s.to = -1 ∨ m < s.to) := by simp [has]
/-- May stays be? -/
def Right (l : List Sy) : Prop := ∀ (i : Nat) (s : Sy), l[i]? = some s → 1 ≤ s.zone ∧ 0 ≤ s.frm ∧ (s.frm < s.to ∨ s.to = -1 ∧ i + 1 = l.length) ∧ ∀ t : Sy, l[i + 1]? = some t → t.frm = s.to
/-- Stays that all ended, the last one at a minute. -/
def Shut (l : List Sy) : Prop := ∀ (i : Nat) (s : Sy), l[i]? = some s → 1 ≤ s.zone ∧ 0 ≤ s.frm ∧ s.frm < s.to ∧ ∀ t : Sy, l[i + 1]? = some t → t.frm = s.to
def Ends (l : List Sy) (e : Int) : Prop := ∀ s : Sy, l.getLast? = some s → s.to = e
theorem right_nil : Right [] := fun i s h => by simp at h
theorem shut_nil : Shut [] := fun i s h => by simp at h
theorem ends_nil (e : Int) : Ends [] e := fun s h => by simp at h
theorem ends_snoc (A : List Sy) (s : Sy) : Ends (A ++ [s]) s.to := fun t h => by
  rw [List.getLast?_concat] at h
  rw [Option.some.inj h]
theorem ends_eq {A : List Sy} {s : Sy} {e : Int} (h : Ends (A ++ [s]) e) : s.to = e := h s (by rw [List.getLast?_concat])
theorem shut_right {l : List Sy} (h : Shut l) : Right l := fun i s hs => by
  obtain ⟨a, b, c, d⟩ := h i s hs
  exact ⟨a, b, .inl c, d⟩
/-- One more, behind. -/
theorem right_snoc {A : List Sy} {s : Sy} : Right (A ++ [s]) ↔ Shut A ∧ 1 ≤ s.zone ∧ 0 ≤ s.frm ∧ (s.frm < s.to ∨ s.to = -1) ∧ Ends A s.frm := by
  constructor
  · intro h
    refine ⟨fun i a ha => ?_, ?_⟩
    · have hi : i < A.length := (List.getElem?_eq_some_iff.1 ha).1
      have h1 := h i a (by rw [List.getElem?_append_left hi]; exact ha)
      refine ⟨h1.1, h1.2.1, ?_, fun t ht => ?_⟩
      · rcases h1.2.2.1 with h2 | h2
        · exact h2
        · have := h2.2
          simp at this
          omega
      · have hi' : i + 1 < A.length := (List.getElem?_eq_some_iff.1 ht).1
        exact h1.2.2.2 t (by rw [List.getElem?_append_left hi']; exact ht)
    · have h1 := h A.length s (by simp)
      refine ⟨h1.1, h1.2.1, ?_, fun a ha => ?_⟩
      · rcases h1.2.2.1 with h2 | h2
        · exact .inl h2
        · exact .inr h2.1
      · rw [List.getLast?_eq_getElem?] at ha
        have hlt := (List.getElem?_eq_some_iff.1 ha).1
        have h2 := h (A.length - 1) a (by rw [List.getElem?_append_left hlt]; exact ha)
        exact (h2.2.2.2 s (by rw [show A.length - 1 + 1 = A.length by omega]; simp)).symm
  · rintro ⟨hA, z, f, t, e⟩ i a ha
    by_cases hi : i < A.length
    · rw [List.getElem?_append_left hi] at ha
      obtain ⟨h1, h2, h3, h4⟩ := hA i a ha
      refine ⟨h1, h2, .inl h3, fun b hb => ?_⟩
      by_cases hi' : i + 1 < A.length
      · rw [List.getElem?_append_left hi'] at hb
        exact h4 b hb
      · have : i + 1 = A.length := by omega
        rw [List.getElem?_append_right (by omega), this, Nat.sub_self] at hb
        simp at hb
        subst hb
        exact (e a (by rw [List.getLast?_eq_getElem?, show A.length - 1 = i by omega]; exact ha)).symm
    · have hl : i < (A ++ [s]).length := (List.getElem?_eq_some_iff.1 ha).1
      have : i = A.length := by
        simp at hl
        omega
      subst this
      simp at ha
      subst ha
      refine ⟨z, f, ?_, fun b hb => ?_⟩
      · rcases t with t | t
        · exact .inl t
        · exact .inr ⟨t, by simp⟩
      · have := (List.getElem?_eq_some_iff.1 hb).1
        simp at this
theorem shut_snoc {A : List Sy} {s : Sy} : Shut (A ++ [s]) ↔ Shut A ∧ 1 ≤ s.zone ∧ 0 ≤ s.frm ∧ s.frm < s.to ∧ Ends A s.frm := by
  constructor
  · intro h
    have h1 := right_snoc.1 (shut_right h)
    have h2 := h A.length s (by simp)
    exact ⟨h1.1, h1.2.1, h1.2.2.1, h2.2.2.1, h1.2.2.2.2⟩
  · rintro ⟨hA, z, f, t, e⟩ i a ha
    have h1 := right_snoc.2 ⟨hA, z, f, .inl t, e⟩ i a ha
    refine ⟨h1.1, h1.2.1, ?_, h1.2.2.2⟩
    rcases h1.2.2.1 with h2 | h2
    · exact h2
    · have : i = A.length := by have := h2.2; simp at this; omega
      subst this
      simp at ha
      subst ha
      exact t
theorem ends_of (l : List Sy) : l = [] ∨ ∃ A s, l = A ++ [s] := by
  rcases List.eq_nil_or_concat l with h | ⟨A, s, h⟩
  · exact .inl h
  · exact .inr ⟨A, s, by rw [h, List.concat_eq_append]⟩
/-- The zone of the stay that has a minute; 0, if none has. -/
def zoneS (l : List Sy) (m : Int) : Int := match l.find? (has m) with
  | none => 0
  | some s => s.zone
theorem zone_snoc (A : List Sy) (s : Sy) (m : Int) : zoneS (A ++ [s]) m = if zoneS A m ≠ 0 ∨ (A.find? (has m)).isSome then zoneS A m else if has m s then s.zone else 0 := by
  unfold zoneS
  rw [List.find?_append]
  cases h : A.find? (has m) with
  | none =>
    simp only [Option.none_or, List.find?_cons, List.find?_nil]
    cases has m s <;> simp
  | some a => simp
/-- Of stays that ended no one has a minute behind the end. -/
theorem shut_le {A : List Sy} {e : Int} (h : Shut A) (he : Ends A e) : ∀ s ∈ A, s.to ≤ e ∧ s.frm < s.to := by
  suffices H : ∀ (k : List Sy) (e : Int), Shut k.reverse → Ends k.reverse e → ∀ s ∈ k.reverse, s.to ≤ e ∧ s.frm < s.to by
    have := H A.reverse e
    rw [List.reverse_reverse] at this
    exact this h he
  intro k
  induction k with
  | nil => intro e _ _ s hs; simp at hs
  | cons x k ih =>
    intro e h he s hs
    rw [List.reverse_cons] at h he hs
    have h1 := shut_snoc.1 h
    have h2 := ends_eq he
    rcases List.mem_append.1 hs with hs | hs
    · have h3 := ih x.frm h1.1 h1.2.2.2.2 s hs
      have := h1.2.2.2.1
      omega
    · rw [List.mem_singleton.1 hs]
      exact ⟨by omega, h1.2.2.2.1⟩
theorem find_none {A : List Sy} {e m : Int} (h : Shut A) (he : Ends A e) (hm : e ≤ m) : A.find? (has m) = none := by
  rw [List.find?_eq_none]
  intro s hs hh
  have h1 := shut_le h he s hs
  rw [has_iff] at hh
  have h2 : 0 ≤ s.frm := by
    obtain ⟨i, hi⟩ := List.mem_iff_getElem?.1 hs
    exact (h i s hi).2.1
  omega
theorem zone_shut {A : List Sy} {e m : Int} (h : Shut A) (he : Ends A e) (hm : e ≤ m) : zoneS A m = 0 := by
  unfold zoneS
  rw [find_none h he hm]
/-- Ahead of the last one's From, the last one makes no difference. -/
theorem zone_ahead {A : List Sy} {s : Sy} {m : Int} (hm : m < s.frm) : zoneS (A ++ [s]) m = zoneS A m := by
  unfold zoneS
  rw [List.find?_append]
  have h1 : has m s = false := by
    cases h : has m s
    · rfl
    · rw [has_iff] at h
      omega
  cases h : A.find? (has m) with
  | none => simp [h1]
  | some a => simp
/-- From there on, it alone counts. -/
theorem zone_last {A : List Sy} {s : Sy} {m : Int} (h : Shut A) (he : Ends A s.frm) (hm : s.frm ≤ m) : zoneS (A ++ [s]) m = if s.to = -1 ∨ m < s.to then s.zone else 0 := by
  unfold zoneS
  rw [List.find?_append, find_none h he hm]
  by_cases hc : s.to = -1 ∨ m < s.to
  · rw [if_pos hc]
    simp [has_iff.2 ⟨hm, hc⟩]
  · rw [if_neg hc]
    have h1 : has m s = false := by
      cases h : has m s
      · rfl
      · rw [has_iff] at h
        exact absurd h.2 hc
    simp [h1]
end Go.Proofs.Ytclpdemhfbjliaa.Sy
