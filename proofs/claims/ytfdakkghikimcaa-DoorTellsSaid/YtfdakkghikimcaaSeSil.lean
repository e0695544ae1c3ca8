/- Series in plain words: silence. No condition but those written. -/
import Derived.Test.YtfdakkghikimcaaSeSet
namespace Go.Proofs.Ytfdakkghikimcaa.Se

theorem cnt_some {ga m : Int} {l : List Rd} {y : Rd} (h : cnt ga l m = some y) : y ∈ l ∧ y.min ≤ m ∧ m - y.min ≤ ga := by
  unfold cnt at h
  rcases lastL_spec l m with ⟨h1, _⟩ | ⟨z, h1, h2, h3, _⟩
  · rw [h1] at h
    cases h
  · rw [h1] at h
    simp only [cntOf] at h
    split at h
    · cases h
    · cases h
      exact ⟨h2, h3, by omega⟩
/-- The air is the worst, or some reading's. -/
theorem air_or (wo ga m : Int) (l : List Rd) : air wo ga l m = wo ∨ ∃ x ∈ l, x.ten = air wo ga l m := by
  unfold air
  rcases h : cnt ga l m with _ | y
  · exact .inl rfl
  · exact .inr ⟨y, (cnt_some h).1, rfl⟩
theorem next_gt {ga m : Int} {l : List Rd} (h0 : ∀ x ∈ l, 0 ≤ x.min) (h : 0 ≤ next ga l m) : m < next ga l m := by
  have hs := nextL_spec l m h0
  unfold next at h ⊢
  rcases hc : cnt ga l m with _ | y
  · rw [hc] at h
    simp only at h ⊢
    rcases hs with ⟨h1, _⟩ | ⟨h1, _⟩ <;> omega
  · rw [hc] at h
    have hy := cnt_some hc
    simp only at h ⊢
    split
    · omega
    · rcases hs with ⟨h1, _⟩ | ⟨h1, _⟩ <;> omega
theorem next_no {wo ga m : Int} {l : List Rd} (h0 : ∀ x ∈ l, 0 ≤ x.min) (h : next ga l m < 0) : air wo ga l m = wo := by
  unfold next at h
  unfold air
  rcases hc : cnt ga l m with _ | y
  · rfl
  · rw [hc] at h
    have hy := cnt_some hc
    have := h0 y hy.1
    simp only at h
    split at h <;> omega
theorem last_same {m f : Int} {l : List Rd} (hf : 0 ≤ f) (h : ∀ x ∈ l, m < x.min → m + f < x.min) : lastL l (m + f) = lastL l m := by
  suffices H : ∀ (o : Option Rd), l.foldl (lastStep (m + f)) o = l.foldl (lastStep m) o from H none
  induction l with
  | nil => exact fun _ => rfl
  | cons x l ih =>
    intro o
    have e : lastStep (m + f) o x = lastStep m o x := by
      unfold lastStep
      have := h x List.mem_cons_self
      by_cases hx : m < x.min
      · rw [if_pos hx, if_pos (this hx)]
      · rw [if_neg hx, if_neg (by omega)]
    rw [List.foldl_cons, List.foldl_cons, e]
    exact ih (fun y hy => h y (List.mem_cons_of_mem _ hy)) _
/-- Up to the next one the air is the same. -/
theorem air_same {wo ga m f : Int} {l : List Rd} (h0 : ∀ x ∈ l, 0 ≤ x.min) (hf : 0 ≤ f) (hn : next ga l m < 0 ∨ m + f < next ga l m) : air wo ga l (m + f) = air wo ga l m := by
  have hs := nextL_spec l m h0
  have hno : ∀ x ∈ l, m < x.min → m + f < x.min := by
    intro x hx hxm
    rcases hs with ⟨_, h2⟩ | ⟨h1, h2, _, h4⟩
    · have := h2 x hx
      omega
    · have := h4 x hx hxm
      unfold next at hn
      rcases hc : cnt ga l m with _ | y
      · rw [hc] at hn
        simp only at hn
        omega
      · rw [hc] at hn
        have hy := cnt_some hc
        have := h0 y hy.1
        simp only at hn
        split at hn <;> omega
  have hl := last_same hf hno
  unfold air cnt
  rw [hl]
  rcases hc : lastL l m with _ | y
  · rfl
  · simp only [cntOf]
    by_cases h1 : ga < m - y.min
    · rw [if_pos h1, if_pos (by omega)]
    · rw [if_neg h1, if_neg ?_]
      have hcnt : cnt ga l m = some y := by
        unfold cnt
        rw [hc]
        simp only [cntOf]
        rw [if_neg h1]
      unfold next at hn
      rw [hcnt] at hn
      have hy := cnt_some hcnt
      have := h0 y hy.1
      simp only at hn
      rcases hs with ⟨h2, _⟩ | ⟨h2, h3, _⟩
      · rw [if_pos (by omega)] at hn
        omega
      · split at hn <;> omega
/-- More than GAP behind all of them it is the worst. -/
theorem air_far {wo ga m t : Int} {l : List Rd} (h : ∀ x ∈ l, x.min ≤ t) (hm : t + ga < m) : air wo ga l m = wo := by
  unfold air
  rcases hc : cnt ga l m with _ | y
  · rfl
  · have hy := cnt_some hc
    have := h y hy.1
    omega
theorem sorted_last {s : List Rd} (h : Sorted s) {y : Rd} (hy : s[s.length - 1]? = some y) : ∀ x ∈ s, x.min ≤ y.min := by
  intro x hx
  obtain ⟨i, hi⟩ := List.mem_iff_getElem?.1 hx
  have hil := (List.getElem?_eq_some_iff.1 hi).1
  by_cases he : i = s.length - 1
  · subst he
    rw [hi] at hy
    cases hy
    exact Int.le_refl _
  · have := sorted_at h hi hy (by omega)
    unfold lt at this
    omega
end Go.Proofs.Ytfdakkghikimcaa.Se
