/- Series in plain words: what the place in order tells. No condition but those written. -/
import Derived.Test.YtfdakkghikimcaaSeSet
namespace Go.Proofs.Ytfdakkghikimcaa.Se

/-- How many readings are not above a minute. -/
def Upto (S : List Rd) (m : Int) (n : Nat) : Prop := n ≤ S.length ∧ ∀ (j : Nat) (x : Rd), S[j]? = some x → (j < n → x.min ≤ m) ∧ (n ≤ j → m < x.min)
theorem upto_last {S : List Rd} (hs : Sorted S) {m : Int} {n : Nat} (h : Upto S m n) : lastL S m = if n = 0 then none else S[n - 1]? := by
  rcases lastL_spec S m with ⟨h1, h2⟩ | ⟨y, h1, h2, h3, h4⟩
  · rw [h1]
    by_cases hn : n = 0
    · rw [if_pos hn]
    · have hlt : n - 1 < S.length := by have := h.1; omega
      have hx := List.getElem?_eq_getElem hlt
      have := (h.2 _ _ hx).1 (by omega)
      have := h2 _ (List.mem_of_getElem? hx)
      omega
  · obtain ⟨j, hj⟩ := List.mem_iff_getElem?.1 h2
    have hjn : j < n := by
      by_cases hjn : j < n
      · exact hjn
      · have := (h.2 _ _ hj).2 (by omega)
        omega
    rw [h1, if_neg (by omega)]
    by_cases he : j = n - 1
    · rw [← he, hj]
    · have hlt : n - 1 < S.length := by have := h.1; omega
      have hx := List.getElem?_eq_getElem hlt
      exact absurd (sorted_at hs hj hx (by omega)) (h4 _ (List.mem_of_getElem? hx) ((h.2 _ _ hx).1 (by omega)))
theorem upto_none {S : List Rd} (hs : Sorted S) {m : Int} (h : Upto S m 0) (ga : Int) : cnt ga S m = none := by
  unfold cnt
  rw [upto_last hs h, if_pos rfl]
  rfl
theorem upto_some {S : List Rd} (hs : Sorted S) {m : Int} {n : Nat} (h : Upto S m (n + 1)) {y : Rd} (hy : S[n]? = some y) (ga : Int) : cnt ga S m = if ga < m - y.min then none else some y := by
  unfold cnt
  rw [upto_last hs h, if_neg (by omega), Nat.add_sub_cancel, hy]
  rfl
theorem upto_next {S : List Rd} (hs : Sorted S) (h0 : ∀ x ∈ S, 0 ≤ x.min) {m : Int} {n : Nat} (h : Upto S m n) {y : Rd} (hy : S[n]? = some y) : nextL S m = y.min := by
  have hym := (h.2 _ _ hy).2 (Nat.le_refl _)
  rcases nextL_spec S m h0 with ⟨_, h2⟩ | ⟨h1, _, ⟨z, hz, h3⟩, h4⟩
  · have := h2 y (List.mem_of_getElem? hy)
    omega
  · obtain ⟨j, hj⟩ := List.mem_iff_getElem?.1 hz
    have := h4 y (List.mem_of_getElem? hy) hym
    by_cases hjn : j < n
    · have := (h.2 _ _ hj).1 hjn
      omega
    · by_cases he : j = n
      · subst he
        rw [hj] at hy
        cases hy
        omega
      · have := sorted_at hs hy hj (by omega)
        unfold lt at this
        omega
theorem upto_last_no {S : List Rd} (h0 : ∀ x ∈ S, 0 ≤ x.min) {m : Int} (h : Upto S m S.length) : nextL S m = -1 := by
  rcases nextL_spec S m h0 with ⟨h1, _⟩ | ⟨h1, _, ⟨z, hz, h3⟩, _⟩
  · exact h1
  · obtain ⟨j, hj⟩ := List.mem_iff_getElem?.1 hz
    have := (h.2 _ _ hj).1 (List.getElem?_eq_some_iff.1 hj).1
    omega
/-- What putting does to readings in order. -/
theorem put_there {S : List Rd} (hs : Sorted S) {r x : Rd} {i : Nat} (hx : S[i]? = some x) (ho : one x r) : put S r = if r.ten ≤ x.ten then (false, S) else (true, S.set i r) := by
  rw [put_here hx ho (fun j y hj hy hyo => by
    have := sorted_at hs hy hx hj
    unfold lt one at *
    omega)]
  congr 2
  obtain ⟨a, b, c⟩ := r
  simp only [one] at ho
  rw [ho.1, ho.2]
theorem put_new {S : List Rd} {r : Rd} (h : ∀ x ∈ S, ¬ one x r) : put S r = (true, S ++ [r]) := put_end fun _ _ _ hy => h _ (List.mem_of_getElem? hy)
theorem sorted_insert {S : List Rd} (hs : Sorted S) {r : Rd} {i : Nat} (h : ∀ (j : Nat) (x : Rd), S[j]? = some x → (j < i → lt x r) ∧ (i ≤ j → lt r x)) : Sorted (S.take i ++ r :: S.drop i) := by
  have hsp : S = S.take i ++ S.drop i := (List.take_append_drop i S).symm
  have hs' : Sorted (S.take i ++ S.drop i) := by rw [← hsp]; exact hs
  have ha := List.pairwise_append.1 hs'
  have h1 : ∀ x ∈ S.take i, lt x r := fun x hx => by
    obtain ⟨j, hj⟩ := List.mem_iff_getElem?.1 hx
    rw [List.getElem?_take] at hj
    split at hj
    · exact (h j x hj).1 ‹_›
    · cases hj
  have h2 : ∀ x ∈ S.drop i, lt r x := fun x hx => by
    obtain ⟨j, hj⟩ := List.mem_iff_getElem?.1 hx
    rw [List.getElem?_drop] at hj
    exact (h _ x hj).2 (by omega)
  refine List.pairwise_append.2 ⟨ha.1, List.pairwise_cons.2 ⟨h2, ha.2.1⟩, fun x hx y hy => ?_⟩
  rcases List.mem_cons.1 hy with rfl | hy
  · exact h1 x hx
  · exact ha.2.2 x hx y hy
theorem sort_insert {S : List Rd} (hs : Sorted S) {r : Rd} {i : Nat} (h : ∀ (j : Nat) (x : Rd), S[j]? = some x → (j < i → lt x r) ∧ (i ≤ j → lt r x)) : sortL (S ++ [r]) = S.take i ++ r :: S.drop i := by
  have hn : ∀ x ∈ S, ¬ one x r := fun x hx ho => by
    obtain ⟨j, hj⟩ := List.mem_iff_getElem?.1 hx
    have := h j x hj
    by_cases hji : j < i
    · exact not_lt_one ho (this.1 hji)
    · exact not_lt_one (one_comm ho) (this.2 (by omega))
  have hA : Apart (S ++ [r]) := by
    have := put_apart (sorted_apart hs) r
    rw [put_new hn] at this
    exact this
  refine sorted_eq (sorted_sort hA) (sorted_insert hs h) fun x => ?_
  rw [mem_sort]
  have hsp : x ∈ S ↔ x ∈ S.take i ∨ x ∈ S.drop i := by
    rw [← List.mem_append, List.take_append_drop]
  simp only [List.mem_append, List.mem_cons, List.not_mem_nil, or_false, hsp]
  constructor
  · rintro ((h | h) | h)
    · exact .inl h
    · exact .inr (.inr h)
    · exact .inr (.inl h)
  · rintro (h | h | h)
    · exact .inl (.inl h)
    · exact .inr h
    · exact .inl (.inr h)
theorem sort_set {S : List Rd} (hs : Sorted S) {r x : Rd} {i : Nat} (hx : S[i]? = some x) (ho : one x r) : sortL (S.set i r) = S.set i r := by
  refine sort_self ?_
  unfold Sorted
  rw [List.pairwise_iff_getElem]
  intro a b ha hb hab
  have hi := (List.getElem?_eq_some_iff.1 hx).1
  have hxe := (List.getElem?_eq_some_iff.1 hx).2
  rw [List.length_set] at ha hb
  rw [List.getElem_set, List.getElem_set]
  have key := List.pairwise_iff_getElem.1 hs a b ha hb hab
  split
  · rename_i e
    subst e
    rw [if_neg (by omega)]
    rw [hxe] at key
    exact (one_lt (one_comm ho)).1 key
  · split
    · rename_i _ e
      subst e
      rw [hxe] at key
      exact (lt_one (one_comm ho)).1 key
    · exact key
end Go.Proofs.Ytfdakkghikimcaa.Se
