/- Marks, one by one; in any order; what is there. No condition but those written. -/
import Derived.Test.YtfdakkghikimcaaDrFace
import Derived.Test.YtfdakkghikimcaaSeOrd
namespace Go.Proofs.Ytfdakkghikimcaa
open Go.RowKit

namespace Dr
open Se
/-- What all marks lead to, one by one. -/
def marks (l : List Rd) : List Rd := l.foldl (fun S r => (putM S r).2.2) []
theorem marks_next {l : List Rd} {i : Nat} {x : Rd} (hx : l[i]? = some x) : (putM (marks (l.take i)) x).2.2 = marks (l.take (i + 1)) := by
  unfold marks
  rw [List.take_add_one, hx, Option.toList_some, List.foldl_append]
  rfl
theorem marks_all (l : List Rd) (hb : ∀ x ∈ l, binB x = true) : Good (marks l) ∧ (marks l).length ≤ l.length := by
  suffices H : ∀ k : List Rd, (∀ x ∈ k.reverse, binB x = true) → Good (marks k.reverse) ∧ (marks k.reverse).length ≤ k.reverse.length by
    have := H l.reverse
    rw [List.reverse_reverse] at this
    exact this hb
  intro k
  induction k with
  | nil => exact fun _ => ⟨good_nil, Nat.le_refl _⟩
  | cons x k ih =>
    intro h
    rw [List.reverse_cons] at h ⊢
    obtain ⟨h1, h2⟩ := ih (fun y hy => h y (by simp at hy; simp [hy]))
    have e : marks (k.reverse ++ [x]) = (putM (marks k.reverse) x).2.2 := by
      unfold marks
      rw [List.foldl_append]
      rfl
    rw [e]
    refine ⟨good_put h1 (h x (by simp)), ?_⟩
    have := putM_len (marks k.reverse) x
    simp only [List.length_append, List.length_cons, List.length_nil]
    omega
theorem marks_take {l : List Rd} (hb : ∀ x ∈ l, binB x = true) (k : Nat) : Good (marks (l.take k)) ∧ (marks (l.take k)).length ≤ k := by
  obtain ⟨h1, h2⟩ := marks_all (l.take k) (fun x hx => hb x (List.mem_of_mem_take hx))
  refine ⟨h1, ?_⟩
  rw [List.length_take] at h2
  omega
theorem right_same {r : Rd} (h : binB r = true) : rightB r = rightM r := by
  have h' : r.ten = 0 ∨ r.ten = 1 := by simpa [binB] using h
  rw [Bool.eq_iff_iff]
  simp only [rightB, rightM, Bool.and_eq_true, decide_eq_true_eq]
  omega
theorem marks_puts (l : List Rd) (hb : ∀ x ∈ l, binB x = true) : marks l = sortL (puts l) := by
  suffices H : ∀ k : List Rd, (∀ x ∈ k.reverse, binB x = true) → marks k.reverse = sortL (puts k.reverse) by
    have := H l.reverse
    rw [List.reverse_reverse] at this
    exact this hb
  intro k
  induction k with
  | nil => exact fun _ => rfl
  | cons x k ih =>
    intro h
    rw [List.reverse_cons] at h ⊢
    have h1 := ih (fun y hy => h y (by simp at hy; simp [hy]))
    have e : marks (k.reverse ++ [x]) = (putM (marks k.reverse) x).2.2 := by
      unfold marks
      rw [List.foldl_append]
      rfl
    rw [e, h1, puts_snoc]
    have ha := (puts_spec k.reverse).1
    unfold putM putR
    rw [right_same (h x (by simp))]
    by_cases hr : rightM x = true
    · rw [if_pos hr, if_pos hr]
      exact like_sort (put_apart (sorted_apart (sorted_sort ha)) x) (put_apart ha x) (like_put (sorted_apart (sorted_sort ha)) ha (like_sorted _) x)
    · rw [if_neg hr, if_neg hr]
theorem marks_order {l : List Rd} (hb : ∀ x ∈ l, binB x = true) : marks (twice l.reverse) = marks l := by
  rw [marks_puts l hb, marks_puts _ (fun x hx => hb x (by rw [twice_mem, List.mem_reverse] at hx; exact hx))]
  exact like_sort (puts_spec _).1 (puts_spec _).1 (order_like l)
theorem twice_len (l : List Rd) : (twice l).length = 2 * l.length := by
  unfold twice
  induction l with
  | nil => rfl
  | cons x l ih =>
    rw [List.flatMap_cons, List.length_append, ih]
    simp
    omega
theorem twice_at (l : List Rd) : ∀ (k : Nat) (x : Rd), l[k]? = some x → (twice l)[2 * k]? = some x ∧ (twice l)[2 * k + 1]? = some x := by
  unfold twice
  induction l with
  | nil =>
    intro k x h
    simp at h
  | cons y l ih =>
    intro k x h
    cases k with
    | zero =>
      simp only [List.getElem?_cons_zero, Option.some.injEq] at h
      subst h
      exact ⟨rfl, rfl⟩
    | succ k =>
      rw [List.getElem?_cons_succ] at h
      obtain ⟨h1, h2⟩ := ih k x h
      rw [List.flatMap_cons]
      refine ⟨?_, ?_⟩
      · rw [show 2 * (k + 1) = (2 * k) + 1 + 1 by omega]
        exact h1
      · rw [show 2 * (k + 1) + 1 = (2 * k + 1) + 1 + 1 by omega]
        exact h2
/-- Whether it is so. -/
def Tell (b : Bool) (P : Prop) : Prop := b = true ↔ P
/-- A mark at that place, open if it must be, is among the first ones. -/
def There (S : List Rd) (t : Nat) (x : Rd) : Prop := ∃ (u : Nat) (y : Rd), u < t ∧ S[u]? = some y ∧ y.min = x.min ∧ y.seq = x.seq ∧ (opB y || !opB x) = true
theorem there_zero (S : List Rd) (x : Rd) : ¬ There S 0 x := fun ⟨_, _, h, _⟩ => by omega
theorem there_on {S : List Rd} {t : Nat} {x : Rd} (h : There S t x) : There S (t + 1) x := by
  obtain ⟨u, y, h1, h2⟩ := h
  exact ⟨u, y, by omega, h2⟩
theorem there_yes {S : List Rd} {t : Nat} {x y : Rd} (hy : S[t]? = some y) (h : y.min = x.min ∧ y.seq = x.seq ∧ (opB y || !opB x) = true) : There S (t + 1) x := ⟨t, y, by omega, hy, h⟩
theorem there_no {S : List Rd} {t : Nat} {x y : Rd} (hn : ¬ There S t x) (hy : S[t]? = some y) (h : ¬ (y.min = x.min ∧ y.seq = x.seq ∧ (opB y || !opB x) = true)) : ¬ There S (t + 1) x := by
  rintro ⟨u, z, h1, h2, h3⟩
  by_cases hu : u = t
  · subst hu
    rw [hy] at h2
    cases h2
    exact h h3
  · exact hn ⟨u, z, by omega, h2, h3⟩
/-- All that was put, and may be, is there; nothing else. -/
theorem there_all {l : List Rd} (hb : ∀ x ∈ l, binB x = true) {x : Rd} (hx : x ∈ l) : There (marks l) (marks l).length x ↔ rightM x = true := by
  have hG := (marks_all l hb).1
  constructor
  · rintro ⟨u, y, _, hy, h1, h2, _⟩
    have := hG.right y (List.mem_of_getElem? hy)
    simp only [rightM, Bool.and_eq_true, decide_eq_true_eq] at this ⊢
    omega
  · intro hr
    have e := marks_puts l hb
    rw [← right_same (hb x hx)] at hr
    obtain ⟨j, y, h1, h2, h3, h4, h5⟩ := is_there hx hr
    rw [← e] at h1 h2
    refine ⟨j, y, h1, h2, h3, h4, ?_⟩
    have b1 := hb x hx
    have b2 := hG.bin y (List.mem_of_getElem? h2)
    simp only [binB, decide_eq_true_eq] at b1 b2
    rcases b1 with b1 | b1 <;> rcases b2 with b2 | b2 <;> simp [opB, b1, b2]
    omega
/-- Two books, side by side: one that is written. -/
theorem sideF (I : Face) {w w' : World} {B h B2 h2 : Nat} {F F2 : Nat → Prop} {S' T : List Rd} (h0 : ∃ F', I.DB w' B h F' S' ∧ Turn F w w' ∧ ∀ k, F' k → F k ∨ w.heap.size ≤ k) (hq : I.DB w B2 h2 F2 T) (hd : ∀ k, F k → ¬ F2 k) :
    ∃ F', I.DB w' B h F' S' ∧ I.DB w' B2 h2 F2 T ∧ (∀ k, F' k → ¬ F2 k) ∧ Turn F w w' := by
  obtain ⟨F', hp, ht, hF⟩ := h0
  exact ⟨F', hp, I.turn hq ht (fun k hk hf => hd k hf hk), fun k hk hf => by
    rcases hF k hk with h1 | h1
    · exact hd k h1 hf
    · have := (I.foot hq hf).2
      omega, ht⟩
end Dr
end Go.Proofs.Ytfdakkghikimcaa
