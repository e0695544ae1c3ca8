/- Walks over package stays: does the last one go on, may something be done now, which one has a minute. Condition: the list reads as stays. -/
import Derived.Test.YtgmjmkkhoibbcaaDoorSyP1
import Derived.WalkMore
namespace Go.Proofs.YtgmjmkkhoibbcaaDoor
open Go.RowKit

namespace Sy
def onB (S : List Sy) : Bool := match S.getLast? with | none => false | some s => decide (s.to = -1)
theorem on_B {S : List Sy} : onB S = true ↔ On S := by
  rcases ends_of S with rfl | ⟨A, s, rfl⟩
  · constructor
    · intro h
      cases h
    · rintro ⟨A, x, h, _⟩
      simp at h
  · unfold onB
    rw [List.getLast?_concat]
    constructor
    · intro h
      exact ⟨A, s, rfl, by simpa using h⟩
    · rintro ⟨B, x, h, hx⟩
      have := (List.append_inj' h rfl).2
      simp only [List.cons.injEq, and_true] at this
      subst this
      simp [hx]
theorem on_no {S : List Sy} (h : ¬ On S) : onB S = false := by
  cases hb : onB S
  · rfl
  · exact absurd (on_B.1 hb) h
theorem last_at {S : List Sy} {n : Nat} (hn : S.length = n) (h0 : 0 < n) : ∃ x, S[n - 1]? = some x ∧ S.getLast? = some x := by
  have : n - 1 < S.length := by omega
  exact ⟨_, List.getElem?_eq_getElem this, by rw [List.getLast?_eq_getElem?, hn, List.getElem?_eq_getElem this]⟩
/-- May something be done now with stays that may be? -/
def mayB (S : List Sy) (now : Int) : Bool := match S.getLast? with | none => decide (0 ≤ now) | some s => if s.to = -1 then decide (s.frm ≤ now) else decide (now = s.to)
theorem may_B {S : List Sy} {now : Int} (h : Right S) : mayB S now = true ↔ May S now := by
  rcases ends_of S with rfl | ⟨A, s, rfl⟩
  · constructor
    · intro hb
      exact ⟨h, by simpa [mayB] using hb, fun s hs => by cases hs⟩
    · intro hm
      have := hm.2.1
      simpa [mayB] using this
  · unfold mayB
    rw [List.getLast?_concat]
    simp only
    obtain ⟨h1, h2, h3, h4, h5⟩ := right_snoc.1 h
    constructor
    · intro hb
      by_cases hc : s.to = -1
      · rw [if_pos hc, decide_eq_true_eq] at hb
        refine ⟨h, by omega, fun x hx => ?_⟩
        rw [List.getLast?_concat] at hx
        rw [← Option.some.inj hx]
        exact .inl ⟨hc, hb⟩
      · rw [if_neg hc, decide_eq_true_eq] at hb
        refine ⟨h, by omega, fun x hx => ?_⟩
        rw [List.getLast?_concat] at hx
        rw [← Option.some.inj hx]
        exact .inr hb.symm
    · intro hm
      rcases may_last hm with ⟨e, hf⟩ | e
      · rw [if_pos e, decide_eq_true_eq]
        exact hf
      · have := hm.2.1
        rw [if_neg (by omega), decide_eq_true_eq]
        exact e.symm
theorem may_no {S : List Sy} {now : Int} (h : Right S) (hm : ¬ May S now) : mayB S now = false := by
  cases hb : mayB S now
  · rfl
  · exact absurd ((may_B h).1 hb) hm
end Sy
end Go.Proofs.YtgmjmkkhoibbcaaDoor
