/- The live question of layer 6's laws: it returns true. Condition: the contracts of package series. -/
import Derived.Test.YtfmnbmjfkplieaaSeFace
namespace Go.Proofs.Ytfmnbmjfkplieaa
open Go.RowKit

namespace Se
def s1 : List Rd := [⟨10, 2, 40⟩]
def s2 : List Rd := [⟨10, 1, 70⟩, ⟨10, 2, 40⟩]
def s4 : List Rd := [⟨10, 1, 70⟩, ⟨10, 2, 50⟩]
theorem q1 : putR [] ⟨10, 2, 40⟩ = (true, 0, s1) ∧ sortL s1 = s1 := by decide
theorem q2 : putR s1 ⟨10, 1, 70⟩ = (true, 0, [⟨10, 2, 40⟩, ⟨10, 1, 70⟩]) ∧ sortL [⟨10, 2, 40⟩, ⟨10, 1, 70⟩] = s2 := by decide
theorem q3 : putR s2 ⟨10, 2, 30⟩ = (false, 0, s2) ∧ sortL s2 = s2 := by decide
theorem q4 : putR s2 ⟨10, 2, 50⟩ = (true, 0, s4) ∧ sortL s4 = s4 := by decide
theorem q5 : putR s4 ⟨-1, 0, 0⟩ = (false, 1, s4) := by decide
theorem q6 : air 99 5 s4 9 = 99 ∧ air 99 5 s4 15 = 50 ∧ air 99 5 s4 16 = 99 ∧ next 5 s4 3 = 10 ∧ next 5 s4 10 = 16 ∧ next 5 s4 16 = -1 := by decide
theorem sorted_s1 : Sorted s1 := by unfold Sorted s1; decide
theorem sorted_s2 : Sorted s2 := by unfold Sorted s2; decide
theorem sorted_s4 : Sorted s4 := by unfold Sorted s4; decide
theorem right_s1 : ∀ x ∈ s1, rightB x = true := by decide
theorem right_s2 : ∀ x ∈ s2, rightB x = true := by decide
theorem right_s4 : ∀ x ∈ s4, rightB x = true := by decide
end Se
end Go.Proofs.Ytfmnbmjfkplieaa
