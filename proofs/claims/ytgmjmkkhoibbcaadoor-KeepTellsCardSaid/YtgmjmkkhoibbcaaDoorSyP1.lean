/- Walks over package stays: may stays be, does the last one go on, may something be done now. Condition: the list reads as stays. -/
import Derived.Test.YtgmjmkkhoibbcaaDoorSyFace
import Derived.Deep.QuietTactic
import Derived.BigQuiet
namespace Go.Proofs.YtgmjmkkhoibbcaaDoor
open Go.RowKit

namespace Sy
/-- A stay's cells. -/
theorem rw_at {w : World} {p : Option Addr} {n : Nat} {S : List Sy} (h : Rw 3 scells w p n S) {k : Nat} {x : Sy} (hx : S[k]? = some x) :
    ∃ b o, p = some ⟨b, o, none⟩ ∧ w.cell? ⟨b, o + k * 3, none⟩ = some (.int .i64 x.zone) ∧ w.cell? ⟨b, o + k * 3 + 1, none⟩ = some (.int .i64 x.frm) ∧ w.cell? ⟨b, o + k * 3 + 2, none⟩ = some (.int .i64 x.to) := by
  have hk : k < S.length := (List.getElem?_eq_some_iff.1 hx).1
  obtain ⟨b, o, e, hc⟩ := h.2 (by rw [← h.1]; omega)
  exact ⟨b, o, e, hc k x hx 0 (by decide), hc k x hx 1 (by decide), hc k x hx 2 (by decide)⟩
/-- What stands ahead of the one that a loop is at is as it may be. -/
def Ahead (S : List Sy) (k : Nat) : Prop := ∀ i s, i < k → S[i]? = some s → 1 ≤ s.zone ∧ 0 ≤ s.frm ∧ (s.frm < s.to ∨ s.to = -1) ∧ ∀ t, 0 < i → S[i - 1]? = some t → s.frm = t.to
theorem ahead_zero (S : List Sy) : Ahead S 0 := fun i s h => by omega
theorem ahead_next {S : List Sy} {k : Nat} {x : Sy} (h : Ahead S k) (hx : S[k]? = some x) (h1 : 1 ≤ x.zone ∧ 0 ≤ x.frm ∧ (x.frm < x.to ∨ x.to = -1) ∧ ∀ t, 0 < k → S[k - 1]? = some t → x.frm = t.to) : Ahead S (k + 1) := fun i s hi hs => by
  by_cases hlt : i < k
  · exact h i s hlt hs
  · obtain rfl : i = k := by omega
    rw [hx] at hs
    rw [← Option.some.inj hs]
    exact h1
theorem ahead_all {S : List Sy} (h : Ahead S S.length) : rightB S = true := rightB_iff.2 fun i s hs => h i s (List.getElem?_eq_some_iff.1 hs).1 hs
end Sy
end Go.Proofs.YtgmjmkkhoibbcaaDoor
