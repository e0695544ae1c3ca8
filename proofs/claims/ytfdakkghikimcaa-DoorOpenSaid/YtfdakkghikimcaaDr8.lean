/- The document's answer of layer 8: what Put answers to marks in order, whole; what Open, Runs and Alarms answer. No condition but those written. -/
import Derived.Test.YtfdakkghikimcaaDrFace
namespace Go.Proofs.Ytfdakkghikimcaa
open Go.RowKit

namespace Dr
open Se
theorem dputs_any (p : Option Addr) (n c : Nat) (S : List Rd) (r : Rd) (w : World) (hn : n ≤ 1000000) (h : Rw 3 mcells w p n S) (hS : Good S) (hr : binB r = true) :
    Calls Try.prog 9 #[.slice p n c, mval r] w fun e w' => ∃ p' c', e = .returned (.tuple #[.slice p' (putM S r).2.2.length c', .bool (putM S r).1, .int .i64 ((putM S r).2.1 : Nat)]) ∧ Rw 3 mcells w' p' (putM S r).2.2.length (putM S r).2.2 ∧ Below w.heap.size w w' := by
  unfold putM
  by_cases hm : rightM r = true
  · rw [if_pos hm]
    refine (dput_yes p n c S r w hn h hm hr hS.bin).mono ?_
    rintro e w' ⟨v, rfl, hown, hb⟩
    rw [putF_put hS.sorted hr hS.bin] at hown ⊢
    obtain ⟨q, cap, e, _, hq⟩ := rw_own mcells_len hown
    subst e
    exact ⟨q, cap, rfl, hq, hb⟩
  · rw [if_neg hm]
    refine (dput_no p n c r w (by simpa using hm)).mono ?_
    rintro e w' ⟨rfl, hb⟩
    have := h.1
    subst this
    exact ⟨p, c, rfl, h.keep mcells_len hb, hb⟩
theorem dopens_any (p : Option Addr) (n c : Nat) (S : List Rd) (m : Int) (w : World) (hn : n ≤ 1000000) (h : Rw 3 mcells w p n S) (hS : Good S) :
    Calls Try.prog 18 #[.slice p n c, .int .i64 m] w fun e w' => e = .returned (.bool (opn S m)) ∧ w = w' := by
  rw [← opnF_sorted hS.sorted]
  exact dopen_any p n c S m w (by omega) h
theorem opnF_fun {S : List Rd} (hS : Good S) : opnF S = opn S := funext fun _ => opnF_sorted hS.sorted
/-- The runs, and alarms, of marks in order, whoever tells them. -/
theorem runs_same {S : List Rd} (hS : Good S) {e : Int} {R R' : List Ru} (h : RunsOf (opn S) e R) (h' : RunsOf (opnF S) e R') : R' = R := by
  rw [opnF_fun hS] at h'
  exact runs_unique h' h
end Dr
end Go.Proofs.Ytfdakkghikimcaa
