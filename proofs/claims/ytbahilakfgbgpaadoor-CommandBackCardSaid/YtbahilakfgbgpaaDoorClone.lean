/- bytes.Clone over slices that read as lists of bytes; the shelf's contracts are laid by shelf.py (bytes_Clone_at bytes_Clone_nil). -/
import Derived.Test.YtbahilakfgbgpaaDoorBytes
import Derived.Test.YtbahilakfgbgpaaDoorShelf
namespace Go.Proofs.YtbahilakfgbgpaaDoor
open Go.RowKit

theorem clone_any (p : Option Addr) (n c : Nat) (l : List Nat) (w : World) (hbig : n ≤ 1000000) (h : At w p n l) :
    Calls Tryd.prog 39 #[.slice p n c] w fun e w' => ∃ q d, e = .returned (.slice q n d) ∧ n ≤ d ∧ At w' q n l ∧ Below w.heap.size w w' := by
  cases p with
  | none =>
    have hm : n = 0 := by
      rcases Nat.eq_zero_or_pos n with h0 | h0
      · exact h0
      · obtain ⟨_, _, e, _⟩ := h.2.2 h0
        cases e
    subst hm
    exact (Tryd.bytes_Clone_nil 0 c w).mono fun e w' ⟨he, hw⟩ => ⟨none, 0, he, Nat.le_refl _, hw ▸ h, hw ▸ Below.refl _ _⟩
  | some a =>
    have hl := h.1
    have hx := h.2.1
    refine (Tryd.bytes_Clone_at a n c (l.map fun x => ((x : Nat) : Int)) w (by simpa using hl) (by omega) (fun i hi => ?_)).mono fun e w' ⟨v, he, hown, _, hb⟩ => ?_
    · obtain ⟨b, o, e, hj⟩ := h.2.2 (by omega)
      cases e
      rw [add_none, hj i hi]
      simp [List.getD_eq_getElem?_getD, List.getElem?_map, List.getElem?_eq_getElem (show i < l.length by omega)]
    · have hown' : w'.ownsRow w.heap.size 5 1 v n (bys l) := by
        have e2 : (l.map fun x => ((x : Nat) : Int)).map (Value.int .u8) = bys l := by simp [bys]
        rwa [e2] at hown
      obtain ⟨q, d, rfl, hd, hA⟩ := at_own hl hx hown'
      exact ⟨q, d, he, hd, hA, hb⟩
end Go.Proofs.YtbahilakfgbgpaaDoor
