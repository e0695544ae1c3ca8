/- Package master: a master in memory. No condition but those written. -/
import Derived.Test.YtpceoklacpcfkaaMsFace
namespace Go.Proofs.Ytpceoklacpcfkaa
open Go.RowKit Go.Maps

namespace Ms
/-- A master: a block that leads to nothing, or to a map, twice. -/
def PM (w : World) (B h : Nat) (F : Nat → Prop) (Z : List Zn) (P : List Pd) : Prop :=
  ∃ mz mp : Option Nat, Lies w h 54 #[.map mz, .map mp] ∧ B ≤ h ∧ (∀ k, F k ↔ k = h ∨ mz = some k ∨ mp = some k) ∧ Tab Zf Zn.id w B mz Z ∧ Tab Pf Pd.id w B mp P ∧ ∀ k, mz = some k → mp ≠ some k
theorem pm_foot {w : World} {B h : Nat} {F : Nat → Prop} {Z : List Zn} {P : List Pd} {k : Nat} (hp : PM w B h F Z P) (hk : F k) : B ≤ k ∧ k < w.heap.size := by
  obtain ⟨mz, mp, hl, hB, hF, hz, hpp, _⟩ := hp
  rcases (hF k).1 hk with rfl | e | e
  · exact ⟨hB, hl.lt⟩
  · exact tab_lt hz e
  · exact tab_lt hpp e
theorem pm_turn {w w' : World} {B h : Nat} {F T : Nat → Prop} {Z : List Zn} {P : List Pd} (hp : PM w B h F Z P) (ht : Turn T w w') (hs : ∀ k, F k → ¬ T k) : PM w' B h F Z P := by
  obtain ⟨mz, mp, hl, hB, hF, hz, hpp, hd⟩ := hp
  exact ⟨mz, mp, hl.turn ht (hs h ((hF h).2 (.inl rfl))), hB, hF, tab_turn hz ht (fun k hk => hs k ((hF k).2 (.inr (.inl hk)))), tab_turn hpp ht (fun k hk => hs k ((hF k).2 (.inr (.inr hk)))), hd⟩
theorem pm_keep {w w' : World} {B h : Nat} {F : Nat → Prop} {Z : List Zn} {P : List Pd} (hp : PM w B h F Z P) (hb : Below w.heap.size w w') : PM w' B h F Z P :=
  pm_turn hp (T := fun _ => False) (Turn.of_below hb) (fun _ _ hf => hf)
/-- What a call leaves that changes nothing. -/
theorem pm_same {w w' : World} {B h : Nat} {F : Nat → Prop} {Z : List Zn} {P : List Pd} (hp : PM w B h F Z P) (hb : Below w.heap.size w w') : ∃ F', PM w' B h F' Z P ∧ Turn F w w' ∧ ∀ k, F' k → F k ∨ w.heap.size ≤ k :=
  ⟨F, pm_keep hp hb, Turn.of_below hb, fun _ hk => .inl hk⟩
theorem pnew_any (w : World) : Calls Try.prog 6 #[] w fun e w' => ∃ h F, e = .returned (.pointer (some ⟨h, 0, none⟩)) ∧ PM w' w.heap.size h F [] [] ∧ Below w.heap.size w w' := by
  have X := Lib.hid (Lies.new w 54 #[.map none, .map none])
  go_enter Try.func6, Try.ntmps6
  go_wp2
  go_ret
  exact ⟨w.heap.size, fun k => k = w.heap.size, rfl, ⟨none, none, X.out, Nat.le_refl _, fun k => by simp, .inl ⟨rfl, rfl⟩, .inl ⟨rfl, rfl⟩, fun k h => by cases h⟩, alloc_below w _⟩
end Ms
end Go.Proofs.Ytpceoklacpcfkaa
