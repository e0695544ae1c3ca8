/- The document's answer of layer 10: a master in memory. No condition but those written. -/
import Derived.Test.YtpceoklacpcfkaaMsMap
namespace Go.Proofs.Ytpceoklacpcfkaa
open Go.RowKit

namespace Ms
theorem own_floor2 {w : World} {B B' : Nat} {e : TypeId} {k n : Nat} {v : Value} {xs : List Value} (h : w.ownsRow B e k v n xs) (hb : B' ≤ B) : w.ownsRow B' e k v n xs := by
  refine ⟨h.1, ?_⟩
  rcases h.2 with h0 | ⟨g, cap, cur, e1, h1, h2⟩
  · exact .inl h0
  · exact .inr ⟨g, cap, cur, e1, Nat.le_trans hb h1, h2⟩
/-- The document's master: at block g, its zones' slice vz, its products' vp. -/
def RM (w : World) (B g : Nat) (vz vp : Value) (Z : List Zn) (P : List Pd) : Prop :=
  B ≤ g ∧ Lies w g 29 #[vz, vp] ∧ w.ownsRow B 33 6 vz Z.length (Z.flatMap zcells) ∧ w.ownsRow B 36 3 vp P.length (P.flatMap pcells)
theorem RM.turn {w w' : World} {B g : Nat} {vz vp : Value} {Z : List Zn} {P : List Pd} {T : Nat → Prop} (h : RM w B g vz vp Z P) (ht : Turn T w w') (hg : ¬ T g) (hz : ∀ k, vz.ownBlock = some k → ¬ T k) (hp : ∀ k, vp.ownBlock = some k → ¬ T k) : RM w' B g vz vp Z P :=
  ⟨h.1, h.2.1.turn ht hg, own_turn h.2.2.1 ht hz, own_turn h.2.2.2 ht hp⟩
theorem RM.keep {w w' : World} {B g : Nat} {vz vp : Value} {Z : List Zn} {P : List Pd} (h : RM w B g vz vp Z P) (hb : Below w.heap.size w w') : RM w' B g vz vp Z P :=
  h.turn (T := fun _ => False) (Turn.of_below hb) (fun hh => hh) (fun _ _ hh => hh) (fun _ _ hh => hh)
end Ms
end Go.Proofs.Ytpceoklacpcfkaa
