/- Walks over the document's answer of layer 17: a certificate's bytes, a number of bytes. No condition but those written. -/
import Derived.Test.YtbahilakfgbgpaaDoorCe1
import Derived.Test.YtbahilakfgbgpaaDoorOb4
namespace Go.Proofs.YtbahilakfgbgpaaDoor
open Go.RowKit

namespace Ce
theorem rwrote_below {w wi w' : World} {B g : Nat} {v : Value} {s0 s : Option (List Nat)} (hp : Ob.RW wi B g v s0) (hb : Below B w wi) (h : Ob.RWrote wi B g v s w') : ∃ v', Ob.RW w' B g v' s ∧ Below B w w' := by
  obtain ⟨v', hp', ht, _⟩ := h
  exact ⟨v', hp', ht.below hb (Nat.le_trans hp.1 (Nat.le_of_lt (hp.foot (.inl rfl)).2)) (fun i hi => (hp.foot hi).1)⟩
theorem short_some {l : List Nat} {n : Nat} (h : l.length ≤ n) : Ob.short (some l) n := fun l' e => by
  injection e with e
  rw [← e]
  exact h
theorem rw_new (w : World) : Ob.RW (w.alloc (.cells #[.slice none 0 0, .int .i64 0] 49)) w.heap.size w.heap.size (.slice none 0 0) (some []) :=
  ⟨Nat.le_refl _, Lies.new w 49 _, ⟨rfl, .inl ⟨rfl, rfl⟩⟩, fun x hx => by simp at hx⟩
theorem wnum_eight {l : List Nat} {n : Nat} (hn : n ≤ 4611686018427387904) : Oc.wnum (some l) n 8 = some (l ++ Oc.be 8 n) := by
  rw [Oc.wnum_yes l (Oc.fit_mk (by omega) (by omega) (by simp; omega))]
  rfl
theorem u64_nat {n : Nat} (h : n ≤ 4611686018427387904) : IntKind.u64.wrap (n : Int) = (n : Int) := by
  simp [IntKind.wrap, IntKind.bits, IntKind.signed]
  omega
end Ce
end Go.Proofs.YtbahilakfgbgpaaDoor
