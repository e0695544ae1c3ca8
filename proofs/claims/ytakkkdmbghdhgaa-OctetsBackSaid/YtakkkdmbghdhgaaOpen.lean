/- A slice of structs that came in: its cells, and how each field reads. No condition but those written. -/
import Derived.Deep.Slices
import Derived.ChangeArms
import Derived.ChangeSlices
import Derived.ChangeSame
import Derived.DataReads
namespace Go.Proofs.Ytakkkdmbghdhgaa
open Go.ChangeShapes Go.WideShapes Go.Deep

/-- The parts of a struct that lies in a row: its cells, each field's own reading. -/
theorem open_parts {H : Type} {enc : TypeId × Value → H} {P : Program} {w : World} {base : Nat} {spare : Nat → Bool} {held : Bool} {t e : TypeId} {fs : Array Field} {m fuel : Nat} {cs : List Value} {x : DataW H × List MemPlace}
    (ht : P.underlying t = some (.slice e)) (he : P.underlying e = some (.struct fs)) (hm : P.cellsOf e = m) (h : DataW.trod enc P w base spare held fuel t cs = some x) :
    cs = [.slice none 0 0] ∨ ∃ (a : Addr) (len cap : Nat), cs = [.slice (some a) len cap] ∧ len ≤ cap ∧ cap ≤ maxLen ∧
      ∀ i, i < len → ∃ (part : List Value) (n : Nat), part.length = m ∧ (∀ j, j < m → w.cell? (a.add (i * m + j)) = part[j]?) ∧
        ∀ (k : Nat) (f : Field), fs[k]? = some f → ∃ y, DataW.trod enc P w base spare held n f.type ((part.drop f.offset).take (P.cellsOf f.type)) = some y := by
  subst hm
  rcases open_slice ht h with h0 | ⟨a, len, cap, m, n, D, Pl, h1, _, h2, h3, h4, _, h5⟩
  · exact .inl h0.1
  · refine .inr ⟨a, len, cap, h1, h2, h3, fun i hi => ?_⟩
    have him : i < m := by
      rw [h4]
      split <;> omega
    obtain ⟨part, hp, hd⟩ := h5 i him
    obtain ⟨_, hl, hc⟩ := World.cells?_some hp
    obtain ⟨ys, n', _, _, _, hyl, hf⟩ := DataW.trod_struct he hd
    refine ⟨part, n', hl, fun j hj => ?_, fun k f hk => ?_⟩
    · rw [← Go.Deep.add_add]
      exact hc j hj
    · have hlt : k < ys.length := by
        rw [hyl]
        exact (Array.getElem?_eq_some_iff.1 hk).1
      exact ⟨ys[k], by rw [hf k f hk, List.getElem?_eq_getElem hlt]⟩
end Go.Proofs.Ytakkkdmbghdhgaa
