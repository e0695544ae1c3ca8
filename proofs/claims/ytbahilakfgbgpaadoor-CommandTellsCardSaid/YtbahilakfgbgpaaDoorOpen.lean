/- Slices of structs, structs and arrays that came in: its cells, and how each field reads. No condition but those written. -/
import Derived.Deep.Slices
import Derived.ChangeArms
import Derived.ChangeSlices
import Derived.ChangeSame
import Derived.DataReads
import Derived.OpenShut
namespace Go.Proofs.YtbahilakfgbgpaaDoor
open Go.ChangeShapes Go.WideShapes Go.Deep

/-- The parts of a struct that lies in a row: its cells, each field's own reading. -/
theorem open_parts {H : Type} {enc : TypeId × Value → H} {P : Program} {w : World} {base : Nat} {spare : Nat → Bool} {held : Bool} {t e : TypeId} {fs : Array Field} {m fuel : Nat} {cs : List Value} {x : DataW H × List MemPlace}
    (ht : P.underlying t = some (.slice e)) (he : P.underlying e = some (.struct fs)) (hm : P.cellsOf e = m) (h : DataW.trod enc P w base spare held fuel t cs = some x) :
    cs = [.slice none 0 0] ∨ ∃ (a : Addr) (len cap : Nat), cs = [.slice (some a) len cap] ∧ len ≤ cap ∧ cap ≤ maxLen ∧
      ∀ i, i < len → ∃ (part : List Value) (n : Nat), part.length = m ∧ (∀ j, j < m → w.cell? (a.add (i * m + j)) = part[j]?) ∧
        ∀ (k : Nat) (f : Field), fs[k]? = some f → ∃ y, DataW.trod enc P w base spare held n f.type ((part.drop f.offset).take (P.cellsOf f.type)) = some y := by
  subst hm
  rcases open_slice ht h with h0 | ⟨a, len, cap, m, n, D, Pl, h1, _, h2, h3, h4, _, h5⟩
  · exact .inl h0.1
  · refine .inr ⟨a, len, cap, h1, h2, h3, fun i hi => ?_⟩
    have him : i < m := by
      rw [h4]
      split <;> omega
    obtain ⟨part, hp, hd⟩ := h5 i him
    obtain ⟨_, hl, hc⟩ := World.cells?_some hp
    obtain ⟨ys, n', _, _, _, hyl, hf⟩ := DataW.trod_struct he hd
    refine ⟨part, n', hl, fun j hj => ?_, fun k f hk => ?_⟩
    · rw [← Go.Deep.add_add]
      exact hc j hj
    · have hlt : k < ys.length := by
        rw [hyl]
        exact (Array.getElem?_eq_some_iff.1 hk).1
      exact ⟨ys[k], by rw [hf k f hk, List.getElem?_eq_getElem hlt]⟩
/-- A struct that came in by value: its parts, each field's own reading. -/
theorem open_whole {H : Type} {enc : TypeId × Value → H} {P : Program} {w : World} {base : Nat} {spare : Nat → Bool} {held : Bool} {r : Reach} {b0 : Nat} {t : TypeId} {fs : Array Field} {m : Nat} {v : Value} {d : DataW H} {ps : List MemPlace}
    (hs : P.underlying t = some (.struct fs)) (hm : P.cellsOf t = m) (hv : Value.okWide P w r b0 t v) (h : DataW.Trod enc P w base spare held t v d ps) :
    ∃ cs : List Value, v = .agg ⟨cs⟩ ∧ cs.length = m ∧ ∀ (k : Nat) (f : Field), fs[k]? = some f → ∃ n y, DataW.trod enc P w base spare held n f.type ((cs.drop f.offset).take (P.cellsOf f.type)) = some y := by
  subst hm
  simp only [Value.okWide, hs] at hv
  obtain ⟨⟨cs⟩, rfl, hn, _⟩ := hv
  obtain ⟨fuel, hf⟩ := h
  obtain ⟨ys, n, _, _, hl, hyl, hg⟩ := DataW.trod_struct hs hf
  refine ⟨cs, rfl, by simpa [Value.cells] using hl, fun k f hk => ?_⟩
  have hlt : k < ys.length := by
    rw [hyl]
    exact (Array.getElem?_eq_some_iff.1 hk).1
  exact ⟨n, ys[k], by simpa [Value.cells, List.getElem?_eq_getElem hlt] using hg k f hk⟩
/-- An array that came in by value: its parts, each element's own reading. -/
theorem open_array {H : Type} {enc : TypeId × Value → H} {P : Program} {w : World} {base : Nat} {spare : Nat → Bool} {held : Bool} {r : Reach} {b0 : Nat} {t e : TypeId} {m j c : Nat} {v : Value} {d : DataW H} {ps : List MemPlace}
    (hs : P.underlying t = some (.array j e)) (hm : P.cellsOf t = m) (hc : P.cellsOf e = c) (hv : Value.okWide P w r b0 t v) (h : DataW.Trod enc P w base spare held t v d ps) :
    ∃ cs : List Value, v = .agg ⟨cs⟩ ∧ cs.length = m ∧ ∀ k, k < j → ∃ n y, DataW.trod enc P w base spare held n e ((cs.drop (k * c)).take c) = some y := by
  subst hm hc
  simp only [Value.okWide, hs] at hv
  obtain ⟨⟨cs⟩, rfl, hn, _⟩ := hv
  obtain ⟨fuel, hf⟩ := h
  obtain ⟨ys, n, _, _, hl, hyl, hg⟩ := DataW.trod_array hs hf
  refine ⟨cs, rfl, by simpa [Value.cells] using hl, fun k hk => ?_⟩
  have hlt : k < ys.length := by rw [hyl]; exact hk
  exact ⟨n, ys[k], by simpa [Value.cells, List.getElem?_eq_getElem hlt] using hg k hk⟩
end Go.Proofs.YtbahilakfgbgpaaDoor
