/- Marks that came in. No condition but those written. -/
import Derived.Test.YtfdakkghikimcaaIn
import Derived.Test.YtfdakkghikimcaaDr7
namespace Go.Proofs.Ytfdakkghikimcaa
open Go.RowKit Go.ChangeShapes Go.WideShapes

namespace Dr
open Se
theorem mks_of {H : Type} {enc : TypeId × Value → H} {w : World} {base : Nat} {spare : Nat → Bool} {held : Bool} {fuel : Nat} {p : Option Addr} {len cap : Nat} {y : DataW H × List MemPlace}
    (h : DataW.trod enc Try.prog w base spare held fuel 22 [.slice p len cap] = some y) : len ≤ cap ∧ len ≤ 9223372036854775807 ∧ ∃ l, Rw 3 mcells w p len l ∧ ∀ x ∈ l, binB x = true := by
  rcases open_parts Try.underlying22 Try.underlying31 (m := 3) (by kernel_rfl) h with h0 | ⟨a, n, c, hcs, hl, hm, hp⟩
  · simp only [List.cons.injEq, and_true, Value.slice.injEq] at h0
    obtain ⟨rfl, rfl, rfl⟩ := h0
    exact ⟨Nat.le_refl _, Nat.zero_le _, [], rw_nil w, fun y hy => by simp at hy⟩
  · simp only [List.cons.injEq, and_true, Value.slice.injEq] at hcs
    obtain ⟨rfl, rfl, rfl⟩ := hcs
    unfold maxLen at hm
    refine ⟨hl, by omega, ?_⟩
    obtain ⟨b, o, spot⟩ := a
    have hs : 0 < len → spot = none := by
      intro h0
      obtain ⟨part, n, hlen, hc, _⟩ := hp 0 h0
      match part, hlen with
      | [v0, v1, v2], _ =>
        have k0 := hc 0 (by decide)
        simpa [Addr.add] using World.cell?_spot k0
    by_cases h0 : 0 < len
    case neg =>
      obtain rfl : len = 0 := by omega
      exact ⟨[], rw_zero w _, fun y hy => by simp at hy⟩
    obtain rfl := hs h0
    have key : ∀ i, i < len → ∃ t : Rd, (∀ j, j < 3 → w.cell? ⟨b, o + i * 3 + j, none⟩ = (mcells t)[j]?) ∧ binB t = true := by
      intro i hi
      obtain ⟨part, n, hlen, hc, hf⟩ := hp i hi
      match part, hlen with
      | [v0, v1, v2], _ =>
        obtain ⟨y0, f0⟩ := hf 0 _ rfl
        change DataW.trod enc Try.prog w base spare held n 3 (List.take (Try.prog.cellsOf 3) (List.drop 0 [v0, v1, v2])) = some y0 at f0
        obtain ⟨y1, f1⟩ := hf 1 _ rfl
        change DataW.trod enc Try.prog w base spare held n 3 (List.take (Try.prog.cellsOf 3) (List.drop 1 [v0, v1, v2])) = some y1 at f1
        obtain ⟨y2, f2⟩ := hf 2 _ rfl
        change DataW.trod enc Try.prog w base spare held n 4 (List.take (Try.prog.cellsOf 4) (List.drop 2 [v0, v1, v2])) = some y2 at f2
        rw [show Try.prog.cellsOf 3 = 1 by kernel_rfl] at f0 f1
        rw [show Try.prog.cellsOf 4 = 1 by kernel_rfl] at f2
        obtain ⟨m0, e0, _, _⟩ := DataW.trod_int Try.underlying3 f0
        obtain ⟨m1, e1, _, _⟩ := DataW.trod_int Try.underlying3 f1
        obtain ⟨m2, e2, _⟩ := DataW.trod_bool Try.underlying4 f2
        simp only [List.drop_zero, List.drop_succ_cons, List.take_succ_cons, List.take_zero, List.cons.injEq, and_true] at e0 e1 e2
        subst e0 e1 e2
        refine ⟨⟨m0, m1, tenOf m2⟩, fun j hj => ?_, binB_of _ _ _⟩
        have := hc j hj
        rw [add_none, ← Nat.add_assoc] at this
        rw [mcells_of]
        exact this
    obtain ⟨l, hll, hlk⟩ := list_of (zero : Rd) (fun i t => (∀ j, j < 3 → w.cell? ⟨b, o + i * 3 + j, none⟩ = (mcells t)[j]?) ∧ binB t = true) len key
    refine ⟨l, ⟨hll, fun _ => ⟨b, o, rfl, fun j x hx i hi => ?_⟩⟩, fun x hx => ?_⟩
    case refine_2 =>
      obtain ⟨j, hj, e⟩ := List.mem_iff_getElem.1 hx
      have := (hlk j (by omega)).2
      rwa [List.getD_eq_getElem?_getD, List.getElem?_eq_getElem hj, e] at this
    have hj := (List.getElem?_eq_some_iff.1 hx).1
    have := (hlk j (by omega)).1 i hi
    rw [List.getD_eq_getElem?_getD, hx] at this
    exact this
/-- Marks that came in. -/
def InM (W : World) (v : Value) (x : Bs) : Prop := v = .slice x.p x.n x.c ∧ x.n ≤ x.c ∧ x.n ≤ 9223372036854775807 ∧ ∃ l, Rw 3 mcells W x.p x.n l ∧ ∀ y ∈ l, binB y = true
theorem inM_of {H : Type} {enc : TypeId × Value → H} {W : World} {base : Nat} {v : Value} {d : DataW H} {ps : List MemPlace} (hv : Value.okWide Try.prog W .any base 22 v) (h : DataW.Trod enc Try.prog W 0 (fun _ => true) true 22 v d ps) :
    ∃ x, InM W v x := by
  obtain ⟨a, len, cap, rfl⟩ := okWide_slice Try.underlying22 hv
  obtain ⟨fuel, hf⟩ := h
  obtain ⟨g1, g2, l, hA⟩ := mks_of hf
  exact ⟨⟨a, len, cap⟩, rfl, g1, g2, l, hA⟩
end Dr
end Go.Proofs.Ytfdakkghikimcaa
