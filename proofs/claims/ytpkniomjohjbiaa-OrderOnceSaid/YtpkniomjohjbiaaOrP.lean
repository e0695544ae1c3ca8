/- Layer 16's laws over arguments that came in. Conditions: the contracts of package order, and what comes in. -/
import Derived.Test.YtpkniomjohjbiaaIn2
import Derived.Test.YtpkniomjohjbiaaOpen
import Derived.Test.YtpkniomjohjbiaaOrL3
import Derived.Test.YtpkniomjohjbiaaOrL4
namespace Go.Proofs.Ytpkniomjohjbiaa
open Go.RowKit Go.ChangeShapes Go.WideShapes

namespace Or
def B63 (n : Nat) : Prop := n ≤ 9223372036854775807
theorem b63_zero : B63 0 := Nat.zero_le _
theorem b63_le {n c : Nat} (h : n ≤ c) (hc : c ≤ maxLen) : B63 n := by
  unfold maxLen at hc
  unfold B63
  omega
theorem i64_in {n : Int} (h : (Lit.int .i64 n).wf = true) : I64 n := Se.i64_of h
theorem u8_in {n : Int} (h : (Lit.int .u8 n).wf = true) : 0 ≤ n ∧ n ≤ 255 := by
  have h1 := (Lit.wf_int_iff .u8 n).1 h
  have e1 : IntKind.u8.min = 0 := by decide
  have e2 : IntKind.u8.max = 255 := by decide
  rw [e1, e2] at h1
  omega
set_option maxRecDepth 100000 in
theorem rowsA_of {H : Type} {enc : TypeId × Value → H} {w : World} {base : Nat} {spare : Nat → Bool} {held : Bool} {fuel : Nat} {cs : List Value} {y : DataW H × List MemPlace}
    (h : DataW.trod enc Try.prog w base spare held fuel 22 cs = some y) : ∃ p len cap, cs = [.slice p len cap] ∧ len ≤ cap ∧ B63 len ∧ ∃ l, Rw 3 acells w p len l ∧ ∀ x ∈ l, (Aok) x := by
  rcases open_parts Try.underlying22 Try.underlying29 (m := 3) (by kernel_rfl) h with h0 | ⟨a, len, cap, hcs, hl, hm, hp⟩
  · exact ⟨none, 0, 0, h0, Nat.le_refl _, b63_zero, [], rw_nil w, fun x hx => by simp at hx⟩
  · refine ⟨some a, len, cap, hcs, hl, b63_le hl hm, ?_⟩
    clear hm
    obtain ⟨b, o, spot⟩ := a
    have hs : 0 < len → spot = none := by
      intro h0
      obtain ⟨part, n, hlen, hc, _⟩ := hp 0 h0
      match part, hlen with
      | [v0, v1, v2], _ =>
        have k0 := hc 0 (by decide)
        simpa [Addr.add] using World.cell?_spot k0
    by_cases h0 : 0 < len
    case neg =>
      obtain rfl : len = 0 := by omega
      exact ⟨[], rw_zero w _, fun x hx => by simp at hx⟩
    obtain rfl := hs h0
    have key : ∀ i, i < len → ∃ t : Ac, (∀ j, j < 3 → w.cell? ⟨b, o + i * 3 + j, none⟩ = (acells t)[j]?) ∧ (Aok) t := by
      intro i hi
      obtain ⟨part, n, hlen, hc, hf⟩ := hp i hi
      match part, hlen with
      | [v0, v1, v2], _ =>
        obtain ⟨y0, f0⟩ := hf 0 _ rfl
        change DataW.trod enc Try.prog w base spare held n 5 (List.take (Try.prog.cellsOf 5) (List.drop 0 [v0, v1, v2])) = some y0 at f0
        rw [show Try.prog.cellsOf 5 = 1 by kernel_rfl] at f0
        obtain ⟨m0, e0, _, g0⟩ := DataW.trod_int Try.underlying5 f0
        obtain ⟨y1, f1⟩ := hf 1 _ rfl
        change DataW.trod enc Try.prog w base spare held n 3 (List.take (Try.prog.cellsOf 3) (List.drop 1 [v0, v1, v2])) = some y1 at f1
        rw [show Try.prog.cellsOf 3 = 1 by kernel_rfl] at f1
        obtain ⟨m1, e1, _, g1⟩ := DataW.trod_int Try.underlying3 f1
        obtain ⟨y2, f2⟩ := hf 2 _ rfl
        change DataW.trod enc Try.prog w base spare held n 3 (List.take (Try.prog.cellsOf 3) (List.drop 2 [v0, v1, v2])) = some y2 at f2
        rw [show Try.prog.cellsOf 3 = 1 by kernel_rfl] at f2
        obtain ⟨m2, e2, _, g2⟩ := DataW.trod_int Try.underlying3 f2
        simp only [List.drop_zero, List.drop_succ_cons, List.take_succ_cons, List.take_zero, List.cons.injEq, and_true] at e0 e1 e2
        subst e0 e1 e2
        refine ⟨⟨m0, m1, m2⟩, fun j hj => ?_, ⟨u8_in g0, i64_in g1, i64_in g2⟩⟩
        have := hc j hj
        rw [add_none, ← Nat.add_assoc] at this
        exact this
    obtain ⟨l, hll, hlk⟩ := list_of (⟨0, 0, 0⟩ : Ac) (fun i t => (∀ j, j < 3 → w.cell? ⟨b, o + i * 3 + j, none⟩ = (acells t)[j]?) ∧ (Aok) t) len key
    refine ⟨l, ⟨hll, fun _ => ⟨b, o, rfl, fun j x hx i hi => ?_⟩⟩, fun x hx => ?_⟩
    case refine_2 =>
      obtain ⟨j, hj, e⟩ := List.mem_iff_getElem.1 hx
      have h2 := (hlk j (by omega)).2
      have h3 : l.getD j (⟨0, 0, 0⟩ : Ac) = x := by rw [List.getD_eq_getElem?_getD, List.getElem?_eq_getElem hj]; exact e
      rw [h3] at h2
      exact h2
    have hj := (List.getElem?_eq_some_iff.1 hx).1
    have := (hlk j (by omega)).1 i hi
    rw [List.getD_eq_getElem?_getD, hx] at this
    exact this
set_option maxRecDepth 100000 in
theorem rowsO_of {H : Type} {enc : TypeId × Value → H} {w : World} {base : Nat} {spare : Nat → Bool} {held : Bool} {fuel : Nat} {cs : List Value} {y : DataW H × List MemPlace}
    (h : DataW.trod enc Try.prog w base spare held fuel 26 cs = some y) : ∃ p len cap, cs = [.slice p len cap] ∧ len ≤ cap ∧ B63 len ∧ ∃ l, Rw 4 ocells w p len l ∧ ∀ x ∈ l, (fun _ => True) x := by
  rcases open_parts Try.underlying26 Try.underlying40 (m := 4) (by kernel_rfl) h with h0 | ⟨a, len, cap, hcs, hl, hm, hp⟩
  · exact ⟨none, 0, 0, h0, Nat.le_refl _, b63_zero, [], rw_nil w, fun x hx => by simp at hx⟩
  · refine ⟨some a, len, cap, hcs, hl, b63_le hl hm, ?_⟩
    clear hm
    obtain ⟨b, o, spot⟩ := a
    have hs : 0 < len → spot = none := by
      intro h0
      obtain ⟨part, n, hlen, hc, _⟩ := hp 0 h0
      match part, hlen with
      | [v0, v1, v2, v3], _ =>
        have k0 := hc 0 (by decide)
        simpa [Addr.add] using World.cell?_spot k0
    by_cases h0 : 0 < len
    case neg =>
      obtain rfl : len = 0 := by omega
      exact ⟨[], rw_zero w _, fun x hx => by simp at hx⟩
    obtain rfl := hs h0
    have key : ∀ i, i < len → ∃ t : Od, (∀ j, j < 4 → w.cell? ⟨b, o + i * 4 + j, none⟩ = (ocells t)[j]?) ∧ (fun _ => True) t := by
      intro i hi
      obtain ⟨part, n, hlen, hc, hf⟩ := hp i hi
      match part, hlen with
      | [v0, v1, v2, v3], _ =>
        obtain ⟨y0, f0⟩ := hf 0 _ rfl
        change DataW.trod enc Try.prog w base spare held n 3 (List.take (Try.prog.cellsOf 3) (List.drop 0 [v0, v1, v2, v3])) = some y0 at f0
        rw [show Try.prog.cellsOf 3 = 1 by kernel_rfl] at f0
        obtain ⟨m0, e0, _, g0⟩ := DataW.trod_int Try.underlying3 f0
        obtain ⟨y1, f1⟩ := hf 1 _ rfl
        change DataW.trod enc Try.prog w base spare held n 3 (List.take (Try.prog.cellsOf 3) (List.drop 1 [v0, v1, v2, v3])) = some y1 at f1
        rw [show Try.prog.cellsOf 3 = 1 by kernel_rfl] at f1
        obtain ⟨m1, e1, _, g1⟩ := DataW.trod_int Try.underlying3 f1
        obtain ⟨y2, f2⟩ := hf 2 _ rfl
        change DataW.trod enc Try.prog w base spare held n 3 (List.take (Try.prog.cellsOf 3) (List.drop 2 [v0, v1, v2, v3])) = some y2 at f2
        rw [show Try.prog.cellsOf 3 = 1 by kernel_rfl] at f2
        obtain ⟨m2, e2, _, g2⟩ := DataW.trod_int Try.underlying3 f2
        obtain ⟨y3, f3⟩ := hf 3 _ rfl
        change DataW.trod enc Try.prog w base spare held n 3 (List.take (Try.prog.cellsOf 3) (List.drop 3 [v0, v1, v2, v3])) = some y3 at f3
        rw [show Try.prog.cellsOf 3 = 1 by kernel_rfl] at f3
        obtain ⟨m3, e3, _, g3⟩ := DataW.trod_int Try.underlying3 f3
        simp only [List.drop_zero, List.drop_succ_cons, List.take_succ_cons, List.take_zero, List.cons.injEq, and_true] at e0 e1 e2 e3
        subst e0 e1 e2 e3
        refine ⟨⟨m0, m1, m2, m3⟩, fun j hj => ?_, trivial⟩
        have := hc j hj
        rw [add_none, ← Nat.add_assoc] at this
        exact this
    obtain ⟨l, hll, hlk⟩ := list_of (od0 : Od) (fun i t => (∀ j, j < 4 → w.cell? ⟨b, o + i * 4 + j, none⟩ = (ocells t)[j]?) ∧ (fun _ => True) t) len key
    refine ⟨l, ⟨hll, fun _ => ⟨b, o, rfl, fun j x hx i hi => ?_⟩⟩, fun x hx => ?_⟩
    case refine_2 =>
      obtain ⟨j, hj, e⟩ := List.mem_iff_getElem.1 hx
      have h2 := (hlk j (by omega)).2
      have h3 : l.getD j (od0 : Od) = x := by rw [List.getD_eq_getElem?_getD, List.getElem?_eq_getElem hj]; exact e
      rw [h3] at h2
      exact h2
    have hj := (List.getElem?_eq_some_iff.1 hx).1
    have := (hlk j (by omega)).1 i hi
    rw [List.getD_eq_getElem?_getD, hx] at this
    exact this
/-- A slice that came in. -/
structure Sl where
  p : Option Addr
  n : Nat
  c : Nat
def InA (W : World) (v : Value) (x : Sl) : Prop := v = .slice x.p x.n x.c ∧ x.n ≤ x.c ∧ B63 x.n ∧ ∃ l, Rw 3 acells W x.p x.n l ∧ ∀ y ∈ l, Aok y
set_option maxRecDepth 100000 in
theorem inA_of {H : Type} {enc : TypeId × Value → H} {W : World} {base : Nat} {v : Value} {d : DataW H} {ps : List MemPlace} (hv : Value.okWide Try.prog W .any base 22 v) (h : DataW.Trod enc Try.prog W 0 (fun _ => true) true 22 v d ps) :
    ∃ x, InA W v x := by
  obtain ⟨a, len, cap, rfl⟩ := okWide_slice Try.underlying22 hv
  obtain ⟨fuel, hf⟩ := h
  obtain ⟨p, n, c, e, g1, g2, l, hA, hB⟩ := rowsA_of hf
  simp only [Value.cells, List.cons.injEq, and_true, Value.slice.injEq] at e
  obtain ⟨rfl, rfl, rfl⟩ := e
  exact ⟨⟨a, len, cap⟩, rfl, g1, g2, l, hA, hB⟩
def InO (W : World) (v : Value) (x : Sl) : Prop := v = .slice x.p x.n x.c ∧ x.n ≤ x.c ∧ B63 x.n ∧ ∃ l, Rw 4 ocells W x.p x.n l
set_option maxRecDepth 100000 in
theorem inO_of {H : Type} {enc : TypeId × Value → H} {W : World} {base : Nat} {v : Value} {d : DataW H} {ps : List MemPlace} (hv : Value.okWide Try.prog W .any base 26 v) (h : DataW.Trod enc Try.prog W 0 (fun _ => true) true 26 v d ps) :
    ∃ x, InO W v x := by
  obtain ⟨a, len, cap, rfl⟩ := okWide_slice Try.underlying26 hv
  obtain ⟨fuel, hf⟩ := h
  obtain ⟨p, n, c, e, g1, g2, l, hA, _⟩ := rowsO_of hf
  simp only [Value.cells, List.cons.injEq, and_true, Value.slice.injEq] at e
  obtain ⟨rfl, rfl, rfl⟩ := e
  exact ⟨⟨a, len, cap⟩, rfl, g1, g2, l, hA⟩
theorem plays_all (I : Face) (v0 : Value) (x0 : Sl) (W : World) (h0 : InA W v0 x0) :
    Calls Try.prog 3 #[v0] W fun e w' => e = .returned (.bool true) ∧ Below W.heap.size W w' := by
  obtain ⟨rfl, _, hb, l, hA, hO⟩ := h0
  by_cases hn : 200 < x0.n
  · exact oplays_long I _ _ _ W hn hb
  · exact oplays_short I _ _ _ l W hA hO (by omega)
theorem once_all (I : Face) (v0 : Value) (x0 : Sl) (W : World) (h0 : InA W v0 x0) :
    Calls Try.prog 5 #[v0] W fun e w' => e = .returned (.bool true) ∧ Below W.heap.size W w' := by
  obtain ⟨rfl, _, hb, l, hA, hO⟩ := h0
  by_cases hn : 200 < x0.n
  · exact oonce_long I _ _ _ W hn hb
  · exact oonce_short I _ _ _ l W hA hO (by omega)
theorem lists_all (I : Face) (v0 : Value) (x0 : Sl) (W : World) (h0 : InO W v0 x0) :
    Calls Try.prog 4 #[v0] W fun e w' => e = .returned (.bool true) ∧ Below W.heap.size W w' := by
  obtain ⟨rfl, hc, hb, l, hA⟩ := h0
  by_cases hn : 200 < x0.n
  · exact olists_long I _ _ _ W hn hb
  · exact olists_short I _ _ _ l W hA (by omega) hc
end Or
theorem op_arg0_of {H : Type} {enc : TypeId × Value → H} {W : World} {base : Nat} {v : Value} {d : DataW H} {ps : List MemPlace} (hv : Value.okWide Try.prog W .any base 22 v) (h : DataW.Trod enc Try.prog W 0 (fun _ => true) true 22 v d ps) : ∃ x, Or.InA W v x := Or.inA_of hv h
theorem ol_arg0_of {H : Type} {enc : TypeId × Value → H} {W : World} {base : Nat} {v : Value} {d : DataW H} {ps : List MemPlace} (hv : Value.okWide Try.prog W .any base 26 v) (h : DataW.Trod enc Try.prog W 0 (fun _ => true) true 26 v d ps) : ∃ x, Or.InO W v x := Or.inO_of hv h
end Go.Proofs.Ytpkniomjohjbiaa
