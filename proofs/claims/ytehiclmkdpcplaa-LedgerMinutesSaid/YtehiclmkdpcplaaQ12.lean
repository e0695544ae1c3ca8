/- Slices of structs, structs and arrays that came in: its cells, and how each field reads. No condition but those written. Arguments that came in: bytes, whole numbers, how each reads. No condition but those written. Pairs of numbers that came in; numbers' bounds. No condition but those written. Zones, puts, stays, what is asked, that came in. No condition but those written. Two ledgers side by side, call by call: package ledger's, the document's. No condition but those written. Layer 13's live question. No condition but those written. Layer 13's ledgers with zones: package ledger's and the document's, side by side. No condition but those written. Which stays layer 13's law goes through. No condition but those written. -/
import Derived.Deep.Slices
import Derived.ChangeArms
import Derived.ChangeSlices
import Derived.ChangeSame
import Derived.DataReads
import Derived.OpenShut
import Derived.Test.YtehiclmkdpcplaaQ01
import Derived.Test.YtehiclmkdpcplaaQ05
import Derived.Test.YtehiclmkdpcplaaQ11
import Derived.Deep.RegionHeld3
import Derived.Deep.QuietTactic
namespace Go.Proofs.Ytehiclmkdpcplaa
open Go.ChangeShapes Go.WideShapes Go.Deep

/-- The parts of a struct that lies in a row: its cells, each field's own reading. -/
theorem open_parts {H : Type} {enc : TypeId × Value → H} {P : Program} {w : World} {base : Nat} {spare : Nat → Bool} {held : Bool} {t e : TypeId} {fs : Array Field} {m fuel : Nat} {cs : List Value} {x : DataW H × List MemPlace}
    (ht : P.underlying t = some (.slice e)) (he : P.underlying e = some (.struct fs)) (hm : P.cellsOf e = m) (h : DataW.trod enc P w base spare held fuel t cs = some x) :
    cs = [.slice none 0 0] ∨ ∃ (a : Addr) (len cap : Nat), cs = [.slice (some a) len cap] ∧ len ≤ cap ∧ cap ≤ maxLen ∧
      ∀ i, i < len → ∃ (part : List Value) (n : Nat), part.length = m ∧ (∀ j, j < m → w.cell? (a.add (i * m + j)) = part[j]?) ∧
        ∀ (k : Nat) (f : Field), fs[k]? = some f → ∃ y, DataW.trod enc P w base spare held n f.type ((part.drop f.offset).take (P.cellsOf f.type)) = some y := by
  subst hm
  rcases open_slice ht h with h0 | ⟨a, len, cap, m, n, D, Pl, h1, _, h2, h3, h4, _, h5⟩
  · exact .inl h0.1
  · refine .inr ⟨a, len, cap, h1, h2, h3, fun i hi => ?_⟩
    have him : i < m := by
      rw [h4]
      split <;> omega
    obtain ⟨part, hp, hd⟩ := h5 i him
    obtain ⟨_, hl, hc⟩ := World.cells?_some hp
    obtain ⟨ys, n', _, _, _, hyl, hf⟩ := DataW.trod_struct he hd
    refine ⟨part, n', hl, fun j hj => ?_, fun k f hk => ?_⟩
    · rw [← Go.Deep.add_add]
      exact hc j hj
    · have hlt : k < ys.length := by
        rw [hyl]
        exact (Array.getElem?_eq_some_iff.1 hk).1
      exact ⟨ys[k], by rw [hf k f hk, List.getElem?_eq_getElem hlt]⟩
/-- A struct that came in by value: its parts, each field's own reading. -/
theorem open_whole {H : Type} {enc : TypeId × Value → H} {P : Program} {w : World} {base : Nat} {spare : Nat → Bool} {held : Bool} {r : Reach} {b0 : Nat} {t : TypeId} {fs : Array Field} {m : Nat} {v : Value} {d : DataW H} {ps : List MemPlace}
    (hs : P.underlying t = some (.struct fs)) (hm : P.cellsOf t = m) (hv : Value.okWide P w r b0 t v) (h : DataW.Trod enc P w base spare held t v d ps) :
    ∃ cs : List Value, v = .agg ⟨cs⟩ ∧ cs.length = m ∧ ∀ (k : Nat) (f : Field), fs[k]? = some f → ∃ n y, DataW.trod enc P w base spare held n f.type ((cs.drop f.offset).take (P.cellsOf f.type)) = some y := by
  subst hm
  simp only [Value.okWide, hs] at hv
  obtain ⟨⟨cs⟩, rfl, hn, _⟩ := hv
  obtain ⟨fuel, hf⟩ := h
  obtain ⟨ys, n, _, _, hl, hyl, hg⟩ := DataW.trod_struct hs hf
  refine ⟨cs, rfl, by simpa [Value.cells] using hl, fun k f hk => ?_⟩
  have hlt : k < ys.length := by
    rw [hyl]
    exact (Array.getElem?_eq_some_iff.1 hk).1
  exact ⟨n, ys[k], by simpa [Value.cells, List.getElem?_eq_getElem hlt] using hg k f hk⟩
/-- An array that came in by value: its parts, each element's own reading. -/
theorem open_array {H : Type} {enc : TypeId × Value → H} {P : Program} {w : World} {base : Nat} {spare : Nat → Bool} {held : Bool} {r : Reach} {b0 : Nat} {t e : TypeId} {m j c : Nat} {v : Value} {d : DataW H} {ps : List MemPlace}
    (hs : P.underlying t = some (.array j e)) (hm : P.cellsOf t = m) (hc : P.cellsOf e = c) (hv : Value.okWide P w r b0 t v) (h : DataW.Trod enc P w base spare held t v d ps) :
    ∃ cs : List Value, v = .agg ⟨cs⟩ ∧ cs.length = m ∧ ∀ k, k < j → ∃ n y, DataW.trod enc P w base spare held n e ((cs.drop (k * c)).take c) = some y := by
  subst hm hc
  simp only [Value.okWide, hs] at hv
  obtain ⟨⟨cs⟩, rfl, hn, _⟩ := hv
  obtain ⟨fuel, hf⟩ := h
  obtain ⟨ys, n, _, _, hl, hyl, hg⟩ := DataW.trod_array hs hf
  refine ⟨cs, rfl, by simpa [Value.cells] using hl, fun k hk => ?_⟩
  have hlt : k < ys.length := by rw [hyl]; exact hk
  exact ⟨n, ys[k], by simpa [Value.cells, List.getElem?_eq_getElem hlt] using hg k hk⟩
end Go.Proofs.Ytehiclmkdpcplaa

namespace Go.Proofs.Ytehiclmkdpcplaa
open Go.RowKit Go.ChangeShapes Go.WideShapes
/-- Bytes that came in. -/
structure Bs where
  p : Option Addr
  n : Nat
  c : Nat
def InB (W : World) (v : Value) (x : Bs) : Prop := v = .slice x.p x.n x.c ∧ x.n ≤ x.c ∧ x.n ≤ 9223372036854775807 ∧ ∃ l, At W x.p x.n l
/-- A whole number that came in. -/
def InI (k : IntKind) (v : Value) (x : Int) : Prop := v = .int k x ∧ (Lit.int k x).wf = true
set_option maxRecDepth 100000 in
theorem inI_of {H : Type} {enc : TypeId × Value → H} {W : World} {base : Nat} {v : Value} {d : DataW H} {ps : List MemPlace} {t : TypeId} {k : IntKind} (ht : Try.prog.underlying t = some (.int k)) (hv : Value.okWide Try.prog W .any base t v)
    (h : DataW.Trod enc Try.prog W 0 (fun _ => true) true t v d ps) : ∃ x, InI k v x := by
  obtain ⟨n, rfl⟩ := okWide_int ht hv
  obtain ⟨fuel, hf⟩ := h
  obtain ⟨m, hm, _, hw⟩ := DataW.trod_int ht hf
  simp [Value.cells] at hm
  exact ⟨n, rfl, hm ▸ hw⟩
end Go.Proofs.Ytehiclmkdpcplaa

namespace Go.Proofs.Ytehiclmkdpcplaa
open Go.RowKit Go.ChangeShapes Go.WideShapes

namespace Se
/-- Two numbers that came in. -/
def In2 (k : IntKind) (v : Value) (x : Int × Int) : Prop := v = .agg #[.int k x.1, .int k x.2] ∧ (Lit.int k x.1).wf = true ∧ (Lit.int k x.2).wf = true
set_option maxRecDepth 100000 in
theorem in2_of {H : Type} {enc : TypeId × Value → H} {W : World} {base : Nat} {v : Value} {d : DataW H} {ps : List MemPlace} {t e : TypeId} {k : IntKind} (ht : Try.prog.underlying t = some (.array 2 e)) (he : Try.prog.underlying e = some (.int k)) (hm : Try.prog.cellsOf t = 2) (hc : Try.prog.cellsOf e = 1) (hv : Value.okWide Try.prog W .any base t v)
    (h : DataW.Trod enc Try.prog W 0 (fun _ => true) true t v d ps) : ∃ x, In2 k v x := by
  obtain ⟨cs, rfl, hl, hf⟩ := open_array ht hm hc hv h
  match cs, hl with
  | [v0, v1], _ =>
    obtain ⟨n0, y0, f0⟩ := hf 0 (by decide)
    obtain ⟨n1, y1, f1⟩ := hf 1 (by decide)
    simp only [Nat.zero_mul, Nat.one_mul, List.drop_zero, List.drop_succ_cons, List.take_succ_cons, List.take_zero] at f0 f1
    obtain ⟨m0, e0, _, g0⟩ := DataW.trod_int he f0
    obtain ⟨m1, e1, _, g1⟩ := DataW.trod_int he f1
    simp only [List.cons.injEq, and_true] at e0 e1
    subst e0 e1
    exact ⟨(m0, m1), rfl, g0, g1⟩
theorem i64_of {n : Int} (h : (Lit.int .i64 n).wf = true) : -9223372036854775808 ≤ n ∧ n ≤ 9223372036854775807 := by
  have h1 := (Lit.wf_int_iff .i64 n).1 h
  have e1 : IntKind.i64.min = -9223372036854775808 := by decide
  have e2 : IntKind.i64.max = 9223372036854775807 := by decide
  rw [e1, e2] at h1
  omega
theorem u32_of {n : Int} (h : (Lit.int .u32 n).wf = true) : ∃ m : Nat, n = (m : Int) ∧ m < 4294967296 := by
  have h1 := (Lit.wf_int_iff .u32 n).1 h
  have e1 : IntKind.u32.min = 0 := by decide
  have e2 : IntKind.u32.max = 4294967295 := by decide
  rw [e1, e2] at h1
  exact ⟨n.toNat, by omega, by omega⟩
end Se
end Go.Proofs.Ytehiclmkdpcplaa

namespace Go.Proofs.Ytehiclmkdpcplaa
open Go.RowKit Go.ChangeShapes Go.WideShapes Go.Deep

/-- A struct in a struct: its parts, each field's own reading. -/
theorem open_inner {H : Type} {enc : TypeId × Value → H} {P : Program} {w : World} {base : Nat} {spare : Nat → Bool} {held : Bool} {t : TypeId} {fs : Array Field} {fuel : Nat} {cs : List Value} {x : DataW H × List MemPlace}
    (ht : P.underlying t = some (.struct fs)) (h : DataW.trod enc P w base spare held fuel t cs = some x) :
    ∃ n, ∀ (k : Nat) (f : Field), fs[k]? = some f → ∃ y, DataW.trod enc P w base spare held n f.type ((cs.drop f.offset).take (P.cellsOf f.type)) = some y := by
  obtain ⟨ys, n, _, _, _, hyl, hg⟩ := DataW.trod_struct ht h
  refine ⟨n, fun k f hk => ?_⟩
  have hlt : k < ys.length := by
    rw [hyl]
    exact (Array.getElem?_eq_some_iff.1 hk).1
  exact ⟨ys[k], by rw [hg k f hk, List.getElem?_eq_getElem hlt]⟩
namespace Lg
open Se
def B63 (n : Nat) : Prop := n ≤ 9223372036854775807
theorem b63_zero : B63 0 := Nat.zero_le _
theorem b63_le {n c : Nat} (h : n ≤ c) (hc : c ≤ maxLen) : B63 n := by
  unfold maxLen at hc
  unfold B63
  omega
theorem i64_in {n : Int} (h : (Lit.int .i64 n).wf = true) : I64 n := Se.i64_of h
/-- A put: a zone, a reading. -/
abbrev Pt := Int × Rd
def ucells (p : Pt) : List Value := [.int .i64 p.1, .int .i64 p.2.min, .int .i64 p.2.seq, .int .i64 p.2.ten]
theorem ucells_len (p : Pt) : (ucells p).length = 4 := rfl
def Sok1 (s : Sy.Sy) : Prop := I64 s.zone ∧ I64 s.frm ∧ I64 s.to
set_option maxRecDepth 100000 in
theorem rowsZ_of {H : Type} {enc : TypeId × Value → H} {w : World} {base : Nat} {spare : Nat → Bool} {held : Bool} {fuel : Nat} {cs : List Value} {y : DataW H × List MemPlace}
    (h : DataW.trod enc Try.prog w base spare held fuel 22 cs = some y) : ∃ p len cap, cs = [.slice p len cap] ∧ len ≤ cap ∧ B63 len ∧ ∃ l, Rw 6 Ms.zcells w p len l ∧ ∀ x ∈ l, (fun z => I64 z.id) x := by
  rcases open_parts Try.underlying22 Try.underlying48 (m := 6) (by kernel_rfl) h with h0 | ⟨a, len, cap, hcs, hl, hm, hp⟩
  · exact ⟨none, 0, 0, h0, Nat.le_refl _, b63_zero, [], rw_nil w, fun x hx => by simp at hx⟩
  · refine ⟨some a, len, cap, hcs, hl, b63_le hl hm, ?_⟩
    clear hm
    obtain ⟨b, o, spot⟩ := a
    have hs : 0 < len → spot = none := by
      intro h0
      obtain ⟨part, n, hlen, hc, _⟩ := hp 0 h0
      match part, hlen with
      | [v0, v1, v2, v3, v4, v5], _ =>
        have k0 := hc 0 (by decide)
        simpa [Addr.add] using World.cell?_spot k0
    by_cases h0 : 0 < len
    case neg =>
      obtain rfl : len = 0 := by omega
      exact ⟨[], rw_zero w _, fun x hx => by simp at hx⟩
    obtain rfl := hs h0
    have key : ∀ i, i < len → ∃ t : Ms.Zn, (∀ j, j < 6 → w.cell? ⟨b, o + i * 6 + j, none⟩ = (Ms.zcells t)[j]?) ∧ (fun z => I64 z.id) t := by
      intro i hi
      obtain ⟨part, n, hlen, hc, hf⟩ := hp i hi
      match part, hlen with
      | [v0, v1, v2, v3, v4, v5], _ =>
        obtain ⟨y0, f0⟩ := hf 0 _ rfl
        change DataW.trod enc Try.prog w base spare held n 3 (List.take (Try.prog.cellsOf 3) (List.drop 0 [v0, v1, v2, v3, v4, v5])) = some y0 at f0
        rw [show Try.prog.cellsOf 3 = 1 by kernel_rfl] at f0
        obtain ⟨m0, e0, _, g0⟩ := DataW.trod_int Try.underlying3 f0
        obtain ⟨y1, f1⟩ := hf 1 _ rfl
        change DataW.trod enc Try.prog w base spare held n 3 (List.take (Try.prog.cellsOf 3) (List.drop 1 [v0, v1, v2, v3, v4, v5])) = some y1 at f1
        rw [show Try.prog.cellsOf 3 = 1 by kernel_rfl] at f1
        obtain ⟨m1, e1, _, g1⟩ := DataW.trod_int Try.underlying3 f1
        obtain ⟨y2, f2⟩ := hf 2 _ rfl
        change DataW.trod enc Try.prog w base spare held n 3 (List.take (Try.prog.cellsOf 3) (List.drop 2 [v0, v1, v2, v3, v4, v5])) = some y2 at f2
        rw [show Try.prog.cellsOf 3 = 1 by kernel_rfl] at f2
        obtain ⟨m2, e2, _, g2⟩ := DataW.trod_int Try.underlying3 f2
        obtain ⟨y3, f3⟩ := hf 3 _ rfl
        change DataW.trod enc Try.prog w base spare held n 3 (List.take (Try.prog.cellsOf 3) (List.drop 3 [v0, v1, v2, v3, v4, v5])) = some y3 at f3
        rw [show Try.prog.cellsOf 3 = 1 by kernel_rfl] at f3
        obtain ⟨m3, e3, _, g3⟩ := DataW.trod_int Try.underlying3 f3
        obtain ⟨y4, f4⟩ := hf 4 _ rfl
        change DataW.trod enc Try.prog w base spare held n 4 (List.take (Try.prog.cellsOf 4) (List.drop 4 [v0, v1, v2, v3, v4, v5])) = some y4 at f4
        rw [show Try.prog.cellsOf 4 = 1 by kernel_rfl] at f4
        obtain ⟨m4, e4, _⟩ := DataW.trod_bool Try.underlying4 f4
        obtain ⟨y5, f5⟩ := hf 5 _ rfl
        change DataW.trod enc Try.prog w base spare held n 3 (List.take (Try.prog.cellsOf 3) (List.drop 5 [v0, v1, v2, v3, v4, v5])) = some y5 at f5
        rw [show Try.prog.cellsOf 3 = 1 by kernel_rfl] at f5
        obtain ⟨m5, e5, _, g5⟩ := DataW.trod_int Try.underlying3 f5
        simp only [List.drop_zero, List.drop_succ_cons, List.take_succ_cons, List.take_zero, List.cons.injEq, and_true] at e0 e1 e2 e3 e4 e5
        subst e0 e1 e2 e3 e4 e5
        refine ⟨⟨m0, m1, m2, m3, m4, m5⟩, fun j hj => ?_, i64_in g0⟩
        have := hc j hj
        rw [add_none, ← Nat.add_assoc] at this
        exact this
    obtain ⟨l, hll, hlk⟩ := list_of (Ms.zn0 : Ms.Zn) (fun i t => (∀ j, j < 6 → w.cell? ⟨b, o + i * 6 + j, none⟩ = (Ms.zcells t)[j]?) ∧ (fun z => I64 z.id) t) len key
    refine ⟨l, ⟨hll, fun _ => ⟨b, o, rfl, fun j x hx i hi => ?_⟩⟩, fun x hx => ?_⟩
    case refine_2 =>
      obtain ⟨j, hj, e⟩ := List.mem_iff_getElem.1 hx
      have h2 := (hlk j (by omega)).2
      have h3 : l.getD j (Ms.zn0 : Ms.Zn) = x := by rw [List.getD_eq_getElem?_getD, List.getElem?_eq_getElem hj]; exact e
      rw [h3] at h2
      exact h2
    have hj := (List.getElem?_eq_some_iff.1 hx).1
    have := (hlk j (by omega)).1 i hi
    rw [List.getD_eq_getElem?_getD, hx] at this
    exact this
set_option maxRecDepth 100000 in
theorem rowsS_of {H : Type} {enc : TypeId × Value → H} {w : World} {base : Nat} {spare : Nat → Bool} {held : Bool} {fuel : Nat} {cs : List Value} {y : DataW H × List MemPlace}
    (h : DataW.trod enc Try.prog w base spare held fuel 24 cs = some y) : ∃ p len cap, cs = [.slice p len cap] ∧ len ≤ cap ∧ B63 len ∧ ∃ l, Rw 3 Sy.scells w p len l ∧ ∀ x ∈ l, (Sok1) x := by
  rcases open_parts Try.underlying24 Try.underlying52 (m := 3) (by kernel_rfl) h with h0 | ⟨a, len, cap, hcs, hl, hm, hp⟩
  · exact ⟨none, 0, 0, h0, Nat.le_refl _, b63_zero, [], rw_nil w, fun x hx => by simp at hx⟩
  · refine ⟨some a, len, cap, hcs, hl, b63_le hl hm, ?_⟩
    clear hm
    obtain ⟨b, o, spot⟩ := a
    have hs : 0 < len → spot = none := by
      intro h0
      obtain ⟨part, n, hlen, hc, _⟩ := hp 0 h0
      match part, hlen with
      | [v0, v1, v2], _ =>
        have k0 := hc 0 (by decide)
        simpa [Addr.add] using World.cell?_spot k0
    by_cases h0 : 0 < len
    case neg =>
      obtain rfl : len = 0 := by omega
      exact ⟨[], rw_zero w _, fun x hx => by simp at hx⟩
    obtain rfl := hs h0
    have key : ∀ i, i < len → ∃ t : Sy.Sy, (∀ j, j < 3 → w.cell? ⟨b, o + i * 3 + j, none⟩ = (Sy.scells t)[j]?) ∧ (Sok1) t := by
      intro i hi
      obtain ⟨part, n, hlen, hc, hf⟩ := hp i hi
      match part, hlen with
      | [v0, v1, v2], _ =>
        obtain ⟨y0, f0⟩ := hf 0 _ rfl
        change DataW.trod enc Try.prog w base spare held n 3 (List.take (Try.prog.cellsOf 3) (List.drop 0 [v0, v1, v2])) = some y0 at f0
        rw [show Try.prog.cellsOf 3 = 1 by kernel_rfl] at f0
        obtain ⟨m0, e0, _, g0⟩ := DataW.trod_int Try.underlying3 f0
        obtain ⟨y1, f1⟩ := hf 1 _ rfl
        change DataW.trod enc Try.prog w base spare held n 3 (List.take (Try.prog.cellsOf 3) (List.drop 1 [v0, v1, v2])) = some y1 at f1
        rw [show Try.prog.cellsOf 3 = 1 by kernel_rfl] at f1
        obtain ⟨m1, e1, _, g1⟩ := DataW.trod_int Try.underlying3 f1
        obtain ⟨y2, f2⟩ := hf 2 _ rfl
        change DataW.trod enc Try.prog w base spare held n 3 (List.take (Try.prog.cellsOf 3) (List.drop 2 [v0, v1, v2])) = some y2 at f2
        rw [show Try.prog.cellsOf 3 = 1 by kernel_rfl] at f2
        obtain ⟨m2, e2, _, g2⟩ := DataW.trod_int Try.underlying3 f2
        simp only [List.drop_zero, List.drop_succ_cons, List.take_succ_cons, List.take_zero, List.cons.injEq, and_true] at e0 e1 e2
        subst e0 e1 e2
        refine ⟨⟨m0, m1, m2⟩, fun j hj => ?_, ⟨i64_in g0, i64_in g1, i64_in g2⟩⟩
        have := hc j hj
        rw [add_none, ← Nat.add_assoc] at this
        exact this
    obtain ⟨l, hll, hlk⟩ := list_of (⟨0, 0, 0⟩ : Sy.Sy) (fun i t => (∀ j, j < 3 → w.cell? ⟨b, o + i * 3 + j, none⟩ = (Sy.scells t)[j]?) ∧ (Sok1) t) len key
    refine ⟨l, ⟨hll, fun _ => ⟨b, o, rfl, fun j x hx i hi => ?_⟩⟩, fun x hx => ?_⟩
    case refine_2 =>
      obtain ⟨j, hj, e⟩ := List.mem_iff_getElem.1 hx
      have h2 := (hlk j (by omega)).2
      have h3 : l.getD j (⟨0, 0, 0⟩ : Sy.Sy) = x := by rw [List.getD_eq_getElem?_getD, List.getElem?_eq_getElem hj]; exact e
      rw [h3] at h2
      exact h2
    have hj := (List.getElem?_eq_some_iff.1 hx).1
    have := (hlk j (by omega)).1 i hi
    rw [List.getD_eq_getElem?_getD, hx] at this
    exact this
set_option maxRecDepth 100000 in
theorem rowsU_of {H : Type} {enc : TypeId × Value → H} {w : World} {base : Nat} {spare : Nat → Bool} {held : Bool} {fuel : Nat} {cs : List Value} {y : DataW H × List MemPlace}
    (h : DataW.trod enc Try.prog w base spare held fuel 23 cs = some y) : ∃ p len cap, cs = [.slice p len cap] ∧ len ≤ cap ∧ B63 len ∧ ∃ l, Rw 4 ucells w p len l ∧ ∀ x ∈ l, (fun p => I64 p.1) x := by
  rcases open_parts Try.underlying23 Try.underlying39 (m := 4) (by kernel_rfl) h with h0 | ⟨a, len, cap, hcs, hl, hm, hp⟩
  · exact ⟨none, 0, 0, h0, Nat.le_refl _, b63_zero, [], rw_nil w, fun x hx => by simp at hx⟩
  · refine ⟨some a, len, cap, hcs, hl, b63_le hl hm, ?_⟩
    clear hm
    obtain ⟨b, o, spot⟩ := a
    have hs : 0 < len → spot = none := by
      intro h0
      obtain ⟨part, n, hlen, hc, _⟩ := hp 0 h0
      match part, hlen with
      | [v0, v1, v2, v3], _ =>
        have k0 := hc 0 (by decide)
        simpa [Addr.add] using World.cell?_spot k0
    by_cases h0 : 0 < len
    case neg =>
      obtain rfl : len = 0 := by omega
      exact ⟨[], rw_zero w _, fun x hx => by simp at hx⟩
    obtain rfl := hs h0
    have key : ∀ i, i < len → ∃ t : Pt, (∀ j, j < 4 → w.cell? ⟨b, o + i * 4 + j, none⟩ = (ucells t)[j]?) ∧ (fun p => I64 p.1) t := by
      intro i hi
      obtain ⟨part, n, hlen, hc, hf⟩ := hp i hi
      match part, hlen with
      | [v0, v1, v2, v3], _ =>
        obtain ⟨y0, f0⟩ := hf 0 _ rfl
        change DataW.trod enc Try.prog w base spare held n 3 (List.take (Try.prog.cellsOf 3) (List.drop 0 [v0, v1, v2, v3])) = some y0 at f0
        rw [show Try.prog.cellsOf 3 = 1 by kernel_rfl] at f0
        obtain ⟨m0, e0, _, g0⟩ := DataW.trod_int Try.underlying3 f0
        obtain ⟨y9, f9⟩ := hf 1 _ rfl
        change DataW.trod enc Try.prog w base spare held n 37 (List.take (Try.prog.cellsOf 37) (List.drop 1 [v0, v1, v2, v3])) = some y9 at f9
        rw [show Try.prog.cellsOf 37 = 3 by kernel_rfl] at f9
        obtain ⟨n9, hg⟩ := open_inner Try.underlying37 f9
        obtain ⟨y1, f1⟩ := hg 0 _ rfl
        change DataW.trod enc Try.prog w base spare held n9 3 (List.take (Try.prog.cellsOf 3) (List.drop 0 (List.take 3 (List.drop 1 [v0, v1, v2, v3])))) = some y1 at f1
        rw [show Try.prog.cellsOf 3 = 1 by kernel_rfl] at f1
        obtain ⟨m1, e1, _, g1⟩ := DataW.trod_int Try.underlying3 f1
        obtain ⟨y2, f2⟩ := hg 1 _ rfl
        change DataW.trod enc Try.prog w base spare held n9 3 (List.take (Try.prog.cellsOf 3) (List.drop 1 (List.take 3 (List.drop 1 [v0, v1, v2, v3])))) = some y2 at f2
        rw [show Try.prog.cellsOf 3 = 1 by kernel_rfl] at f2
        obtain ⟨m2, e2, _, g2⟩ := DataW.trod_int Try.underlying3 f2
        obtain ⟨y3, f3⟩ := hg 2 _ rfl
        change DataW.trod enc Try.prog w base spare held n9 3 (List.take (Try.prog.cellsOf 3) (List.drop 2 (List.take 3 (List.drop 1 [v0, v1, v2, v3])))) = some y3 at f3
        rw [show Try.prog.cellsOf 3 = 1 by kernel_rfl] at f3
        obtain ⟨m3, e3, _, g3⟩ := DataW.trod_int Try.underlying3 f3
        simp only [List.drop_zero, List.drop_succ_cons, List.take_succ_cons, List.take_zero, List.cons.injEq, and_true] at e0 e1 e2 e3
        subst e0 e1 e2 e3
        refine ⟨(m0, ⟨m1, m2, m3⟩), fun j hj => ?_, i64_in g0⟩
        have := hc j hj
        rw [add_none, ← Nat.add_assoc] at this
        exact this
    obtain ⟨l, hll, hlk⟩ := list_of ((0, ⟨0, 0, 0⟩) : Pt) (fun i t => (∀ j, j < 4 → w.cell? ⟨b, o + i * 4 + j, none⟩ = (ucells t)[j]?) ∧ (fun p => I64 p.1) t) len key
    refine ⟨l, ⟨hll, fun _ => ⟨b, o, rfl, fun j x hx i hi => ?_⟩⟩, fun x hx => ?_⟩
    case refine_2 =>
      obtain ⟨j, hj, e⟩ := List.mem_iff_getElem.1 hx
      have h2 := (hlk j (by omega)).2
      have h3 : l.getD j ((0, ⟨0, 0, 0⟩) : Pt) = x := by rw [List.getD_eq_getElem?_getD, List.getElem?_eq_getElem hj]; exact e
      rw [h3] at h2
      exact h2
    have hj := (List.getElem?_eq_some_iff.1 hx).1
    have := (hlk j (by omega)).1 i hi
    rw [List.getD_eq_getElem?_getD, hx] at this
    exact this
/-- A slice that came in. -/
structure Sl where
  p : Option Addr
  n : Nat
  c : Nat
def InZ (W : World) (v : Value) (x : Sl) : Prop := v = .slice x.p x.n x.c ∧ B63 x.n ∧ ∃ l, Rw 6 Ms.zcells W x.p x.n l ∧ ∀ z ∈ l, I64 z.id
def InU (W : World) (v : Value) (x : Sl) : Prop := v = .slice x.p x.n x.c ∧ x.n ≤ x.c ∧ B63 x.n ∧ ∃ l, Rw 4 ucells W x.p x.n l ∧ ∀ p ∈ l, I64 p.1
set_option maxRecDepth 100000 in
theorem inZ_of {H : Type} {enc : TypeId × Value → H} {W : World} {base : Nat} {v : Value} {d : DataW H} {ps : List MemPlace} (hv : Value.okWide Try.prog W .any base 22 v) (h : DataW.Trod enc Try.prog W 0 (fun _ => true) true 22 v d ps) :
    ∃ x, InZ W v x := by
  obtain ⟨a, len, cap, rfl⟩ := okWide_slice Try.underlying22 hv
  obtain ⟨fuel, hf⟩ := h
  obtain ⟨p, n, c, e, _, g2, l, hA, hB⟩ := rowsZ_of hf
  simp only [Value.cells, List.cons.injEq, and_true, Value.slice.injEq] at e
  obtain ⟨rfl, rfl, rfl⟩ := e
  exact ⟨⟨a, len, cap⟩, rfl, g2, l, hA, hB⟩
set_option maxRecDepth 100000 in
theorem inU_of {H : Type} {enc : TypeId × Value → H} {W : World} {base : Nat} {v : Value} {d : DataW H} {ps : List MemPlace} (hv : Value.okWide Try.prog W .any base 23 v) (h : DataW.Trod enc Try.prog W 0 (fun _ => true) true 23 v d ps) :
    ∃ x, InU W v x := by
  obtain ⟨a, len, cap, rfl⟩ := okWide_slice Try.underlying23 hv
  obtain ⟨fuel, hf⟩ := h
  obtain ⟨p, n, c, e, g1, g2, l, hA, hB⟩ := rowsU_of hf
  simp only [Value.cells, List.cons.injEq, and_true, Value.slice.injEq] at e
  obtain ⟨rfl, rfl, rfl⟩ := e
  exact ⟨⟨a, len, cap⟩, rfl, g1, g2, l, hA, hB⟩
/-- What is asked. -/
structure Ak where
  lim : Int
  p : Option Addr
  n : Nat
  c : Nat
  m : Int
def InK (W : World) (v : Value) (x : Ak) : Prop := v = .agg #[.int .i64 x.lim, .slice x.p x.n x.c, .int .i64 x.m] ∧ I64 x.lim ∧ I64 x.m ∧ x.n ≤ x.c ∧ B63 x.n ∧ ∃ l, Rw 3 Sy.scells W x.p x.n l ∧ Sok l
set_option maxRecDepth 100000 in
theorem inK_of {H : Type} {enc : TypeId × Value → H} {W : World} {base : Nat} {v : Value} {d : DataW H} {ps : List MemPlace} (hv : Value.okWide Try.prog W .any base 26 v) (h : DataW.Trod enc Try.prog W 0 (fun _ => true) true 26 v d ps) :
    ∃ x, InK W v x := by
  obtain ⟨cs, rfl, hl, hf⟩ := open_whole Try.underlying26 (m := 3) (by kernel_rfl) hv h
  match cs, hl with
  | [v0, v1, v2], _ =>
    obtain ⟨n0, y0, f0⟩ := hf 0 _ rfl
    obtain ⟨n1, y1, f1⟩ := hf 1 _ rfl
    obtain ⟨n2, y2, f2⟩ := hf 2 _ rfl
    change DataW.trod enc Try.prog W 0 (fun _ => true) true n0 3 (List.take (Try.prog.cellsOf 3) (List.drop 0 [v0, v1, v2])) = some y0 at f0
    change DataW.trod enc Try.prog W 0 (fun _ => true) true n1 24 (List.take (Try.prog.cellsOf 24) (List.drop 1 [v0, v1, v2])) = some y1 at f1
    change DataW.trod enc Try.prog W 0 (fun _ => true) true n2 3 (List.take (Try.prog.cellsOf 3) (List.drop 2 [v0, v1, v2])) = some y2 at f2
    rw [show Try.prog.cellsOf 3 = 1 by kernel_rfl] at f0 f2
    rw [show Try.prog.cellsOf 24 = 1 by kernel_rfl] at f1
    obtain ⟨m0, e0, _, g0⟩ := DataW.trod_int Try.underlying3 f0
    obtain ⟨p1, l1, c1, e1, hnc, b1, S, hS, hk⟩ := rowsS_of f1
    obtain ⟨m2, e2, _, g2⟩ := DataW.trod_int Try.underlying3 f2
    simp only [List.drop_zero, List.drop_succ_cons, List.take_succ_cons, List.take_zero, List.cons.injEq, and_true] at e0 e1 e2
    subst e0 e1 e2
    exact ⟨⟨m0, p1, l1, c1, m2⟩, rfl, i64_in g0, i64_in g2, hnc, b1, S, hS, hk⟩
end Lg
end Go.Proofs.Ytehiclmkdpcplaa

namespace Go.Proofs.Ytehiclmkdpcplaa
open Go.RowKit

namespace Lg
open Se
/-- No ledger. -/
def Nul (_ : World) (_ _ : Nat) (G : Nat → Prop) (_ : List Zl) : Prop := ∀ k, ¬ G k
theorem nul_turns : Turns Nul := fun _ _ _ _ _ _ _ h _ _ => h
theorem nul_feeted : Feeted Nul := fun _ _ _ _ _ _ h hk => absurd hk (h _)
/-- What lies apart from a ledger's memory. -/
def Off (w0 : World) (X : Nat → Prop) (p : Option Addr) (n : Nat) : Prop := ∀ a, p = some a → 0 < n → a.block < w0.heap.size ∨ X a.block
theorem off_not {w0 : World} {X F : Nat → Prop} {p : Option Addr} {n : Nat} (h : Off w0 X p n) (hF : ∀ k, F k → w0.heap.size ≤ k ∧ ¬ X k) : ∀ a, p = some a → 0 < n → ¬ F a.block := fun a ha h0 hf => by
  have h1 := hF _ hf
  rcases h a ha h0 with h2 | h2
  · omega
  · exact h1.2 h2
theorem both_new (I : Face) (w : World) : Calls Try.prog 19 #[] w fun e w' => ∃ h, e = .returned (.pointer (some ⟨h, 0, none⟩)) ∧ Both I.DB Nul w (fun _ => False) h 0 w' [] [] := by
  refine (I.new w).mono ?_
  rintro e w' ⟨h, F, rfl, hd, hb⟩
  exact ⟨h, rfl, ⟨⟨F, fun _ => False, hd, fun _ hf => hf, fun _ _ hf => hf, fun k hk => ⟨(I.foot hd hk).1, (I.foot hd hk).2, fun hf => hf⟩, fun _ hf => hf.elim⟩, fun _ hf => hf.elim, hb⟩⟩
section
variable {D1 D2 : World → Nat → Nat → (Nat → Prop) → List Zl → Prop} {w0 : World} {X : Nat → Prop} {h g : Nat}
theorem two_add1 (I : Face) (t2 : Turns D2) {w : World} {s t : List Zl} (hb : Both I.DB D2 w0 X h g w s t) (hG : Good s 1000) (hL : s.length ≤ 1000) (z : Ms.Zn) (hz : I64 z.id) :
    Calls Try.prog 17 #[.pointer (some ⟨h, 0, none⟩), Ms.zval z] w fun e w' => e = .returned (.int .i64 ((addZ s z).1 : Nat)) ∧ Both I.DB D2 w0 X h g w' (addZ s z).2 t ∧ StillX X w w' :=
  both_call1 t2 I.feeted hb (fun F hF _ => I.add _ h F s z w hF hG hL hz)
theorem two_put1 (I : Face) (t2 : Turns D2) {w : World} {s t : List Zl} (hb : Both I.DB D2 w0 X h g w s t) (hG : Good s 1000) (hL : s.length ≤ 1000) (zone : Int) (r : Rd) (hz : I64 zone) :
    Calls Try.prog 8 #[.pointer (some ⟨h, 0, none⟩), .int .i64 zone, rval r] w fun e w' => e = .returned (.tuple #[.bool (putZ s zone r).1.1, .int .i64 ((putZ s zone r).1.2 : Nat)]) ∧ Both I.DB D2 w0 X h g w' (putZ s zone r).2 t ∧ StillX X w w' :=
  both_call1 t2 I.feeted hb (fun F hF _ => I.put _ h F s zone r w hF hG hL hz)
theorem two_expo1 (I : Face) (t2 : Turns D2) {w : World} {s t : List Zl} (hb : Both I.DB D2 w0 X h g w s t) (hG : Good s 1000) (hL : s.length ≤ 1000) (lim : Int) (p : Option Addr) (n c : Nat) (S : List Sy.Sy) (m : Int) (hl : I64 lim) (hm : I64 m) (hr : Rw 3 Sy.scells w p n S) (hn : n ≤ 100000) (hnc : n ≤ c) (hS : Sok S) (ho : Off w0 X p n) :
    Calls Try.prog 10 #[.pointer (some ⟨h, 0, none⟩), .int .i64 lim, .slice p n c, .int .i64 m] w fun e w' => e = .returned (.int .i64 (expo s lim S m)) ∧ Both I.DB D2 w0 X h g w' s t ∧ StillX X w w' :=
  both_call1 t2 I.feeted hb (fun F hF hX => I.expo _ h F s lim p n c S m w hF hG hL hl hm hr hn hnc hS (off_not ho hX))
theorem two_air1 (I : Face) {w : World} {s t : List Zl} (hb : Both I.DB D2 w0 X h g w s t) (hG : Good s 1000) (hL : s.length ≤ 1000) (zone m : Int) (hz : I64 zone) (hm : I64 m) :
    Calls Try.prog 12 #[.pointer (some ⟨h, 0, none⟩), .int .i64 zone, .int .i64 m] w fun e w' => e = .returned (.tuple #[.int .i64 (airZ s zone m).1, .int .i64 ((airZ s zone m).2 : Nat)]) ∧ Below w.heap.size w w' := by
  obtain ⟨F, _, h1, _⟩ := hb.bo
  exact I.air _ h F s zone m w h1 hG hL hz hm
theorem two_told1 (I : Face) {w : World} {s t : List Zl} (hb : Both I.DB D2 w0 X h g w s t) (hG : Good s 1000) (hL : s.length ≤ 1000) (zone : Int) (hz : I64 zone) :
    Calls Try.prog 15 #[.pointer (some ⟨h, 0, none⟩), .int .i64 zone] w fun e w' => ∃ v, e = .returned v ∧ w'.ownsRow w.heap.size 37 3 v (readZ s zone).length ((readZ s zone).flatMap rcells) ∧ Below w.heap.size w w' := by
  obtain ⟨F, _, h1, _⟩ := hb.bo
  exact I.told _ h F s zone w h1 hG hL hz
theorem good_big {s : List Zl} (hG : Good s 1000) : Good s 100000 := hG.mono (by decide)
theorem two_add2 (t1 : Turns D1) {w : World} {s t : List Zl} (hb : Both D1 Rg w0 X h g w s t) (hL : t.length ≤ 1000) (z : Ms.Zn) :
    Calls Try.prog 20 #[.pointer (some ⟨g, 0, none⟩), Ms.zval z] w fun e w' => e = .returned (.int .i64 ((addZ t z).1 : Nat)) ∧ Both D1 Rg w0 X h g w' s (addZ t z).2 ∧ StillX X w w' :=
  both_call2 t1 rg_feeted hb (fun G hG _ => r13add_any _ g G t z w hG (by omega))
theorem two_put2 (t1 : Turns D1) {w : World} {s t : List Zl} (hb : Both D1 Rg w0 X h g w s t) (hG : Good t 1000) (hL : t.length ≤ 1000) (zone : Int) (r : Rd) :
    Calls Try.prog 9 #[.pointer (some ⟨g, 0, none⟩), .int .i64 zone, rval r] w fun e w' => e = .returned (.tuple #[.bool (putZ t zone r).1.1, .int .i64 ((putZ t zone r).1.2 : Nat)]) ∧ Both D1 Rg w0 X h g w' s (putZ t zone r).2 ∧ StillX X w w' :=
  both_call2 t1 rg_feeted hb (fun G hd _ => r13put_any _ g G t zone r w hd (by omega) (good_big hG))
theorem two_expo2 {w : World} {s t : List Zl} (hb : Both D1 Rg w0 X h g w s t) (hG : Good t 1000) (hL : t.length ≤ 1000) (lim : Int) (p : Option Addr) (n c : Nat) (S : List Sy.Sy) (m : Int) (hm : I64 m) (hr : Rw 3 Sy.scells w p n S) (hn : n ≤ 100000) (hS : Sok S) :
    Calls Try.prog 11 #[.pointer (some ⟨g, 0, none⟩), .int .i64 lim, .slice p n c, .int .i64 m] w fun e w' => e = .returned (.int .i64 (expo t lim S m)) ∧ Below w.heap.size w w' := by
  obtain ⟨_, G, _, h2, _⟩ := hb.bo
  exact r13expo_any _ g G t lim p n c S m w h2 (by omega) (good_big hG) hr hn hS hm
theorem two_air2 {w : World} {s t : List Zl} (hb : Both D1 Rg w0 X h g w s t) (hG : Good t 1000) (hL : t.length ≤ 1000) (zone m : Int) (hm : I64 m) :
    Calls Try.prog 13 #[.pointer (some ⟨g, 0, none⟩), .int .i64 zone, .int .i64 m] w fun e w' => e = .returned (.tuple #[.int .i64 (airZ t zone m).1, .int .i64 ((airZ t zone m).2 : Nat)]) ∧ Below w.heap.size w w' := by
  obtain ⟨_, G, _, h2, _⟩ := hb.bo
  exact r13air_any _ g G t zone m w h2 (by omega) (good_big hG) hm.2
theorem two_told2 {w : World} {s t : List Zl} (hb : Both D1 Rg w0 X h g w s t) (hG : Good t 1000) (hL : t.length ≤ 1000) (zone : Int) :
    Calls Try.prog 16 #[.pointer (some ⟨g, 0, none⟩), .int .i64 zone] w fun e w' => ∃ v, e = .returned v ∧ w'.ownsRow w.heap.size 37 3 v (readZ t zone).length ((readZ t zone).flatMap rcells) ∧ Below w.heap.size w w' := by
  obtain ⟨_, G, _, h2, _⟩ := hb.bo
  exact r13told_any _ g G t zone w h2 (by omega) (good_big hG)
end
end Lg
end Go.Proofs.Ytehiclmkdpcplaa

namespace Go.Proofs.Ytehiclmkdpcplaa
open Go.RowKit

namespace Lg
open Se
def z1 : Ms.Zn := ⟨1, 100, 5, 0, false, 0⟩
def z0 : Ms.Zn := ⟨1, 0, 0, 0, false, 0⟩
def z2 : Ms.Zn := ⟨2, 50, 9, 0, false, 0⟩
def st1 : List Zl := [⟨1, 100, 5, []⟩]
def st2 : List Zl := [⟨1, 100, 5, []⟩, ⟨2, 50, 9, []⟩]
def st3 : List Zl := [⟨1, 100, 5, [⟨1, 0, 42⟩]⟩, ⟨2, 50, 9, []⟩]
def s0 : List Sy.Sy := [⟨1, 0, 4⟩, ⟨2, 4, 6⟩, ⟨3, 6, -1⟩]
theorem f1 : addZ [] z1 = (0, st1) := by rfl
theorem f2 : addZ st1 z0 = (6, st1) := by rfl
theorem f3 : addZ st1 z2 = (0, st2) := by rfl
theorem f4 : expo st2 40 s0 5 = 250 := by decide
theorem f5 : putZ st2 1 ⟨1, 0, 42⟩ = ((true, 0), st3) := by rfl
theorem f6 : expo st3 40 s0 99 = 86 := by decide
theorem f7 : putZ st3 4 ⟨0, 0, 0⟩ = ((false, 5), st3) := by rfl
theorem f8 : airZ st3 2 7 = (50, 0) := by decide
theorem f9 : (readZ st3 1).length = 1 := by rfl
theorem gd (S : List Zl) (h : ∀ x ∈ S, mayB x.wo x.ga = true ∧ x.S.length ≤ 1 ∧ ∀ r ∈ x.S, rightB r = true) : Good S 1000 := fun x hx => by
  obtain ⟨h1, h2, h3⟩ := h x hx
  refine ⟨h1, ?_, h3, by omega⟩
  match hS : x.S with
  | [] => exact List.Pairwise.nil
  | [a] => exact List.pairwise_singleton ..
  | a :: b :: l =>
    rw [hS] at h2
    simp at h2
theorem g1 : Good st1 1000 := gd _ (by decide)
theorem g2 : Good st2 1000 := gd _ (by decide)
theorem g3 : Good st3 1000 := gd _ (by decide)
theorem sok0 : Sok s0 := by
  intro s hs
  simp only [s0, List.mem_cons, List.not_mem_nil, or_false] at hs
  rcases hs with rfl | rfl | rfl <;> simp [I64]
theorem i64n (n : Int) (h0 : 0 ≤ n) (h : n ≤ 1000) : I64 n := ⟨by omega, by omega⟩
set_option maxRecDepth 100000 in
set_option maxHeartbeats 8000000 in
theorem alive_any (I : Face) (w : World) : Calls Try.prog 6 #[] w fun e w' => e = .returned (.bool true) ∧ Below w.heap.size w w' := by
  have CN := Lib.hid (both_new I w)
  go_enter Try.func6, Try.ntmps6
  go_wp2_with fail
  refine CN.out.mono ?_
  rintro e w1 ⟨h, rfl, b1⟩
  have B1 := Lib.hid b1
  clear b1 CN
  have C1 := Lib.hid (two_add1 I nul_turns B1.out (good_nil 1000) (by decide) z1 (i64n _ (by decide) (by decide)))
  rw [f1] at C1
  simp only [Ms.zval, z1] at C1
  go_wp2_with fail
  refine C1.out.mono ?_
  rintro e w2 ⟨rfl, b2, _⟩
  have B2 := Lib.hid b2
  clear b2 C1 B1
  have C1 := Lib.hid (two_add1 I nul_turns B2.out g1 (by decide) z0 (i64n _ (by decide) (by decide)))
  rw [f2] at C1
  simp only [Ms.zval, z0] at C1
  go_wp2_with fail
  refine C1.out.mono ?_
  rintro e w3 ⟨rfl, b3, _⟩
  have B3 := Lib.hid b3
  clear b3 C1 B2
  have C1 := Lib.hid (two_add1 I nul_turns B3.out g1 (by decide) z2 (i64n _ (by decide) (by decide)))
  rw [f3] at C1
  simp only [Ms.zval, z2] at C1
  go_wp2_with fail
  refine C1.out.mono ?_
  rintro e w4 ⟨rfl, b4, _⟩
  have B4 := Lib.hid b4
  clear b4 C1 B3
  have L5 := Lib.hid (Lies.new w4 52 #[.int .i64 1, .int .i64 0, .int .i64 4, .int .i64 2, .int .i64 4, .int .i64 6, .int .i64 3, .int .i64 6, .int .i64 (-1)])
  have B5 := Lib.hid (both_more I.turns nul_turns (Y := fun k => k = w4.heap.size) B4.out (alloc_below w4 (.cells #[.int .i64 1, .int .i64 0, .int .i64 4, .int .i64 2, .int .i64 4, .int .i64 6, .int .i64 3, .int .i64 6, .int .i64 (-1)] 52)) (fun k hk => by subst hk; simp))
  go_upto_region 6 with fail
  clear B4
  generalize w4.alloc (.cells #[.int .i64 1, .int .i64 0, .int .i64 4, .int .i64 2, .int .i64 4, .int .i64 6, .int .i64 3, .int .i64 6, .int .i64 (-1)] 52) = w5 at *
  generalize w4.heap.size = bS at *
  have RW := Lib.hid (fun W (hW : Lies W bS 52 #[.int .i64 1, .int .i64 0, .int .i64 4, .int .i64 2, .int .i64 4, .int .i64 6, .int .i64 3, .int .i64 6, .int .i64 (-1)]) => show Rw 3 Sy.scells W (some ⟨bS, 0, none⟩) 3 s0 from ⟨rfl, fun _ => ⟨bS, 0, rfl, fun j x hj i hi => by
    rw [hW.cell]
    match j, hj with
    | 0, hj => obtain rfl := Option.some.inj hj; match i, hi with | 0, _ => rfl | 1, _ => rfl | 2, _ => rfl
    | 1, hj => obtain rfl := Option.some.inj hj; match i, hi with | 0, _ => rfl | 1, _ => rfl | 2, _ => rfl
    | 2, hj => obtain rfl := Option.some.inj hj; match i, hi with | 0, _ => rfl | 1, _ => rfl | 2, _ => rfl⟩⟩)
  have OF := Lib.hid (show Off w (fun k => False ∨ k = bS) (some ⟨bS, 0, none⟩) 3 from fun a ha _ => .inr (.inr (by rw [← Option.some.inj ha])))
  have LT := Lib.hid (fun W W' (hW : Lies W bS 52 #[.int .i64 1, .int .i64 0, .int .i64 4, .int .i64 2, .int .i64 4, .int .i64 6, .int .i64 3, .int .i64 6, .int .i64 (-1)]) (hs : StillX (fun k => False ∨ k = bS) W W') => show Lies W' bS 52 #[.int .i64 1, .int .i64 0, .int .i64 4, .int .i64 2, .int .i64 4, .int .i64 6, .int .i64 3, .int .i64 6, .int .i64 (-1)] from by
    obtain ⟨T, hT, hn⟩ := hs
    exact hW.turn hT (hn bS (.inr rfl)))
  have C1 := Lib.hid (two_expo1 I nul_turns B5.out g2 (by decide) 40 (some ⟨bS, 0, none⟩) 3 3 s0 5 (i64n _ (by decide) (by decide)) (i64n _ (by decide) (by decide)) (RW.out w5 L5.out) (by decide) (by decide) sok0 OF.out)
  rw [f4] at C1
  go_wp2_with fail
  refine C1.out.mono ?_
  rintro e w6 ⟨rfl, b6, s6⟩
  have B6 := Lib.hid b6
  have L6 := Lib.hid (LT.out w5 w6 L5.out s6)
  clear b6 s6 C1 B5 L5
  have C1 := Lib.hid (two_put1 I nul_turns B6.out g2 (by decide) 1 ⟨1, 0, 42⟩ (i64n _ (by decide) (by decide)))
  rw [f5] at C1
  simp only [rval] at C1
  go_wp2_with fail
  refine C1.out.mono ?_
  rintro e w7 ⟨rfl, b7, s7⟩
  have B7 := Lib.hid b7
  have L7 := Lib.hid (LT.out w6 w7 L6.out s7)
  clear b7 s7 C1 B6 L6
  have C1 := Lib.hid (two_expo1 I nul_turns B7.out g3 (by decide) 40 (some ⟨bS, 0, none⟩) 3 3 s0 99 (i64n _ (by decide) (by decide)) (i64n _ (by decide) (by decide)) (RW.out w7 L7.out) (by decide) (by decide) sok0 OF.out)
  rw [f6] at C1
  go_wp2_with fail
  refine C1.out.mono ?_
  rintro e w8 ⟨rfl, b8, _⟩
  have B8 := Lib.hid b8
  clear b8 C1 B7 L7 LT OF RW
  have C1 := Lib.hid (two_put1 I nul_turns B8.out g3 (by decide) 4 ⟨0, 0, 0⟩ (i64n _ (by decide) (by decide)))
  rw [f7] at C1
  simp only [rval] at C1
  go_wp2_with fail
  refine C1.out.mono ?_
  rintro e w9 ⟨rfl, b9, _⟩
  have B9 := Lib.hid b9
  clear b9 C1 B8
  have C1 := Lib.hid (two_air1 I B9.out g3 (by decide) 2 7 (i64n _ (by decide) (by decide)) (i64n _ (by decide) (by decide)))
  rw [f8] at C1
  go_wp2_with fail
  refine C1.out.mono ?_
  rintro e w10 ⟨rfl, hb⟩
  have BA := Lib.hid (both_below I.turns nul_turns B9.out hb)
  clear hb C1 B9
  have C1 := Lib.hid (two_told1 I BA.out g3 (by decide) 1 (i64n _ (by decide) (by decide)))
  rw [f9] at C1
  go_wp2_with fail
  refine C1.out.mono ?_
  rintro e w11 ⟨v, rfl, ho, hb⟩
  obtain ⟨q, c, rfl⟩ := own_slice ho
  have BF := Lib.hid (BA.out.bel.trans (hb.mono BA.out.bel.size))
  clear ho hb C1 BA
  go_wp2
  go_ret
  exact ⟨rfl, BF.out⟩
end Lg
end Go.Proofs.Ytehiclmkdpcplaa

namespace Go.Proofs.Ytehiclmkdpcplaa
open Go.RowKit

namespace Lg
open Se
def runZ (L : List Ms.Zn) : List Zl := L.foldl (fun s z => (addZ s z).2) []
theorem runZ_snoc (L : List Ms.Zn) (z : Ms.Zn) : runZ (L ++ [z]) = (addZ (runZ L) z).2 := by simp [runZ]
theorem runZ_good (L : List Ms.Zn) : Good (runZ L) 0 := by
  have key : ∀ (L : List Ms.Zn) (s : List Zl), Good s 0 → Good (L.foldl (fun s z => (addZ s z).2) s) 0 := by
    intro L
    induction L with
    | nil => intro s hs; exact hs
    | cons z L ih => intro s hs; exact ih _ (good_add hs z)
  exact key L [] (good_nil 0)
theorem runZ_new (L : List Ms.Zn) : ∀ x ∈ runZ L, x.S = [] := by
  have key : ∀ (L : List Ms.Zn) (s : List Zl), (∀ x ∈ s, x.S = []) → ∀ x ∈ L.foldl (fun s z => (addZ s z).2) s, x.S = [] := by
    intro L
    induction L with
    | nil => intro s hs; exact hs
    | cons z L ih => intro s hs; exact ih _ (addZ_new hs z)
  exact key L [] (fun x hx => by simp at hx)
theorem runZ_len (L : List Ms.Zn) : (runZ L).length ≤ L.length := by
  have key : ∀ (L : List Ms.Zn) (s : List Zl), (L.foldl (fun s z => (addZ s z).2) s).length ≤ s.length + L.length := by
    intro L
    induction L with
    | nil => intro s; simp
    | cons z L ih =>
      intro s
      have h1 := ih (addZ s z).2
      have h2 := add_len s z
      simp only [List.foldl_cons, List.length_cons]
      omega
  have := key L []
  simpa [runZ] using this
theorem rg_new {w w1 : World} (hb : Below w.heap.size w w1) : Rg (w1.alloc (.cells #[.slice none 0 0, .slice none 0 0] 57)) w.heap.size w1.heap.size (RFt w1.heap.size (.slice none 0 0) (.slice none 0 0) []) [] :=
  ⟨.slice none 0 0, .slice none 0 0, [], ⟨hb.size, Lies.new w1 _ _, World.ownsRow_nil _ _ _ _, World.ownsRow_nil _ _ _ _, fun y hy => by simp at hy, fun y hy => by simp at hy, fun a b x z hx => by simp at hx, fun k hk => by cases hk⟩, rfl, rfl⟩
theorem both_start (I : Face) {w w1 : World} {h : Nat} {F : Nat → Prop} (hd : I.DB w1 w.heap.size h F []) (hb : Below w.heap.size w w1) :
    Both I.DB Rg w (fun _ => False) h w1.heap.size (w1.alloc (.cells #[.slice none 0 0, .slice none 0 0] 57)) [] [] := by
  have hs := hb.size
  have hR : ∀ k, RFt w1.heap.size (.slice none 0 0) (.slice none 0 0) [] k ↔ k = w1.heap.size := fun k => by simp [RFt, Value.ownBlock]
  refine ⟨⟨F, _, I.keep hd (alloc_below w1 _), rg_new hb, fun k hk hg => ?_, fun k hk => ?_, fun k hk => ?_⟩, fun k hk => hk.elim, hb.trans ((alloc_below w1 _).mono hs)⟩
  · have := (I.foot hd hk).2
    have := (hR k).1 hg
    omega
  · have := I.foot hd hk
    exact ⟨this.1, by simp; omega, fun hf => hf⟩
  · have := (hR k).1 hk
    exact ⟨by omega, by simp; omega, fun hf => hf⟩
set_option maxRecDepth 100000 in
set_option maxHeartbeats 16000000 in
theorem of_any (I : Face) (p : Option Addr) (n c : Nat) (L : List Ms.Zn) (w : World) (hr : Rw 6 Ms.zcells w p n L) (hn : n ≤ 40) (hz : ∀ z ∈ L, I64 z.id) :
    Calls Try.prog 7 #[.slice p n c] w fun e w' => ∃ h g, e = .returned (.tuple #[.pointer (some ⟨h, 0, none⟩), .pointer (some ⟨g, 0, none⟩), .bool true]) ∧ Both I.DB Rg w (fun _ => False) h g w' (runZ L) (runZ L) := by
  have CN := Lib.hid (I.new w)
  have HR := Lib.hid hr
  have HLn := Lib.hid hr.1
  have HZ := Lib.hid hz
  have hn' : (n : Int) ≤ 40 := by omega
  clear hr hz
  go_enter Try.func7, Try.ntmps7
  go_wp2_with fail
  refine CN.out.mono ?_
  rintro e w1 ⟨h, F, rfl, hd, hb⟩
  have S0 := Lib.hid (both_start I hd hb)
  clear hd hb CN
  go_wp2_with fail
  generalize w1.alloc (.cells #[.slice none 0 0, .slice none 0 0] 57) = w2 at *
  generalize w1.heap.size = g at *
  go_loopw [7] (fun i wr => ∃ k : Nat, k ≤ n ∧ i = .int .i64 k ∧ Hid (Both I.DB Rg w (fun _ => False) h g wr (runZ (L.take k)) (runZ (L.take k)))) (fun i _ => n - (RowKit.intOf i).toNat)
  case atStart => exact ⟨0, Nat.zero_le _, rfl, S0⟩
  case round =>
    clear S0
    obtain ⟨k, hk, rfl, SB⟩ := hrel
    by_cases hlt : k < n
    · have hk3 : (k : Int) < (n : Int) := by omega
      obtain ⟨z, hzk⟩ : ∃ z, L[k]? = some z := ⟨_, List.getElem?_eq_getElem (by rw [HLn.out]; exact hlt)⟩
      obtain ⟨b, o, e, hc⟩ := HR.out.2 (by omega)
      subst e
      have hcz := hc k z hzk
      have EC2 := Lib.hid (fun W (hW : Below w.heap.size w W) j (hj : j < 6) => show W.cell? ⟨b, o + k * 6 + j, none⟩ = (Ms.zcells z)[j]? from by
        have h0 := hcz j hj
        refine (hW.cell (p := ⟨b, o + k * 6 + j, none⟩) ?_).trans h0
        rw [List.getElem?_eq_getElem (by rw [Ms.zcells_len]; exact hj)] at h0
        exact World.block_lt_of_cell? w _ h0)
      have TK : Hid (runZ (L.take (k + 1)) = (addZ (runZ (L.take k)) z).2) := Lib.hid (by rw [List.take_add_one, hzk]; exact runZ_snoc _ _)
      have GZ := Lib.hid ((runZ_good (L.take k)).mono (Nat.zero_le 1000))
      have KL : Hid ((runZ (L.take k)).length ≤ 1000) := Lib.hid (Nat.le_trans (runZ_len _) (by rw [List.length_take]; omega))
      have HI := Lib.hid (HZ.out z (List.mem_of_getElem? hzk))
      generalize runZ (L.take k) = S at *
      have C1 := Lib.hid (fun W (hW : Both I.DB Rg w (fun _ => False) h g W S S) => two_add1 I rg_turns hW GZ.out KL.out z HI.out)
      have C2 := Lib.hid (fun W (hW : Both I.DB Rg w (fun _ => False) h g W (addZ S z).2 S) => two_add2 I.turns hW KL.out z)
      have SN := Lib.hid (fun W (hW : Both I.DB Rg w (fun _ => False) h g W (addZ S z).2 (addZ S z).2) => show Both I.DB Rg w (fun _ => False) h g W (runZ (L.take (k + 1))) (runZ (L.take (k + 1))) from by rw [TK.out]; exact hW)
      clear TK GZ KL HI hzk hc hcz
      generalize (addZ S z).2 = S2 at *
      generalize (addZ S z).1 = er at *
      obtain ⟨a, b1, b2, b3, b4, b5⟩ := z
      unfold Ms.zval at C1 C2
      have SD := Lib.hid (both_below I.turns rg_turns SB.out ((Below.refl _ wr).drew))
      have e0 : wr.cell? ⟨b, o + k * 6, none⟩ = some (.int .i64 a) := EC2.out wr SB.out.bel 0 (by decide)
      have e1 : wr.cell? ⟨b, o + k * 6 + 1, none⟩ = some (.int .i64 b1) := EC2.out wr SB.out.bel 1 (by decide)
      have e2 : wr.cell? ⟨b, o + k * 6 + 2, none⟩ = some (.int .i64 b2) := EC2.out wr SB.out.bel 2 (by decide)
      have e3 : wr.cell? ⟨b, o + k * 6 + 3, none⟩ = some (.int .i64 b3) := EC2.out wr SB.out.bel 3 (by decide)
      have e4 : wr.cell? ⟨b, o + k * 6 + 4, none⟩ = some (.bool b4) := EC2.out wr SB.out.bel 4 (by decide)
      have e5 : wr.cell? ⟨b, o + k * 6 + 5, none⟩ = some (.int .i64 b5) := EC2.out wr SB.out.bel 5 (by decide)
      simp only at C1 C2
      go_wp2_with fail
      go_region_held3 (fun w' => w'.cell? ⟨b, o + k * 6, none⟩ = some (.int .i64 a) ∧ w'.cell? ⟨b, o + k * 6 + 1, none⟩ = some (.int .i64 b1) ∧ w'.cell? ⟨b, o + k * 6 + 2, none⟩ = some (.int .i64 b2) ∧ w'.cell? ⟨b, o + k * 6 + 3, none⟩ = some (.int .i64 b3) ∧ w'.cell? ⟨b, o + k * 6 + 4, none⟩ = some (.bool b4) ∧ w'.cell? ⟨b, o + k * 6 + 5, none⟩ = some (.int .i64 b5))
        (first | go_keep | exact ⟨f0, f1, f2, f3, f4, f5⟩ | exact ⟨d0, d1, d2, d3, d4, d5⟩ | exact ⟨e0, e1, e2, e3, e4, e5⟩)
        (first | (go_at_call 17; ((with_reducible refine (C1.out _ SD.out).mono ?_); rintro E w3 ⟨rfl, hs3, _⟩; have S3 := Lib.hid hs3; have d0 : w3.cell? ⟨b, o + k * 6, none⟩ = some (.int .i64 a) := EC2.out w3 hs3.bel 0 (by decide); have d1 : w3.cell? ⟨b, o + k * 6 + 1, none⟩ = some (.int .i64 b1) := EC2.out w3 hs3.bel 1 (by decide); have d2 : w3.cell? ⟨b, o + k * 6 + 2, none⟩ = some (.int .i64 b2) := EC2.out w3 hs3.bel 2 (by decide); have d3 : w3.cell? ⟨b, o + k * 6 + 3, none⟩ = some (.int .i64 b3) := EC2.out w3 hs3.bel 3 (by decide); have d4 : w3.cell? ⟨b, o + k * 6 + 4, none⟩ = some (.bool b4) := EC2.out w3 hs3.bel 4 (by decide); have d5 : w3.cell? ⟨b, o + k * 6 + 5, none⟩ = some (.int .i64 b5) := EC2.out w3 hs3.bel 5 (by decide))) | (go_at_call 20; ((with_reducible refine (C2.out _ S3.out).mono ?_); rintro E w4 ⟨rfl, hs4, _⟩; have S4 := Lib.hid hs4; have f0 : w4.cell? ⟨b, o + k * 6, none⟩ = some (.int .i64 a) := EC2.out w4 hs4.bel 0 (by decide); have f1 : w4.cell? ⟨b, o + k * 6 + 1, none⟩ = some (.int .i64 b1) := EC2.out w4 hs4.bel 1 (by decide); have f2 : w4.cell? ⟨b, o + k * 6 + 2, none⟩ = some (.int .i64 b2) := EC2.out w4 hs4.bel 2 (by decide); have f3 : w4.cell? ⟨b, o + k * 6 + 3, none⟩ = some (.int .i64 b3) := EC2.out w4 hs4.bel 3 (by decide); have f4 : w4.cell? ⟨b, o + k * 6 + 4, none⟩ = some (.bool b4) := EC2.out w4 hs4.bel 4 (by decide); have f5 : w4.cell? ⟨b, o + k * 6 + 5, none⟩ = some (.int .i64 b5) := EC2.out w4 hs4.bel 5 (by decide))))
      all_goals
        have S5 := Lib.hid (SN.out _ S4.out)
        clear hs3 hs4 S4 SN S3 C1 C2 EC2 SD SB d0 d1 d2 d3 d4 d5 f0 f1 f2 f3 f4 f5 e0 e1 e2 e3 e4 e5
        go_wp2
        go_roundw
        case rel => exact ⟨k + 1, by omega, by go_num, S5⟩
        case measure => simp [RowKit.intOf]; omega
    · obtain rfl : k = n := by omega
      have SB2 : Hid (Both I.DB Rg w (fun _ => False) h g wr (runZ L) (runZ L)) := Lib.hid (by
        have hh := SB.out
        rwa [List.take_of_length_le (by rw [HLn.out]; exact Nat.le_refl _)] at hh)
      go_wp2
      refine bodyPost_ret (v := .tuple #[.pointer (some ⟨h, 0, none⟩), .pointer (some ⟨g, 0, none⟩), .bool true]) (by simp [results, Try.results7, go_sem]) rfl ⟨h, g, rfl, SB2.out⟩
end Lg
end Go.Proofs.Ytehiclmkdpcplaa

namespace Go.Proofs.Ytehiclmkdpcplaa
open Go.RowKit

namespace Lg
open Se
set_option maxRecDepth 100000 in
set_option maxHeartbeats 8000000 in
theorem fits_any (p : Option Addr) (n c : Nat) (S : List Sy.Sy) (m : Int) (w : World) (hr : Rw 3 Sy.scells w p n S) (hn : n ≤ 9223372036854775807) (hm : I64 m) :
    Calls Try.prog 5 #[.slice p n c, .int .i64 m] w fun e w' => ∃ bl : Bool, e = .returned (.bool bl) ∧ (bl = true → n ≤ 40) ∧ Below w.heap.size w w' := by
  by_cases h40 : 40 < n
  · have h1 : decide ((n : Int) > 40) = true := by simp; omega
    clear hr hm
    go_enter Try.func5, Try.ntmps5
    go_wp2
    go_ret
    exact ⟨false, rfl, fun h => (by cases h), Below.refl _ _⟩
  have hn40 : n ≤ 40 := by omega
  have H40 := Lib.hid hn40
  have h1 : decide ((n : Int) > 40) = false := by simp; omega
  have CU := Lib.hid (Sy.r9upto_any p n c S m w hr (by omega))
  obtain ⟨_, hlike⟩ := uptoV_like S m
  have hUl := uptoV_len S m
  rw [hr.1] at hUl
  generalize Sy.uptoV S m = U at *
  obtain ⟨N, hN⟩ : ∃ N, U.length = N := ⟨_, rfl⟩
  have HUN := Lib.hid hN
  rw [hN] at hUl
  have hNb : (N : Int) ≤ 40 := by omega
  have hnb : (n : Int) ≤ 40 := by omega
  have HM := Lib.hid hm
  clear hr hN h40 hn40 hm
  go_enter Try.func5, Try.ntmps5
  go_wp2_with fail
  refine CU.out.mono ?_
  intro e w2 he
  obtain ⟨v, rfl, ho, hb2⟩ := he
  obtain ⟨uq, ud, rfl⟩ := own_slice ho
  have KO := Lib.hid ho
  have B2 := Lib.hid hb2
  rw [HUN.out] at KO ⊢
  clear ho hb2 CU
  by_cases hz : N = 0
  · subst hz
    clear hlike
    go_wp2
    go_ret
    exact ⟨true, rfl, fun _ => H40.out, B2.out⟩
  obtain ⟨M, rfl⟩ : ∃ M, N = M + 1 := ⟨N - 1, by omega⟩
  obtain ⟨b, c2, e, hb1, hb3, _⟩ := own_some KO.out (by omega)
  cases e
  obtain ⟨x, hx⟩ : ∃ x, U[0]? = some x := ⟨_, List.getElem?_eq_getElem (by rw [HUN.out]; omega)⟩
  obtain ⟨y, hy⟩ : ∃ y, U[M]? = some y := ⟨_, List.getElem?_eq_getElem (by rw [HUN.out]; omega)⟩
  have hx1 := hlike x (List.mem_of_getElem? hx)
  have hy1 := hlike y (List.mem_of_getElem? hy)
  have e1 : w2.cell? ⟨b, 1, none⟩ = some (.int .i64 x.frm) := by simpa [Sy.scells] using row_cell Sy.scells_len KO.out HUN.out hx (i := 1) (by decide)
  have e2 : w2.cell? ⟨b, M * 3 + 2, none⟩ = some (.int .i64 y.to) := by simpa [Sy.scells] using row_cell Sy.scells_len KO.out HUN.out hy (i := 2) (by decide)
  have hmb := HM.out.2
  have iw : IntKind.i64.wrap (y.to - x.frm) = y.to - x.frm := IntWalk.i64_in _ (by omega)
  have jw : IntKind.i64.wrap ((M : Int) + 1 - 1) = (M : Int) := by
    rw [show (M : Int) + 1 - 1 = (M : Int) by omega]
    exact IntWalk.i64_in _ (by omega)
  have hM0 : (0 : Int) ≤ (M : Int) := by omega
  have hM1 : (M : Int) < (M : Int) + 1 := by omega
  have hM2 : (M : Int) ≤ 40 := by omega
  have hz1 : ((M : Int) + 1 == 0) = false := by simp; omega
  generalize x.frm = xf at *
  generalize y.to = yt at *
  clear hlike hx hy hx1 hy1 hb1 hb3 hz hmb
  by_cases hd : yt - xf ≤ 400
  · have d1 : decide (yt - xf ≤ 400) = true := decide_eq_true hd
    go_wp2_with fail
    go_quiet (fail)
    go_wp2
    go_ret
    exact ⟨_, rfl, fun _ => H40.out, below_drewN B2.out _⟩
  · have d1 : decide (yt - xf ≤ 400) = false := decide_eq_false hd
    go_wp2_with fail
    go_quiet (fail)
    go_wp2
    go_ret
    exact ⟨_, rfl, fun _ => H40.out, below_drewN B2.out _⟩
end Lg
end Go.Proofs.Ytehiclmkdpcplaa
