/- Layer 17's laws over arguments that came in. Conditions: the contracts of package cert, and what comes in. -/
import Derived.Test.YtklhapekfgcplaaIn2
import Derived.Test.YtklhapekfgcplaaIn
import Derived.Test.YtklhapekfgcplaaOpen
import Derived.Test.YtklhapekfgcplaaCeL2
import Derived.Test.YtklhapekfgcplaaCeL3
import Derived.Test.YtklhapekfgcplaaCeL4
namespace Go.Proofs.Ytklhapekfgcplaa
open Go.RowKit Go.ChangeShapes Go.WideShapes

namespace Ce
def B63 (n : Nat) : Prop := n ≤ 9223372036854775807
theorem b63_zero : B63 0 := Nat.zero_le _
theorem b63_le {n c : Nat} (h : n ≤ c) (hc : c ≤ maxLen) : B63 n := by
  unfold maxLen at hc
  unfold B63
  omega
set_option maxRecDepth 100000 in
theorem rowsC_of {H : Type} {enc : TypeId × Value → H} {w : World} {base : Nat} {spare : Nat → Bool} {held : Bool} {fuel : Nat} {cs : List Value} {y : DataW H × List MemPlace}
    (h : DataW.trod enc Try.prog w base spare held fuel 34 cs = some y) : ∃ p len cap, cs = [.slice p len cap] ∧ len ≤ cap ∧ B63 len ∧ ∃ l, Rw 8 ccells w p len l ∧ ∀ x ∈ l, (fun _ => True) x := by
  rcases open_parts Try.underlying34 Try.underlying23 (m := 8) (by kernel_rfl) h with h0 | ⟨a, len, cap, hcs, hl, hm, hp⟩
  · exact ⟨none, 0, 0, h0, Nat.le_refl _, b63_zero, [], rw_nil w, fun x hx => by simp at hx⟩
  · refine ⟨some a, len, cap, hcs, hl, b63_le hl hm, ?_⟩
    clear hm
    obtain ⟨b, o, spot⟩ := a
    have hs : 0 < len → spot = none := by
      intro h0
      obtain ⟨part, n, hlen, hc, _⟩ := hp 0 h0
      match part, hlen with
      | [v0, v1, v2, v3, v4, v5, v6, v7], _ =>
        have k0 := hc 0 (by decide)
        simpa [Addr.add] using World.cell?_spot k0
    by_cases h0 : 0 < len
    case neg =>
      obtain rfl : len = 0 := by omega
      exact ⟨[], rw_zero w _, fun x hx => by simp at hx⟩
    obtain rfl := hs h0
    have key : ∀ i, i < len → ∃ t : Ct, (∀ j, j < 8 → w.cell? ⟨b, o + i * 8 + j, none⟩ = (ccells t)[j]?) ∧ (fun _ => True) t := by
      intro i hi
      obtain ⟨part, n, hlen, hc, hf⟩ := hp i hi
      match part, hlen with
      | [v0, v1, v2, v3, v4, v5, v6, v7], _ =>
        obtain ⟨y0, f0⟩ := hf 0 _ rfl
        change DataW.trod enc Try.prog w base spare held n 3 (List.take (Try.prog.cellsOf 3) (List.drop 0 [v0, v1, v2, v3, v4, v5, v6, v7])) = some y0 at f0
        rw [show Try.prog.cellsOf 3 = 1 by kernel_rfl] at f0
        obtain ⟨m0, e0, _, g0⟩ := DataW.trod_int Try.underlying3 f0
        obtain ⟨y1, f1⟩ := hf 1 _ rfl
        change DataW.trod enc Try.prog w base spare held n 3 (List.take (Try.prog.cellsOf 3) (List.drop 1 [v0, v1, v2, v3, v4, v5, v6, v7])) = some y1 at f1
        rw [show Try.prog.cellsOf 3 = 1 by kernel_rfl] at f1
        obtain ⟨m1, e1, _, g1⟩ := DataW.trod_int Try.underlying3 f1
        obtain ⟨y2, f2⟩ := hf 2 _ rfl
        change DataW.trod enc Try.prog w base spare held n 3 (List.take (Try.prog.cellsOf 3) (List.drop 2 [v0, v1, v2, v3, v4, v5, v6, v7])) = some y2 at f2
        rw [show Try.prog.cellsOf 3 = 1 by kernel_rfl] at f2
        obtain ⟨m2, e2, _, g2⟩ := DataW.trod_int Try.underlying3 f2
        obtain ⟨y3, f3⟩ := hf 3 _ rfl
        change DataW.trod enc Try.prog w base spare held n 3 (List.take (Try.prog.cellsOf 3) (List.drop 3 [v0, v1, v2, v3, v4, v5, v6, v7])) = some y3 at f3
        rw [show Try.prog.cellsOf 3 = 1 by kernel_rfl] at f3
        obtain ⟨m3, e3, _, g3⟩ := DataW.trod_int Try.underlying3 f3
        obtain ⟨y4, f4⟩ := hf 4 _ rfl
        change DataW.trod enc Try.prog w base spare held n 3 (List.take (Try.prog.cellsOf 3) (List.drop 4 [v0, v1, v2, v3, v4, v5, v6, v7])) = some y4 at f4
        rw [show Try.prog.cellsOf 3 = 1 by kernel_rfl] at f4
        obtain ⟨m4, e4, _, g4⟩ := DataW.trod_int Try.underlying3 f4
        obtain ⟨y5, f5⟩ := hf 5 _ rfl
        change DataW.trod enc Try.prog w base spare held n 3 (List.take (Try.prog.cellsOf 3) (List.drop 5 [v0, v1, v2, v3, v4, v5, v6, v7])) = some y5 at f5
        rw [show Try.prog.cellsOf 3 = 1 by kernel_rfl] at f5
        obtain ⟨m5, e5, _, g5⟩ := DataW.trod_int Try.underlying3 f5
        obtain ⟨y6, f6⟩ := hf 6 _ rfl
        change DataW.trod enc Try.prog w base spare held n 3 (List.take (Try.prog.cellsOf 3) (List.drop 6 [v0, v1, v2, v3, v4, v5, v6, v7])) = some y6 at f6
        rw [show Try.prog.cellsOf 3 = 1 by kernel_rfl] at f6
        obtain ⟨m6, e6, _, g6⟩ := DataW.trod_int Try.underlying3 f6
        obtain ⟨y7, f7⟩ := hf 7 _ rfl
        change DataW.trod enc Try.prog w base spare held n 3 (List.take (Try.prog.cellsOf 3) (List.drop 7 [v0, v1, v2, v3, v4, v5, v6, v7])) = some y7 at f7
        rw [show Try.prog.cellsOf 3 = 1 by kernel_rfl] at f7
        obtain ⟨m7, e7, _, g7⟩ := DataW.trod_int Try.underlying3 f7
        simp only [List.drop_zero, List.drop_succ_cons, List.take_succ_cons, List.take_zero, List.cons.injEq, and_true] at e0 e1 e2 e3 e4 e5 e6 e7
        subst e0 e1 e2 e3 e4 e5 e6 e7
        refine ⟨⟨m0, m1, m2, m3, m4, m5, m6, m7⟩, fun j hj => ?_, trivial⟩
        have := hc j hj
        rw [add_none, ← Nat.add_assoc] at this
        exact this
    obtain ⟨l, hll, hlk⟩ := list_of (ct0 : Ct) (fun i t => (∀ j, j < 8 → w.cell? ⟨b, o + i * 8 + j, none⟩ = (ccells t)[j]?) ∧ (fun _ => True) t) len key
    refine ⟨l, ⟨hll, fun _ => ⟨b, o, rfl, fun j x hx i hi => ?_⟩⟩, fun x hx => ?_⟩
    case refine_2 =>
      obtain ⟨j, hj, e⟩ := List.mem_iff_getElem.1 hx
      have h2 := (hlk j (by omega)).2
      have h3 : l.getD j (ct0 : Ct) = x := by rw [List.getD_eq_getElem?_getD, List.getElem?_eq_getElem hj]; exact e
      rw [h3] at h2
      exact h2
    have hj := (List.getElem?_eq_some_iff.1 hx).1
    have := (hlk j (by omega)).1 i hi
    rw [List.getD_eq_getElem?_getD, hx] at this
    exact this
set_option maxRecDepth 100000 in
theorem rowsN_of {H : Type} {enc : TypeId × Value → H} {w : World} {base : Nat} {spare : Nat → Bool} {held : Bool} {fuel : Nat} {cs : List Value} {y : DataW H × List MemPlace}
    (h : DataW.trod enc Try.prog w base spare held fuel 35 cs = some y) : ∃ p len cap, cs = [.slice p len cap] ∧ len ≤ cap ∧ B63 len ∧ ∃ l, Rw 1 icells w p len l := by
  rcases open_ints Try.underlying35 Try.underlying3 (by kernel_rfl) h with ⟨hcs, _⟩ | ⟨a, len, cap, zs, hcs, _, hl, hm, hz, _, hcell, hwz⟩
  · exact ⟨none, 0, 0, hcs, Nat.le_refl _, b63_zero, [], rw_nil w⟩
  · have hlz : len ≤ zs.length := by
      rw [hz]
      split <;> omega
    obtain ⟨bk, off, spot⟩ := a
    refine ⟨some ⟨bk, off, spot⟩, len, cap, hcs, hl, b63_le hl hm, zs.take len, by rw [List.length_take]; omega, fun h0 => ?_⟩
    have hc0 := hcell 0 (by omega)
    have hspot : spot = none := by simpa [Addr.add] using World.cell?_spot hc0
    subst hspot
    refine ⟨bk, off, rfl, fun j x hx i hi => ?_⟩
    have hj : j < len := by
      have := (List.getElem?_eq_some_iff.1 hx).1
      rw [List.length_take] at this
      omega
    have hj' : j < zs.length := by omega
    have hc := hcell j hj'
    rw [add_none] at hc
    rw [List.getElem?_take_of_lt hj, List.getElem?_eq_getElem hj'] at hx
    obtain rfl := Option.some.inj hx
    match i, hi with
    | 0, _ =>
      rw [Nat.mul_one, Nat.add_zero, hc, List.getD_eq_getElem?_getD, List.getElem?_eq_getElem hj']
      rfl
/-- A slice that came in. -/
structure Sl where
  p : Option Addr
  n : Nat
  c : Nat
def InC (v : Value) (x : Ct) : Prop := v = cval x
def InCs (W : World) (v : Value) (x : Sl) : Prop := v = .slice x.p x.n x.c ∧ x.n ≤ x.c ∧ B63 x.n ∧ ∃ l, Rw 8 ccells W x.p x.n l ∧ ∀ y ∈ l, (fun _ => True) y
def InN (W : World) (v : Value) (x : Sl) : Prop := v = .slice x.p x.n x.c ∧ x.n ≤ x.c ∧ B63 x.n ∧ ∃ l, Rw 1 icells W x.p x.n l
set_option maxRecDepth 100000 in
theorem inC_of {H : Type} {enc : TypeId × Value → H} {W : World} {base : Nat} {v : Value} {d : DataW H} {ps : List MemPlace} (hv : Value.okWide Try.prog W .any base 23 v) (h : DataW.Trod enc Try.prog W 0 (fun _ => true) true 23 v d ps) :
    ∃ x, InC v x := by
  obtain ⟨cs, rfl, hl, hf⟩ := open_whole Try.underlying23 (m := 8) (by kernel_rfl) hv h
  match cs, hl with
  | [v0, v1, v2, v3, v4, v5, v6, v7], _ =>
    obtain ⟨n0, y0, f0⟩ := hf 0 _ rfl
    change DataW.trod enc Try.prog W 0 (fun _ => true) true n0 3 (List.take (Try.prog.cellsOf 3) (List.drop 0 [v0, v1, v2, v3, v4, v5, v6, v7])) = some y0 at f0
    rw [show Try.prog.cellsOf 3 = 1 by kernel_rfl] at f0
    obtain ⟨m0, e0, _, g0⟩ := DataW.trod_int Try.underlying3 f0
    obtain ⟨n1, y1, f1⟩ := hf 1 _ rfl
    change DataW.trod enc Try.prog W 0 (fun _ => true) true n1 3 (List.take (Try.prog.cellsOf 3) (List.drop 1 [v0, v1, v2, v3, v4, v5, v6, v7])) = some y1 at f1
    rw [show Try.prog.cellsOf 3 = 1 by kernel_rfl] at f1
    obtain ⟨m1, e1, _, g1⟩ := DataW.trod_int Try.underlying3 f1
    obtain ⟨n2, y2, f2⟩ := hf 2 _ rfl
    change DataW.trod enc Try.prog W 0 (fun _ => true) true n2 3 (List.take (Try.prog.cellsOf 3) (List.drop 2 [v0, v1, v2, v3, v4, v5, v6, v7])) = some y2 at f2
    rw [show Try.prog.cellsOf 3 = 1 by kernel_rfl] at f2
    obtain ⟨m2, e2, _, g2⟩ := DataW.trod_int Try.underlying3 f2
    obtain ⟨n3, y3, f3⟩ := hf 3 _ rfl
    change DataW.trod enc Try.prog W 0 (fun _ => true) true n3 3 (List.take (Try.prog.cellsOf 3) (List.drop 3 [v0, v1, v2, v3, v4, v5, v6, v7])) = some y3 at f3
    rw [show Try.prog.cellsOf 3 = 1 by kernel_rfl] at f3
    obtain ⟨m3, e3, _, g3⟩ := DataW.trod_int Try.underlying3 f3
    obtain ⟨n4, y4, f4⟩ := hf 4 _ rfl
    change DataW.trod enc Try.prog W 0 (fun _ => true) true n4 3 (List.take (Try.prog.cellsOf 3) (List.drop 4 [v0, v1, v2, v3, v4, v5, v6, v7])) = some y4 at f4
    rw [show Try.prog.cellsOf 3 = 1 by kernel_rfl] at f4
    obtain ⟨m4, e4, _, g4⟩ := DataW.trod_int Try.underlying3 f4
    obtain ⟨n5, y5, f5⟩ := hf 5 _ rfl
    change DataW.trod enc Try.prog W 0 (fun _ => true) true n5 3 (List.take (Try.prog.cellsOf 3) (List.drop 5 [v0, v1, v2, v3, v4, v5, v6, v7])) = some y5 at f5
    rw [show Try.prog.cellsOf 3 = 1 by kernel_rfl] at f5
    obtain ⟨m5, e5, _, g5⟩ := DataW.trod_int Try.underlying3 f5
    obtain ⟨n6, y6, f6⟩ := hf 6 _ rfl
    change DataW.trod enc Try.prog W 0 (fun _ => true) true n6 3 (List.take (Try.prog.cellsOf 3) (List.drop 6 [v0, v1, v2, v3, v4, v5, v6, v7])) = some y6 at f6
    rw [show Try.prog.cellsOf 3 = 1 by kernel_rfl] at f6
    obtain ⟨m6, e6, _, g6⟩ := DataW.trod_int Try.underlying3 f6
    obtain ⟨n7, y7, f7⟩ := hf 7 _ rfl
    change DataW.trod enc Try.prog W 0 (fun _ => true) true n7 3 (List.take (Try.prog.cellsOf 3) (List.drop 7 [v0, v1, v2, v3, v4, v5, v6, v7])) = some y7 at f7
    rw [show Try.prog.cellsOf 3 = 1 by kernel_rfl] at f7
    obtain ⟨m7, e7, _, g7⟩ := DataW.trod_int Try.underlying3 f7
    simp only [List.drop_zero, List.drop_succ_cons, List.take_succ_cons, List.take_zero, List.cons.injEq, and_true] at e0 e1 e2 e3 e4 e5 e6 e7
    subst e0 e1 e2 e3 e4 e5 e6 e7
    exact ⟨⟨m0, m1, m2, m3, m4, m5, m6, m7⟩, rfl⟩
set_option maxRecDepth 100000 in
theorem inCs_of {H : Type} {enc : TypeId × Value → H} {W : World} {base : Nat} {v : Value} {d : DataW H} {ps : List MemPlace} (hv : Value.okWide Try.prog W .any base 34 v) (h : DataW.Trod enc Try.prog W 0 (fun _ => true) true 34 v d ps) :
    ∃ x, InCs W v x := by
  obtain ⟨a, len, cap, rfl⟩ := okWide_slice Try.underlying34 hv
  obtain ⟨fuel, hf⟩ := h
  obtain ⟨p, n, c, e, g1, g2, l, hA, hB⟩ := rowsC_of hf
  simp only [Value.cells, List.cons.injEq, and_true, Value.slice.injEq] at e
  obtain ⟨rfl, rfl, rfl⟩ := e
  exact ⟨⟨a, len, cap⟩, rfl, g1, g2, l, hA, hB⟩
set_option maxRecDepth 100000 in
theorem inN_of {H : Type} {enc : TypeId × Value → H} {W : World} {base : Nat} {v : Value} {d : DataW H} {ps : List MemPlace} (hv : Value.okWide Try.prog W .any base 35 v) (h : DataW.Trod enc Try.prog W 0 (fun _ => true) true 35 v d ps) :
    ∃ x, InN W v x := by
  obtain ⟨a, len, cap, rfl⟩ := okWide_slice Try.underlying35 hv
  obtain ⟨fuel, hf⟩ := h
  obtain ⟨p, n, c, e, g1, g2, l, hA⟩ := rowsN_of hf
  simp only [Value.cells, List.cons.injEq, and_true, Value.slice.injEq] at e
  obtain ⟨rfl, rfl, rfl⟩ := e
  exact ⟨⟨a, len, cap⟩, rfl, g1, g2, l, hA⟩
theorem i64_in {n : Int} (h : (Lit.int .i64 n).wf = true) : I64 n := Se.i64_of h
theorem tells_all (I : Face) (v0 : Value) (x0 : Ct) (v1 : Value) (x1 : Bs) (W : World) (h0 : InC v0 x0) (h1 : InB W v1 x1) :
    Calls Try.prog 3 #[v0, v1] W fun e w' => e = .returned (.bool true) ∧ Below W.heap.size W w' := by
  obtain rfl := h0
  obtain ⟨rfl, hnc, hb, l, hA⟩ := h1
  by_cases hn : 200 < x1.n
  · exact ctells_long I x0 _ _ _ W hn hb
  · exact ctells_short I x0 _ _ _ l W (by omega) hnc hA
theorem books_all (I : Face) (v0 : Value) (x0 : Sl) (v1 : Value) (x1 : Int) (v2 : Value) (x2 : Sl) (W : World) (h0 : InCs W v0 x0) (h1 : InI .i64 v1 x1) (h2 : InN W v2 x2) :
    Calls Try.prog 4 #[v0, v1, v2] W fun e w' => e = .returned (.bool true) ∧ Below W.heap.size W w' := by
  obtain ⟨rfl, hnc, hb, l, hA, _⟩ := h0
  obtain ⟨rfl, hw⟩ := h1
  obtain ⟨rfl, hnc2, hb2, l2, hA2⟩ := h2
  by_cases hn : 60 < x0.n ∨ 60 < x2.n
  · exact cbooks_long I _ _ _ _ _ _ x1 W hn hb hb2
  · exact cbooks_short I _ _ _ _ _ _ l x1 l2 W hA hA2 (by omega) (by omega) hnc2 (i64_in hw)
theorem burst_all (I : Face) (v0 : Value) (x0 : Ct) (v1 : Value) (x1 : Int) (v2 : Value) (x2 : Int) (W : World) (h0 : InC v0 x0) (h1 : InI .u16 v1 x1) (h2 : InI .u16 v2 x2) :
    Calls Try.prog 5 #[v0, v1, v2] W fun e w' => e = .returned (.bool true) ∧ Below W.heap.size W w' := by
  obtain rfl := h0
  obtain ⟨rfl, hx⟩ := h1
  obtain ⟨rfl, hy⟩ := h2
  exact cburst_any I x0 x1 x2 W hx hy
end Ce
theorem ct_arg0_of {H : Type} {enc : TypeId × Value → H} {W : World} {base : Nat} {v : Value} {d : DataW H} {ps : List MemPlace} (hv : Value.okWide Try.prog W .any base 23 v) (h : DataW.Trod enc Try.prog W 0 (fun _ => true) true 23 v d ps) : ∃ x, Ce.InC v x := Ce.inC_of hv h
theorem ct_arg1_of {H : Type} {enc : TypeId × Value → H} {W : World} {base : Nat} {v : Value} {d : DataW H} {ps : List MemPlace} (hv : Value.okWide Try.prog W .any base 24 v) (h : DataW.Trod enc Try.prog W 0 (fun _ => true) true 24 v d ps) : ∃ x, InB W v x := inB_of hv h
theorem cb_arg0_of {H : Type} {enc : TypeId × Value → H} {W : World} {base : Nat} {v : Value} {d : DataW H} {ps : List MemPlace} (hv : Value.okWide Try.prog W .any base 34 v) (h : DataW.Trod enc Try.prog W 0 (fun _ => true) true 34 v d ps) : ∃ x, Ce.InCs W v x := Ce.inCs_of hv h
theorem cb_arg1_of {H : Type} {enc : TypeId × Value → H} {W : World} {base : Nat} {v : Value} {d : DataW H} {ps : List MemPlace} (hv : Value.okWide Try.prog W .any base 3 v) (h : DataW.Trod enc Try.prog W 0 (fun _ => true) true 3 v d ps) : ∃ x, InI .i64 v x := inI_of Try.underlying3 hv h
theorem cb_arg2_of {H : Type} {enc : TypeId × Value → H} {W : World} {base : Nat} {v : Value} {d : DataW H} {ps : List MemPlace} (hv : Value.okWide Try.prog W .any base 35 v) (h : DataW.Trod enc Try.prog W 0 (fun _ => true) true 35 v d ps) : ∃ x, Ce.InN W v x := Ce.inN_of hv h
theorem cu_arg0_of {H : Type} {enc : TypeId × Value → H} {W : World} {base : Nat} {v : Value} {d : DataW H} {ps : List MemPlace} (hv : Value.okWide Try.prog W .any base 23 v) (h : DataW.Trod enc Try.prog W 0 (fun _ => true) true 23 v d ps) : ∃ x, Ce.InC v x := Ce.inC_of hv h
theorem cu_arg1_of {H : Type} {enc : TypeId × Value → H} {W : World} {base : Nat} {v : Value} {d : DataW H} {ps : List MemPlace} (hv : Value.okWide Try.prog W .any base 47 v) (h : DataW.Trod enc Try.prog W 0 (fun _ => true) true 47 v d ps) : ∃ x, InI .u16 v x := inI_of Try.underlying47 hv h
theorem cu_arg2_of {H : Type} {enc : TypeId × Value → H} {W : World} {base : Nat} {v : Value} {d : DataW H} {ps : List MemPlace} (hv : Value.okWide Try.prog W .any base 47 v) (h : DataW.Trod enc Try.prog W 0 (fun _ => true) true 47 v d ps) : ∃ x, InI .u16 v x := inI_of Try.underlying47 hv h
end Go.Proofs.Ytklhapekfgcplaa
