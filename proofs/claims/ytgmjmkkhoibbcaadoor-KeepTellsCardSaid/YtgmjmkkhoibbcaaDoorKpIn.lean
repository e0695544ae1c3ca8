/- A product, a lot, arrays of whole numbers that came in. No condition but those written. -/
import Derived.Test.YtgmjmkkhoibbcaaDoorIn2
import Derived.Test.YtgmjmkkhoibbcaaDoorOpen
import Derived.Test.YtgmjmkkhoibbcaaDoorKpNum
import Derived.Test.YtgmjmkkhoibbcaaDoorMsMap
namespace Go.Proofs.YtgmjmkkhoibbcaaDoor
open Go.RowKit Go.ChangeShapes Go.WideShapes Lo

namespace Kp
def I64 (x : Int) : Prop := -9223372036854775808 ≤ x ∧ x ≤ 9223372036854775807
theorem i64_in {n : Int} (h : (Lit.int .i64 n).wf = true) : I64 n := Se.i64_of h
def B63 (n : Nat) : Prop := n ≤ 9223372036854775807
theorem b63_zero : B63 0 := Nat.zero_le _
theorem b63_le {n c : Nat} (h : n ≤ c) (hc : c ≤ maxLen) : B63 n := by
  unfold maxLen at hc
  unfold B63
  omega
set_option maxRecDepth 100000 in
theorem rowsS_of {H : Type} {enc : TypeId × Value → H} {w : World} {base : Nat} {spare : Nat → Bool} {held : Bool} {fuel : Nat} {cs : List Value} {y : DataW H × List MemPlace}
    (h : DataW.trod enc Tryd.prog w base spare held fuel 25 cs = some y) : ∃ p len cap, cs = [.slice p len cap] ∧ len ≤ cap ∧ B63 len ∧ ∃ l, Rw 3 Sy.scells w p len l ∧ ∀ x ∈ l, (fun _ => True) x := by
  rcases open_parts Tryd.underlying25 Tryd.underlying58 (m := 3) (by kernel_rfl) h with h0 | ⟨a, len, cap, hcs, hl, hm, hp⟩
  · exact ⟨none, 0, 0, h0, Nat.le_refl _, b63_zero, [], rw_nil w, fun x hx => by simp at hx⟩
  · refine ⟨some a, len, cap, hcs, hl, b63_le hl hm, ?_⟩
    clear hm
    obtain ⟨b, o, spot⟩ := a
    have hs : 0 < len → spot = none := by
      intro h0
      obtain ⟨part, n, hlen, hc, _⟩ := hp 0 h0
      match part, hlen with
      | [v0, v1, v2], _ =>
        have k0 := hc 0 (by decide)
        simpa [Addr.add] using World.cell?_spot k0
    by_cases h0 : 0 < len
    case neg =>
      obtain rfl : len = 0 := by omega
      exact ⟨[], rw_zero w _, fun x hx => by simp at hx⟩
    obtain rfl := hs h0
    have key : ∀ i, i < len → ∃ t : Sy.Sy, (∀ j, j < 3 → w.cell? ⟨b, o + i * 3 + j, none⟩ = (Sy.scells t)[j]?) ∧ (fun _ => True) t := by
      intro i hi
      obtain ⟨part, n, hlen, hc, hf⟩ := hp i hi
      match part, hlen with
      | [v0, v1, v2], _ =>
        obtain ⟨y0, f0⟩ := hf 0 _ rfl
        change DataW.trod enc Tryd.prog w base spare held n 3 (List.take (Tryd.prog.cellsOf 3) (List.drop 0 [v0, v1, v2])) = some y0 at f0
        rw [show Tryd.prog.cellsOf 3 = 1 by kernel_rfl] at f0
        obtain ⟨m0, e0, _, g0⟩ := DataW.trod_int Tryd.underlying3 f0
        obtain ⟨y1, f1⟩ := hf 1 _ rfl
        change DataW.trod enc Tryd.prog w base spare held n 3 (List.take (Tryd.prog.cellsOf 3) (List.drop 1 [v0, v1, v2])) = some y1 at f1
        rw [show Tryd.prog.cellsOf 3 = 1 by kernel_rfl] at f1
        obtain ⟨m1, e1, _, g1⟩ := DataW.trod_int Tryd.underlying3 f1
        obtain ⟨y2, f2⟩ := hf 2 _ rfl
        change DataW.trod enc Tryd.prog w base spare held n 3 (List.take (Tryd.prog.cellsOf 3) (List.drop 2 [v0, v1, v2])) = some y2 at f2
        rw [show Tryd.prog.cellsOf 3 = 1 by kernel_rfl] at f2
        obtain ⟨m2, e2, _, g2⟩ := DataW.trod_int Tryd.underlying3 f2
        simp only [List.drop_zero, List.drop_succ_cons, List.take_succ_cons, List.take_zero, List.cons.injEq, and_true] at e0 e1 e2
        subst e0 e1 e2
        refine ⟨⟨m0, m1, m2⟩, fun j hj => ?_, trivial⟩
        have := hc j hj
        rw [add_none, ← Nat.add_assoc] at this
        exact this
    obtain ⟨l, hll, hlk⟩ := list_of (⟨0, 0, 0⟩ : Sy.Sy) (fun i t => (∀ j, j < 3 → w.cell? ⟨b, o + i * 3 + j, none⟩ = (Sy.scells t)[j]?) ∧ (fun _ => True) t) len key
    refine ⟨l, ⟨hll, fun _ => ⟨b, o, rfl, fun j x hx i hi => ?_⟩⟩, fun x hx => ?_⟩
    case refine_2 =>
      obtain ⟨j, hj, e⟩ := List.mem_iff_getElem.1 hx
      have h2 := (hlk j (by omega)).2
      have h3 : l.getD j (⟨0, 0, 0⟩ : Sy.Sy) = x := by rw [List.getD_eq_getElem?_getD, List.getElem?_eq_getElem hj]; exact e
      rw [h3] at h2
      exact h2
    have hj := (List.getElem?_eq_some_iff.1 hx).1
    have := (hlk j (by omega)).1 i hi
    rw [List.getD_eq_getElem?_getD, hx] at this
    exact this
/-- A product. -/
def InP (_ : World) (v : Value) (x : Ms.Pd) : Prop := v = Ms.pval x ∧ I64 x.id ∧ I64 x.limit ∧ I64 x.budget
set_option maxRecDepth 100000 in
theorem inP_of {H : Type} {enc : TypeId × Value → H} {W : World} {base : Nat} {v : Value} {d : DataW H} {ps : List MemPlace} (hv : Value.okWide Tryd.prog W .any base 23 v) (h : DataW.Trod enc Tryd.prog W 0 (fun _ => true) true 23 v d ps) :
    ∃ x, InP W v x := by
  obtain ⟨cs, rfl, hl, hf⟩ := open_whole Tryd.underlying23 (m := 3) (by kernel_rfl) hv h
  match cs, hl with
  | [v0, v1, v2], _ =>
    obtain ⟨n0, y0, f0⟩ := hf 0 _ rfl
    change DataW.trod enc Tryd.prog W 0 (fun _ => true) true n0 3 (List.take (Tryd.prog.cellsOf 3) (List.drop 0 [v0, v1, v2])) = some y0 at f0
    rw [show Tryd.prog.cellsOf 3 = 1 by kernel_rfl] at f0
    obtain ⟨m0, e0, _, g0⟩ := DataW.trod_int Tryd.underlying3 f0
    obtain ⟨n1, y1, f1⟩ := hf 1 _ rfl
    change DataW.trod enc Tryd.prog W 0 (fun _ => true) true n1 3 (List.take (Tryd.prog.cellsOf 3) (List.drop 1 [v0, v1, v2])) = some y1 at f1
    rw [show Tryd.prog.cellsOf 3 = 1 by kernel_rfl] at f1
    obtain ⟨m1, e1, _, g1⟩ := DataW.trod_int Tryd.underlying3 f1
    obtain ⟨n2, y2, f2⟩ := hf 2 _ rfl
    change DataW.trod enc Tryd.prog W 0 (fun _ => true) true n2 3 (List.take (Tryd.prog.cellsOf 3) (List.drop 2 [v0, v1, v2])) = some y2 at f2
    rw [show Tryd.prog.cellsOf 3 = 1 by kernel_rfl] at f2
    obtain ⟨m2, e2, _, g2⟩ := DataW.trod_int Tryd.underlying3 f2
    simp only [List.drop_zero, List.drop_succ_cons, List.take_succ_cons, List.take_zero, List.cons.injEq, and_true] at e0 e1 e2
    subst e0 e1 e2
    exact ⟨⟨m0, m1, m2⟩, rfl, i64_in g0, i64_in g1, i64_in g2⟩
/-- A lot. -/
def InL (W : World) (v : Value) (y : Lv) : Prop := v = lval y ∧ St W y ∧ B63 y.n ∧ (I64 y.x.id ∧ I64 y.x.product ∧ I64 y.x.units) ∧ I64 y.x.expiry ∧ I64 y.x.grant ∧ I64 y.x.order ∧ I64 y.x.status
set_option maxRecDepth 100000 in
theorem inL_of {H : Type} {enc : TypeId × Value → H} {W : World} {base : Nat} {v : Value} {d : DataW H} {ps : List MemPlace} (hv : Value.okWide Tryd.prog W .any base 27 v) (h : DataW.Trod enc Tryd.prog W 0 (fun _ => true) true 27 v d ps) :
    ∃ x, InL W v x := by
  obtain ⟨cs, rfl, hl, hf⟩ := open_whole Tryd.underlying27 (m := 8) (by kernel_rfl) hv h
  match cs, hl with
  | [v0, v1, v2, v3, v4, v5, v6, v7], _ =>
    obtain ⟨n0, y0, f0⟩ := hf 0 _ rfl
    change DataW.trod enc Tryd.prog W 0 (fun _ => true) true n0 3 (List.take (Tryd.prog.cellsOf 3) (List.drop 0 [v0, v1, v2, v3, v4, v5, v6, v7])) = some y0 at f0
    rw [show Tryd.prog.cellsOf 3 = 1 by kernel_rfl] at f0
    obtain ⟨m0, e0, _, g0⟩ := DataW.trod_int Tryd.underlying3 f0
    obtain ⟨n1, y1, f1⟩ := hf 1 _ rfl
    change DataW.trod enc Tryd.prog W 0 (fun _ => true) true n1 3 (List.take (Tryd.prog.cellsOf 3) (List.drop 1 [v0, v1, v2, v3, v4, v5, v6, v7])) = some y1 at f1
    rw [show Tryd.prog.cellsOf 3 = 1 by kernel_rfl] at f1
    obtain ⟨m1, e1, _, g1⟩ := DataW.trod_int Tryd.underlying3 f1
    obtain ⟨n2, y2, f2⟩ := hf 2 _ rfl
    change DataW.trod enc Tryd.prog W 0 (fun _ => true) true n2 3 (List.take (Tryd.prog.cellsOf 3) (List.drop 2 [v0, v1, v2, v3, v4, v5, v6, v7])) = some y2 at f2
    rw [show Tryd.prog.cellsOf 3 = 1 by kernel_rfl] at f2
    obtain ⟨m2, e2, _, g2⟩ := DataW.trod_int Tryd.underlying3 f2
    obtain ⟨n3, y3, f3⟩ := hf 3 _ rfl
    change DataW.trod enc Tryd.prog W 0 (fun _ => true) true n3 3 (List.take (Tryd.prog.cellsOf 3) (List.drop 3 [v0, v1, v2, v3, v4, v5, v6, v7])) = some y3 at f3
    rw [show Tryd.prog.cellsOf 3 = 1 by kernel_rfl] at f3
    obtain ⟨m3, e3, _, g3⟩ := DataW.trod_int Tryd.underlying3 f3
    obtain ⟨n4, y4, f4⟩ := hf 4 _ rfl
    change DataW.trod enc Tryd.prog W 0 (fun _ => true) true n4 3 (List.take (Tryd.prog.cellsOf 3) (List.drop 4 [v0, v1, v2, v3, v4, v5, v6, v7])) = some y4 at f4
    rw [show Tryd.prog.cellsOf 3 = 1 by kernel_rfl] at f4
    obtain ⟨m4, e4, _, g4⟩ := DataW.trod_int Tryd.underlying3 f4
    obtain ⟨n5, y5, f5⟩ := hf 5 _ rfl
    change DataW.trod enc Tryd.prog W 0 (fun _ => true) true n5 3 (List.take (Tryd.prog.cellsOf 3) (List.drop 5 [v0, v1, v2, v3, v4, v5, v6, v7])) = some y5 at f5
    rw [show Tryd.prog.cellsOf 3 = 1 by kernel_rfl] at f5
    obtain ⟨m5, e5, _, g5⟩ := DataW.trod_int Tryd.underlying3 f5
    obtain ⟨n6, y6, f6⟩ := hf 6 _ rfl
    change DataW.trod enc Tryd.prog W 0 (fun _ => true) true n6 24 (List.take (Tryd.prog.cellsOf 24) (List.drop 6 [v0, v1, v2, v3, v4, v5, v6, v7])) = some y6 at f6
    rw [show Tryd.prog.cellsOf 24 = 1 by kernel_rfl] at f6
    obtain ⟨m6, e6, _, g6⟩ := DataW.trod_int Tryd.underlying24 f6
    obtain ⟨n7, y7, f7⟩ := hf 7 _ rfl
    change DataW.trod enc Tryd.prog W 0 (fun _ => true) true n7 25 (List.take (Tryd.prog.cellsOf 25) (List.drop 7 [v0, v1, v2, v3, v4, v5, v6, v7])) = some y7 at f7
    rw [show Tryd.prog.cellsOf 25 = 1 by kernel_rfl] at f7
    obtain ⟨p7, l7, c7, e7, hnc, hbig, ls, hls, _⟩ := rowsS_of f7
    simp only [List.drop_zero, List.drop_succ_cons, List.take_succ_cons, List.take_zero, List.cons.injEq, and_true] at e0 e1 e2 e3 e4 e5 e6 e7
    subst e0 e1 e2 e3 e4 e5 e6 e7
    exact ⟨⟨⟨m0, m1, m2, m3, m4, m5, m6, ls⟩, p7, l7, c7⟩, rfl, ⟨hls, hnc⟩, hbig, ⟨i64_in g0, i64_in g1, i64_in g2⟩, i64_in g3, i64_in g4, i64_in g5, i64_in g6⟩
/-- Three numbers. -/
def In3 (_ : World) (v : Value) (x : Int × Int × Int) : Prop := v = .agg #[.int .i64 x.1, .int .i64 x.2.1, .int .i64 x.2.2] ∧ I64 x.1 ∧ I64 x.2.1 ∧ I64 x.2.2
set_option maxRecDepth 100000 in
theorem in3_of {H : Type} {enc : TypeId × Value → H} {W : World} {base : Nat} {v : Value} {d : DataW H} {ps : List MemPlace} (hv : Value.okWide Tryd.prog W .any base 28 v) (h : DataW.Trod enc Tryd.prog W 0 (fun _ => true) true 28 v d ps) :
    ∃ x, In3 W v x := by
  obtain ⟨cs, rfl, hl, hf⟩ := open_array Tryd.underlying28 (m := 3) (c := 1) (by kernel_rfl) (by kernel_rfl) hv h
  match cs, hl with
  | [v0, v1, v2], _ =>
    obtain ⟨n0, y0, f0⟩ := hf 0 (by decide)
    obtain ⟨n1, y1, f1⟩ := hf 1 (by decide)
    obtain ⟨n2, y2, f2⟩ := hf 2 (by decide)
    simp only [Nat.mul_one, List.drop_zero, List.drop_succ_cons, List.take_succ_cons, List.take_zero] at f0 f1 f2
    obtain ⟨m0, e0, _, g0⟩ := DataW.trod_int Tryd.underlying3 f0
    obtain ⟨m1, e1, _, g1⟩ := DataW.trod_int Tryd.underlying3 f1
    obtain ⟨m2, e2, _, g2⟩ := DataW.trod_int Tryd.underlying3 f2
    simp only [List.cons.injEq, and_true] at e0 e1 e2
    subst e0 e1 e2
    exact ⟨(m0, m1, m2), rfl, i64_in g0, i64_in g1, i64_in g2⟩
/-- Four numbers. -/
def In4 (_ : World) (v : Value) (x : Int × Int × Int × Int) : Prop := v = .agg #[.int .i64 x.1, .int .i64 x.2.1, .int .i64 x.2.2.1, .int .i64 x.2.2.2] ∧ I64 x.1 ∧ I64 x.2.1 ∧ I64 x.2.2.1 ∧ I64 x.2.2.2
set_option maxRecDepth 100000 in
theorem in4_of {H : Type} {enc : TypeId × Value → H} {W : World} {base : Nat} {v : Value} {d : DataW H} {ps : List MemPlace} (hv : Value.okWide Tryd.prog W .any base 41 v) (h : DataW.Trod enc Tryd.prog W 0 (fun _ => true) true 41 v d ps) :
    ∃ x, In4 W v x := by
  obtain ⟨cs, rfl, hl, hf⟩ := open_array Tryd.underlying41 (m := 4) (c := 1) (by kernel_rfl) (by kernel_rfl) hv h
  match cs, hl with
  | [v0, v1, v2, v3], _ =>
    obtain ⟨n0, y0, f0⟩ := hf 0 (by decide)
    obtain ⟨n1, y1, f1⟩ := hf 1 (by decide)
    obtain ⟨n2, y2, f2⟩ := hf 2 (by decide)
    obtain ⟨n3, y3, f3⟩ := hf 3 (by decide)
    simp only [Nat.mul_one, List.drop_zero, List.drop_succ_cons, List.take_succ_cons, List.take_zero] at f0 f1 f2 f3
    obtain ⟨m0, e0, _, g0⟩ := DataW.trod_int Tryd.underlying3 f0
    obtain ⟨m1, e1, _, g1⟩ := DataW.trod_int Tryd.underlying3 f1
    obtain ⟨m2, e2, _, g2⟩ := DataW.trod_int Tryd.underlying3 f2
    obtain ⟨m3, e3, _, g3⟩ := DataW.trod_int Tryd.underlying3 f3
    simp only [List.cons.injEq, and_true] at e0 e1 e2 e3
    subst e0 e1 e2 e3
    exact ⟨(m0, m1, m2, m3), rfl, i64_in g0, i64_in g1, i64_in g2, i64_in g3⟩
end Kp
end Go.Proofs.YtgmjmkkhoibbcaaDoor
