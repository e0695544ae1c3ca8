/- Zones, products, stays, lots, acts that came in. No condition but those written. An act of layer 12's law on no stock. Condition: the contracts of package stock. StockPlays' walk: any acts on a stock, over any zones and products. Condition: the contracts of packages master and stock. A package stock and the document's one, alone. Condition: the contracts of package stock. A region that draws its order, in a round of a range over a function: by the plain laws. No condition but those written. -/
import Derived.Test.YtkfmkchonlajpaaQ01
import Derived.Test.YtkfmkchonlajpaaQ05
import Derived.Lib.QuietBelow
import Derived.Deep.RegionHeld3
import Derived.RangeFuncNested
import Derived.RangeFuncBound
import Derived.RangeFuncCalls
import Derived.RangeFuncLeaves
import Derived.StillTail
import Derived.WalkKit
import Derived.OwnWalkIn
import Derived.TacticsInMore
import Derived.LoopNIn
import Derived.LoopIn
namespace Go.Proofs.Ytkfmkchonlajpaa
open Go.RowKit Go.ChangeShapes Go.WideShapes

namespace Lo
def B63 (n : Nat) : Prop := n ≤ 9223372036854775807
theorem b63_zero : B63 0 := Nat.zero_le _
theorem b63_le {n c : Nat} (h : n ≤ c) (hc : c ≤ maxLen) : B63 n := by
  unfold maxLen at hc
  unfold B63
  omega
set_option maxRecDepth 100000 in
theorem rowsZ_of {H : Type} {enc : TypeId × Value → H} {w : World} {base : Nat} {spare : Nat → Bool} {held : Bool} {fuel : Nat} {cs : List Value} {y : DataW H × List MemPlace}
    (h : DataW.trod enc Try.prog w base spare held fuel 149 cs = some y) : ∃ p len cap, cs = [.slice p len cap] ∧ len ≤ cap ∧ B63 len ∧ ∃ l, Rw 6 Ms.zcells w p len l ∧ ∀ x ∈ l, (fun _ => True) x := by
  rcases open_parts Try.underlying149 Try.underlying45 (m := 6) (by kernel_rfl) h with h0 | ⟨a, len, cap, hcs, hl, hm, hp⟩
  · exact ⟨none, 0, 0, h0, Nat.le_refl _, b63_zero, [], rw_nil w, fun x hx => by simp at hx⟩
  · refine ⟨some a, len, cap, hcs, hl, b63_le hl hm, ?_⟩
    clear hm
    obtain ⟨b, o, spot⟩ := a
    have hs : 0 < len → spot = none := by
      intro h0
      obtain ⟨part, n, hlen, hc, _⟩ := hp 0 h0
      match part, hlen with
      | [v0, v1, v2, v3, v4, v5], _ =>
        have k0 := hc 0 (by decide)
        simpa [Addr.add] using World.cell?_spot k0
    by_cases h0 : 0 < len
    case neg =>
      obtain rfl : len = 0 := by omega
      exact ⟨[], rw_zero w _, fun x hx => by simp at hx⟩
    obtain rfl := hs h0
    have key : ∀ i, i < len → ∃ t : Ms.Zn, (∀ j, j < 6 → w.cell? ⟨b, o + i * 6 + j, none⟩ = (Ms.zcells t)[j]?) ∧ (fun _ => True) t := by
      intro i hi
      obtain ⟨part, n, hlen, hc, hf⟩ := hp i hi
      match part, hlen with
      | [v0, v1, v2, v3, v4, v5], _ =>
        obtain ⟨y0, f0⟩ := hf 0 _ rfl
        change DataW.trod enc Try.prog w base spare held n 3 (List.take (Try.prog.cellsOf 3) (List.drop 0 [v0, v1, v2, v3, v4, v5])) = some y0 at f0
        rw [show Try.prog.cellsOf 3 = 1 by kernel_rfl] at f0
        obtain ⟨m0, e0, _, g0⟩ := DataW.trod_int Try.underlying3 f0
        obtain ⟨y1, f1⟩ := hf 1 _ rfl
        change DataW.trod enc Try.prog w base spare held n 3 (List.take (Try.prog.cellsOf 3) (List.drop 1 [v0, v1, v2, v3, v4, v5])) = some y1 at f1
        rw [show Try.prog.cellsOf 3 = 1 by kernel_rfl] at f1
        obtain ⟨m1, e1, _, g1⟩ := DataW.trod_int Try.underlying3 f1
        obtain ⟨y2, f2⟩ := hf 2 _ rfl
        change DataW.trod enc Try.prog w base spare held n 3 (List.take (Try.prog.cellsOf 3) (List.drop 2 [v0, v1, v2, v3, v4, v5])) = some y2 at f2
        rw [show Try.prog.cellsOf 3 = 1 by kernel_rfl] at f2
        obtain ⟨m2, e2, _, g2⟩ := DataW.trod_int Try.underlying3 f2
        obtain ⟨y3, f3⟩ := hf 3 _ rfl
        change DataW.trod enc Try.prog w base spare held n 3 (List.take (Try.prog.cellsOf 3) (List.drop 3 [v0, v1, v2, v3, v4, v5])) = some y3 at f3
        rw [show Try.prog.cellsOf 3 = 1 by kernel_rfl] at f3
        obtain ⟨m3, e3, _, g3⟩ := DataW.trod_int Try.underlying3 f3
        obtain ⟨y4, f4⟩ := hf 4 _ rfl
        change DataW.trod enc Try.prog w base spare held n 4 (List.take (Try.prog.cellsOf 4) (List.drop 4 [v0, v1, v2, v3, v4, v5])) = some y4 at f4
        rw [show Try.prog.cellsOf 4 = 1 by kernel_rfl] at f4
        obtain ⟨m4, e4, _⟩ := DataW.trod_bool Try.underlying4 f4
        obtain ⟨y5, f5⟩ := hf 5 _ rfl
        change DataW.trod enc Try.prog w base spare held n 3 (List.take (Try.prog.cellsOf 3) (List.drop 5 [v0, v1, v2, v3, v4, v5])) = some y5 at f5
        rw [show Try.prog.cellsOf 3 = 1 by kernel_rfl] at f5
        obtain ⟨m5, e5, _, g5⟩ := DataW.trod_int Try.underlying3 f5
        simp only [List.drop_zero, List.drop_succ_cons, List.take_succ_cons, List.take_zero, List.cons.injEq, and_true] at e0 e1 e2 e3 e4 e5
        subst e0 e1 e2 e3 e4 e5
        refine ⟨⟨m0, m1, m2, m3, m4, m5⟩, fun j hj => ?_, trivial⟩
        have := hc j hj
        rw [add_none, ← Nat.add_assoc] at this
        exact this
    obtain ⟨l, hll, hlk⟩ := list_of (Ms.zn0 : Ms.Zn) (fun i t => (∀ j, j < 6 → w.cell? ⟨b, o + i * 6 + j, none⟩ = (Ms.zcells t)[j]?) ∧ (fun _ => True) t) len key
    refine ⟨l, ⟨hll, fun _ => ⟨b, o, rfl, fun j x hx i hi => ?_⟩⟩, fun x hx => ?_⟩
    case refine_2 =>
      obtain ⟨j, hj, e⟩ := List.mem_iff_getElem.1 hx
      have h2 := (hlk j (by omega)).2
      have h3 : l.getD j (Ms.zn0 : Ms.Zn) = x := by rw [List.getD_eq_getElem?_getD, List.getElem?_eq_getElem hj]; exact e
      rw [h3] at h2
      exact h2
    have hj := (List.getElem?_eq_some_iff.1 hx).1
    have := (hlk j (by omega)).1 i hi
    rw [List.getD_eq_getElem?_getD, hx] at this
    exact this
set_option maxRecDepth 100000 in
theorem rowsP_of {H : Type} {enc : TypeId × Value → H} {w : World} {base : Nat} {spare : Nat → Bool} {held : Bool} {fuel : Nat} {cs : List Value} {y : DataW H × List MemPlace}
    (h : DataW.trod enc Try.prog w base spare held fuel 148 cs = some y) : ∃ p len cap, cs = [.slice p len cap] ∧ len ≤ cap ∧ B63 len ∧ ∃ l, Rw 3 Ms.pcells w p len l ∧ ∀ x ∈ l, (fun _ => True) x := by
  rcases open_parts Try.underlying148 Try.underlying48 (m := 3) (by kernel_rfl) h with h0 | ⟨a, len, cap, hcs, hl, hm, hp⟩
  · exact ⟨none, 0, 0, h0, Nat.le_refl _, b63_zero, [], rw_nil w, fun x hx => by simp at hx⟩
  · refine ⟨some a, len, cap, hcs, hl, b63_le hl hm, ?_⟩
    clear hm
    obtain ⟨b, o, spot⟩ := a
    have hs : 0 < len → spot = none := by
      intro h0
      obtain ⟨part, n, hlen, hc, _⟩ := hp 0 h0
      match part, hlen with
      | [v0, v1, v2], _ =>
        have k0 := hc 0 (by decide)
        simpa [Addr.add] using World.cell?_spot k0
    by_cases h0 : 0 < len
    case neg =>
      obtain rfl : len = 0 := by omega
      exact ⟨[], rw_zero w _, fun x hx => by simp at hx⟩
    obtain rfl := hs h0
    have key : ∀ i, i < len → ∃ t : Ms.Pd, (∀ j, j < 3 → w.cell? ⟨b, o + i * 3 + j, none⟩ = (Ms.pcells t)[j]?) ∧ (fun _ => True) t := by
      intro i hi
      obtain ⟨part, n, hlen, hc, hf⟩ := hp i hi
      match part, hlen with
      | [v0, v1, v2], _ =>
        obtain ⟨y0, f0⟩ := hf 0 _ rfl
        change DataW.trod enc Try.prog w base spare held n 3 (List.take (Try.prog.cellsOf 3) (List.drop 0 [v0, v1, v2])) = some y0 at f0
        rw [show Try.prog.cellsOf 3 = 1 by kernel_rfl] at f0
        obtain ⟨m0, e0, _, g0⟩ := DataW.trod_int Try.underlying3 f0
        obtain ⟨y1, f1⟩ := hf 1 _ rfl
        change DataW.trod enc Try.prog w base spare held n 3 (List.take (Try.prog.cellsOf 3) (List.drop 1 [v0, v1, v2])) = some y1 at f1
        rw [show Try.prog.cellsOf 3 = 1 by kernel_rfl] at f1
        obtain ⟨m1, e1, _, g1⟩ := DataW.trod_int Try.underlying3 f1
        obtain ⟨y2, f2⟩ := hf 2 _ rfl
        change DataW.trod enc Try.prog w base spare held n 3 (List.take (Try.prog.cellsOf 3) (List.drop 2 [v0, v1, v2])) = some y2 at f2
        rw [show Try.prog.cellsOf 3 = 1 by kernel_rfl] at f2
        obtain ⟨m2, e2, _, g2⟩ := DataW.trod_int Try.underlying3 f2
        simp only [List.drop_zero, List.drop_succ_cons, List.take_succ_cons, List.take_zero, List.cons.injEq, and_true] at e0 e1 e2
        subst e0 e1 e2
        refine ⟨⟨m0, m1, m2⟩, fun j hj => ?_, trivial⟩
        have := hc j hj
        rw [add_none, ← Nat.add_assoc] at this
        exact this
    obtain ⟨l, hll, hlk⟩ := list_of (Ms.pd0 : Ms.Pd) (fun i t => (∀ j, j < 3 → w.cell? ⟨b, o + i * 3 + j, none⟩ = (Ms.pcells t)[j]?) ∧ (fun _ => True) t) len key
    refine ⟨l, ⟨hll, fun _ => ⟨b, o, rfl, fun j x hx i hi => ?_⟩⟩, fun x hx => ?_⟩
    case refine_2 =>
      obtain ⟨j, hj, e⟩ := List.mem_iff_getElem.1 hx
      have h2 := (hlk j (by omega)).2
      have h3 : l.getD j (Ms.pd0 : Ms.Pd) = x := by rw [List.getD_eq_getElem?_getD, List.getElem?_eq_getElem hj]; exact e
      rw [h3] at h2
      exact h2
    have hj := (List.getElem?_eq_some_iff.1 hx).1
    have := (hlk j (by omega)).1 i hi
    rw [List.getD_eq_getElem?_getD, hx] at this
    exact this
set_option maxRecDepth 100000 in
theorem rowsS_of {H : Type} {enc : TypeId × Value → H} {w : World} {base : Nat} {spare : Nat → Bool} {held : Bool} {fuel : Nat} {cs : List Value} {y : DataW H × List MemPlace}
    (h : DataW.trod enc Try.prog w base spare held fuel 30 cs = some y) : ∃ p len cap, cs = [.slice p len cap] ∧ len ≤ cap ∧ B63 len ∧ ∃ l, Rw 3 Sy.scells w p len l ∧ ∀ x ∈ l, (fun _ => True) x := by
  rcases open_parts Try.underlying30 Try.underlying57 (m := 3) (by kernel_rfl) h with h0 | ⟨a, len, cap, hcs, hl, hm, hp⟩
  · exact ⟨none, 0, 0, h0, Nat.le_refl _, b63_zero, [], rw_nil w, fun x hx => by simp at hx⟩
  · refine ⟨some a, len, cap, hcs, hl, b63_le hl hm, ?_⟩
    clear hm
    obtain ⟨b, o, spot⟩ := a
    have hs : 0 < len → spot = none := by
      intro h0
      obtain ⟨part, n, hlen, hc, _⟩ := hp 0 h0
      match part, hlen with
      | [v0, v1, v2], _ =>
        have k0 := hc 0 (by decide)
        simpa [Addr.add] using World.cell?_spot k0
    by_cases h0 : 0 < len
    case neg =>
      obtain rfl : len = 0 := by omega
      exact ⟨[], rw_zero w _, fun x hx => by simp at hx⟩
    obtain rfl := hs h0
    have key : ∀ i, i < len → ∃ t : Sy.Sy, (∀ j, j < 3 → w.cell? ⟨b, o + i * 3 + j, none⟩ = (Sy.scells t)[j]?) ∧ (fun _ => True) t := by
      intro i hi
      obtain ⟨part, n, hlen, hc, hf⟩ := hp i hi
      match part, hlen with
      | [v0, v1, v2], _ =>
        obtain ⟨y0, f0⟩ := hf 0 _ rfl
        change DataW.trod enc Try.prog w base spare held n 3 (List.take (Try.prog.cellsOf 3) (List.drop 0 [v0, v1, v2])) = some y0 at f0
        rw [show Try.prog.cellsOf 3 = 1 by kernel_rfl] at f0
        obtain ⟨m0, e0, _, g0⟩ := DataW.trod_int Try.underlying3 f0
        obtain ⟨y1, f1⟩ := hf 1 _ rfl
        change DataW.trod enc Try.prog w base spare held n 3 (List.take (Try.prog.cellsOf 3) (List.drop 1 [v0, v1, v2])) = some y1 at f1
        rw [show Try.prog.cellsOf 3 = 1 by kernel_rfl] at f1
        obtain ⟨m1, e1, _, g1⟩ := DataW.trod_int Try.underlying3 f1
        obtain ⟨y2, f2⟩ := hf 2 _ rfl
        change DataW.trod enc Try.prog w base spare held n 3 (List.take (Try.prog.cellsOf 3) (List.drop 2 [v0, v1, v2])) = some y2 at f2
        rw [show Try.prog.cellsOf 3 = 1 by kernel_rfl] at f2
        obtain ⟨m2, e2, _, g2⟩ := DataW.trod_int Try.underlying3 f2
        simp only [List.drop_zero, List.drop_succ_cons, List.take_succ_cons, List.take_zero, List.cons.injEq, and_true] at e0 e1 e2
        subst e0 e1 e2
        refine ⟨⟨m0, m1, m2⟩, fun j hj => ?_, trivial⟩
        have := hc j hj
        rw [add_none, ← Nat.add_assoc] at this
        exact this
    obtain ⟨l, hll, hlk⟩ := list_of (⟨0, 0, 0⟩ : Sy.Sy) (fun i t => (∀ j, j < 3 → w.cell? ⟨b, o + i * 3 + j, none⟩ = (Sy.scells t)[j]?) ∧ (fun _ => True) t) len key
    refine ⟨l, ⟨hll, fun _ => ⟨b, o, rfl, fun j x hx i hi => ?_⟩⟩, fun x hx => ?_⟩
    case refine_2 =>
      obtain ⟨j, hj, e⟩ := List.mem_iff_getElem.1 hx
      have h2 := (hlk j (by omega)).2
      have h3 : l.getD j (⟨0, 0, 0⟩ : Sy.Sy) = x := by rw [List.getD_eq_getElem?_getD, List.getElem?_eq_getElem hj]; exact e
      rw [h3] at h2
      exact h2
    have hj := (List.getElem?_eq_some_iff.1 hx).1
    have := (hlk j (by omega)).1 i hi
    rw [List.getD_eq_getElem?_getD, hx] at this
    exact this
theorem i64_in {n : Int} (h : (Lit.int .i64 n).wf = true) : I64 n := Se.i64_of h
theorem u8_in {n : Int} (h : (Lit.int .u8 n).wf = true) : 0 ≤ n ∧ n ≤ 255 := by
  have h1 := (Lit.wf_int_iff .u8 n).1 h
  have e1 : IntKind.u8.min = 0 := by decide
  have e2 : IntKind.u8.max = 255 := by decide
  rw [e1, e2] at h1
  omega
set_option maxRecDepth 100000 in
theorem rowsL_of {H : Type} {enc : TypeId × Value → H} {w : World} {base : Nat} {spare : Nat → Bool} {held : Bool} {fuel : Nat} {cs : List Value} {y : DataW H × List MemPlace}
    (h : DataW.trod enc Try.prog w base spare held fuel 22 cs = some y) : ∃ p len cap, cs = [.slice p len cap] ∧ len ≤ cap ∧ B63 len ∧ ∃ l, Rw 8 lcells w p len l ∧ ∀ x ∈ l, (fun y => St w y ∧ B63 y.n) x := by
  rcases open_parts Try.underlying22 Try.underlying32 (m := 8) (by kernel_rfl) h with h0 | ⟨a, len, cap, hcs, hl, hm, hp⟩
  · exact ⟨none, 0, 0, h0, Nat.le_refl _, b63_zero, [], rw_nil w, fun x hx => by simp at hx⟩
  · refine ⟨some a, len, cap, hcs, hl, b63_le hl hm, ?_⟩
    clear hm
    obtain ⟨b, o, spot⟩ := a
    have hs : 0 < len → spot = none := by
      intro h0
      obtain ⟨part, n, hlen, hc, _⟩ := hp 0 h0
      match part, hlen with
      | [v0, v1, v2, v3, v4, v5, v6, v7], _ =>
        have k0 := hc 0 (by decide)
        simpa [Addr.add] using World.cell?_spot k0
    by_cases h0 : 0 < len
    case neg =>
      obtain rfl : len = 0 := by omega
      exact ⟨[], rw_zero w _, fun x hx => by simp at hx⟩
    obtain rfl := hs h0
    have key : ∀ i, i < len → ∃ t : Lv, (∀ j, j < 8 → w.cell? ⟨b, o + i * 8 + j, none⟩ = (lcells t)[j]?) ∧ (fun y => St w y ∧ B63 y.n) t := by
      intro i hi
      obtain ⟨part, n, hlen, hc, hf⟩ := hp i hi
      match part, hlen with
      | [v0, v1, v2, v3, v4, v5, v6, v7], _ =>
        obtain ⟨y0, f0⟩ := hf 0 _ rfl
        change DataW.trod enc Try.prog w base spare held n 3 (List.take (Try.prog.cellsOf 3) (List.drop 0 [v0, v1, v2, v3, v4, v5, v6, v7])) = some y0 at f0
        rw [show Try.prog.cellsOf 3 = 1 by kernel_rfl] at f0
        obtain ⟨m0, e0, _, g0⟩ := DataW.trod_int Try.underlying3 f0
        obtain ⟨y1, f1⟩ := hf 1 _ rfl
        change DataW.trod enc Try.prog w base spare held n 3 (List.take (Try.prog.cellsOf 3) (List.drop 1 [v0, v1, v2, v3, v4, v5, v6, v7])) = some y1 at f1
        rw [show Try.prog.cellsOf 3 = 1 by kernel_rfl] at f1
        obtain ⟨m1, e1, _, g1⟩ := DataW.trod_int Try.underlying3 f1
        obtain ⟨y2, f2⟩ := hf 2 _ rfl
        change DataW.trod enc Try.prog w base spare held n 3 (List.take (Try.prog.cellsOf 3) (List.drop 2 [v0, v1, v2, v3, v4, v5, v6, v7])) = some y2 at f2
        rw [show Try.prog.cellsOf 3 = 1 by kernel_rfl] at f2
        obtain ⟨m2, e2, _, g2⟩ := DataW.trod_int Try.underlying3 f2
        obtain ⟨y3, f3⟩ := hf 3 _ rfl
        change DataW.trod enc Try.prog w base spare held n 3 (List.take (Try.prog.cellsOf 3) (List.drop 3 [v0, v1, v2, v3, v4, v5, v6, v7])) = some y3 at f3
        rw [show Try.prog.cellsOf 3 = 1 by kernel_rfl] at f3
        obtain ⟨m3, e3, _, g3⟩ := DataW.trod_int Try.underlying3 f3
        obtain ⟨y4, f4⟩ := hf 4 _ rfl
        change DataW.trod enc Try.prog w base spare held n 3 (List.take (Try.prog.cellsOf 3) (List.drop 4 [v0, v1, v2, v3, v4, v5, v6, v7])) = some y4 at f4
        rw [show Try.prog.cellsOf 3 = 1 by kernel_rfl] at f4
        obtain ⟨m4, e4, _, g4⟩ := DataW.trod_int Try.underlying3 f4
        obtain ⟨y5, f5⟩ := hf 5 _ rfl
        change DataW.trod enc Try.prog w base spare held n 3 (List.take (Try.prog.cellsOf 3) (List.drop 5 [v0, v1, v2, v3, v4, v5, v6, v7])) = some y5 at f5
        rw [show Try.prog.cellsOf 3 = 1 by kernel_rfl] at f5
        obtain ⟨m5, e5, _, g5⟩ := DataW.trod_int Try.underlying3 f5
        obtain ⟨y6, f6⟩ := hf 6 _ rfl
        change DataW.trod enc Try.prog w base spare held n 29 (List.take (Try.prog.cellsOf 29) (List.drop 6 [v0, v1, v2, v3, v4, v5, v6, v7])) = some y6 at f6
        rw [show Try.prog.cellsOf 29 = 1 by kernel_rfl] at f6
        obtain ⟨m6, e6, _, g6⟩ := DataW.trod_int Try.underlying29 f6
        obtain ⟨y7, f7⟩ := hf 7 _ rfl
        change DataW.trod enc Try.prog w base spare held n 30 (List.take (Try.prog.cellsOf 30) (List.drop 7 [v0, v1, v2, v3, v4, v5, v6, v7])) = some y7 at f7
        rw [show Try.prog.cellsOf 30 = 1 by kernel_rfl] at f7
        obtain ⟨p7, n7, c7, e7, hnc, hbig, ls, hls, _⟩ := rowsS_of f7
        simp only [List.drop_zero, List.drop_succ_cons, List.take_succ_cons, List.take_zero, List.cons.injEq, and_true] at e0 e1 e2 e3 e4 e5 e6 e7
        subst e0 e1 e2 e3 e4 e5 e6 e7
        refine ⟨⟨⟨m0, m1, m2, m3, m4, m5, m6, ls⟩, p7, n7, c7⟩, fun j hj => ?_, ⟨hls, hnc⟩, hbig⟩
        have := hc j hj
        rw [add_none, ← Nat.add_assoc] at this
        exact this
    obtain ⟨l, hll, hlk⟩ := list_of (⟨lt0, none, 0, 0⟩ : Lv) (fun i t => (∀ j, j < 8 → w.cell? ⟨b, o + i * 8 + j, none⟩ = (lcells t)[j]?) ∧ (fun y => St w y ∧ B63 y.n) t) len key
    refine ⟨l, ⟨hll, fun _ => ⟨b, o, rfl, fun j x hx i hi => ?_⟩⟩, fun x hx => ?_⟩
    case refine_2 =>
      obtain ⟨j, hj, e⟩ := List.mem_iff_getElem.1 hx
      have h2 := (hlk j (by omega)).2
      have h3 : l.getD j (⟨lt0, none, 0, 0⟩ : Lv) = x := by rw [List.getD_eq_getElem?_getD, List.getElem?_eq_getElem hj]; exact e
      rw [h3] at h2
      exact h2
    have hj := (List.getElem?_eq_some_iff.1 hx).1
    have := (hlk j (by omega)).1 i hi
    rw [List.getD_eq_getElem?_getD, hx] at this
    exact this
/-- Zones and products that came in. -/
structure Hs where
  p : Option Addr
  n : Nat
  c : Nat
  q : Option Addr
  m : Nat
  d : Nat
def InH (W : World) (v : Value) (x : Hs) : Prop := v = .agg #[.slice x.p x.n x.c, .slice x.q x.m x.d] ∧ B63 x.n ∧ B63 x.m ∧ (∃ l, Rw 6 Ms.zcells W x.p x.n l) ∧ ∃ l, Rw 3 Ms.pcells W x.q x.m l
/-- A slice that came in. -/
structure Sl where
  p : Option Addr
  n : Nat
  c : Nat
def InA (W : World) (v : Value) (x : Sl) : Prop := v = .slice x.p x.n x.c ∧ x.n ≤ x.c ∧ B63 x.n ∧ ∃ l, Rw 6 acells W x.p x.n l ∧ ∀ y ∈ l, Aok y
def InL (W : World) (v : Value) (x : Sl) : Prop := v = .slice x.p x.n x.c ∧ x.n ≤ x.c ∧ B63 x.n ∧ ∃ l, Ll W x.p x.n l ∧ ∀ y ∈ l, B63 y.n
set_option maxRecDepth 100000 in
theorem inL_of {H : Type} {enc : TypeId × Value → H} {W : World} {base : Nat} {v : Value} {d : DataW H} {ps : List MemPlace} (hv : Value.okWide Try.prog W .any base 22 v) (h : DataW.Trod enc Try.prog W 0 (fun _ => true) true 22 v d ps) :
    ∃ x, InL W v x := by
  obtain ⟨a, len, cap, rfl⟩ := okWide_slice Try.underlying22 hv
  obtain ⟨fuel, hf⟩ := h
  obtain ⟨p, n, c, e, g1, g2, l, hA, hB⟩ := rowsL_of hf
  simp only [Value.cells, List.cons.injEq, and_true, Value.slice.injEq] at e
  obtain ⟨rfl, rfl, rfl⟩ := e
  exact ⟨⟨a, len, cap⟩, rfl, g1, g2, l, ⟨hA, fun y hy => (hB y hy).1⟩, fun y hy => (hB y hy).2⟩
end Lo
end Go.Proofs.Ytkfmkchonlajpaa

namespace Go.Proofs.Ytkfmkchonlajpaa
open Go.RowKit

namespace Lo
section
variable {M : Ms.Face}
end
end Lo
end Go.Proofs.Ytkfmkchonlajpaa

namespace Go.Proofs.Ytkfmkchonlajpaa
open Go.RowKit Go.Sort

namespace Lo
end Lo
end Go.Proofs.Ytkfmkchonlajpaa

namespace Go.Proofs.Ytkfmkchonlajpaa
open Go.RowKit

namespace Lo
structure DuoAt {M : Ms.Face} (I : Face M) (base bs Bg : Nat) (w W : World) (h g : Nat) (F : Nat → Prop) (v : Value) (l : List Lv) (s s2 : Stk) (m m2 : Nat) : Prop where
  st : I.DB W bs h F s
  rs : RS W Bg g v s2.2 l
  eq : lts l = s2.1
  good : GoodM s m
  good2 : GoodM s2 m2
  fa : ∀ k, F k → ¬ SF g v l k
  below : Below base w W
  size : base ≤ W.heap.size
  low : base ≤ bs
  low2 : base ≤ Bg
/-- Two stocks side by side. -/
def Duo {M : Ms.Face} (I : Face M) (base : Nat) (w W : World) (h g : Nat) (s s2 : Stk) (m m2 : Nat) : Prop := ∃ bs Bg F v l, DuoAt I base bs Bg w W h g F v l s s2 m m2
section
variable {M : Ms.Face} {I : Face M} {base bs Bg : Nat} {w W : World} {h g : Nat} {s s2 : Stk} {m m2 : Nat} {F : Nat → Prop} {v : Value} {l : List Lv}
theorem duo_two (p : Duo I base w W h g s s m m2) : ∃ bs Bg F v l, TwoAt I bs Bg W h g F v l s m := by
  obtain ⟨bs, Bg, F, v, l, q⟩ := p
  exact ⟨bs, Bg, F, v, l, q.st, q.rs, q.eq, q.good⟩
theorem duo_under (p : Duo I base w W h g s s2 m m2) : Below base w W := by
  obtain ⟨bs, Bg, F, v, l, q⟩ := p
  exact q.below
theorem duo_keep (p : Duo I base w W h g s s2 m m2) {w' : World} (hb : Below W.heap.size W w') : Duo I base w w' h g s s2 m m2 := by
  obtain ⟨bs, Bg, F, v, l, q⟩ := p
  exact ⟨bs, Bg, F, v, l, I.keep q.st hb, q.rs.keep hb, q.eq, q.good, q.good2, q.fa, q.below.trans (hb.mono q.size), Nat.le_trans q.size hb.size, q.low, q.low2⟩
theorem duo_mono (p : Duo I base w W h g s s2 m m2) {k k2 : Nat} (h1 : m ≤ k) (h2 : m2 ≤ k2) : Duo I base w W h g s s2 k k2 := by
  obtain ⟨bs, Bg, F, v, l, q⟩ := p
  exact ⟨bs, Bg, F, v, l, q.st, q.rs, q.eq, q.good.mono h1, q.good2.mono h2, q.fa, q.below, q.size, q.low, q.low2⟩
/-- Where the greatest number that was given lies. -/
theorem duo_given (p : Duo I base w W h g s s2 m m2) : W.cell? ⟨g, 1, none⟩ = some (.int .i64 s2.2) ∧ g < W.heap.size := by
  obtain ⟨bs, Bg, F, v, l, q⟩ := p
  exact ⟨q.rs.blk.cell 1, q.rs.blk.lt⟩
/-- Package stock has done something. -/
theorem duo_pkg (q : DuoAt I base bs Bg w W h g F v l s s2 m m2) {w' : World} {s' : Stk} {m' : Nat} (hl : Left I.DB W bs h F s' w') (hg : GoodM s' m') : Duo I base w w' h g s' s2 m' m2 := by
  obtain ⟨F', hd, ht, hf⟩ := hl
  refine ⟨bs, Bg, F', v, l, hd, q.rs.turn ht (fun k hk hh => q.fa k hh (.inl hk)) (fun y hy k hk hh => q.fa k hh (.inr ⟨y, hy, hk⟩)), q.eq, hg, q.good2, fun k hk => ?_, ht.below q.below q.size (fun i hi => Nat.le_trans q.low (I.foot q.st hi).1), Nat.le_trans q.size ht.size, q.low, q.low2⟩
  rcases hf k hk with hk | hk
  · exact q.fa k hk
  · exact fun e => by have := sf_lt q.rs e; omega
/-- The document's stock has done something. -/
theorem duo_ref (q : DuoAt I base bs Bg w W h g F v l s s2 m m2) {K : Nat → Prop} (hK : ∀ k, K k → Bks l k ∨ k < base) {w' : World} {s' : Stk} {m' : Nat} (hl : RAc2 W Bg g v K s' w') (hg : GoodM s' m') : Duo I base w w' h g s s' m m' := by
  obtain ⟨l', he, v', hr, ht, hv, hk'⟩ := hl
  refine ⟨bs, Bg, F, v', l', I.turn q.st ht (fun k hk hh => q.fa k hk (.inl hh)), hr, he, q.good, hg, fun k hk e => ?_, ht.below q.below q.size (fun i hi => Nat.le_trans q.low2 (q.rs.foot hi).1), Nat.le_trans q.size ht.size, q.low, q.low2⟩
  have hft := I.foot q.st hk
  have hlow := q.low
  rcases e with (rfl | e) | e
  · exact q.fa k hk (.inl (.inl rfl))
  · rcases hv k e with e | e
    · exact q.fa k hk (.inl (.inr e))
    · omega
  · rcases hk' k e with e | e
    · rcases hK k e with e | e
      · exact q.fa k hk (.inr e)
      · omega
    · omega
theorem duo_start {w1 : World} (hd : I.DB w1 w.heap.size h F ([], 0)) (hb : Below w.heap.size w w1) :
    Duo I w.heap.size w (w1.alloc (.cells #[.slice none 0 0, .int .i64 0] 28)) h w1.heap.size ([], 0) ([], 0) 60 60 := by
  have ha := alloc_below w1 (.cells #[.slice none 0 0, .int .i64 0] 28)
  refine ⟨w.heap.size, w1.heap.size, F, .slice none 0 0, [], I.keep hd ha, ⟨Nat.le_refl _, Lies.new w1 _ _, World.ownsRow_nil _ _ _ _, fun y hy => by simp at hy, fun y hy => by simp at hy⟩, rfl, goodM_nil.mono (by decide), goodM_nil.mono (by decide), fun k hk e => ?_, hb.trans (ha.mono hb.size), Nat.le_trans hb.size ha.size, Nat.le_refl _, hb.size⟩
  have a1 := (I.foot hd hk).2
  rcases e with (rfl | e) | ⟨y, hy, _⟩
  · omega
  · simp [Value.ownBlock] at e
  · simp at hy
theorem duo_put1 (p : Duo I base w W h g s s2 m m2) (hm : m < 100000) {y : Lv} (hy : St W y) (hk : ∀ k, Bk y k → k < base) (hn : y.n ≤ 60) (h60 : 60 ≤ m) :
    Calls Try.prog 6 #[.pointer (some ⟨h, 0, none⟩), lval y] W fun e w' => e = .returned (.int .i64 ((putS s y.x).1 : Nat)) ∧ Duo I base w w' h g (putS s y.x).2 s2 (m + 1) m2 := by
  obtain ⟨bs, Bg, F, v, l, q⟩ := p
  refine (I.put bs h F s y W q.st q.good.1 hy (by omega) (fun k hb hf => ?_)).mono fun e w' ⟨he, hl⟩ => ⟨he, duo_pkg q hl (good_put q.good hm (by have := hy.len; omega))⟩
  have a1 := (I.foot q.st hf).1
  have a2 := hk k hb
  have a3 := q.low
  omega
theorem duo_put2 (p : Duo I base w W h g s s2 m m2) (hm : m2 < 100000) {y : Lv} (hy : St W y) (hk : ∀ k, Bk y k → k < base) (hn : y.n ≤ 60) (h60 : 60 ≤ m2) :
    Calls Try.prog 7 #[.pointer (some ⟨g, 0, none⟩), lval y] W fun e w' => e = .returned (.int .i64 ((putS s2 y.x).1 : Nat)) ∧ Duo I base w w' h g s (putS s2 y.x).2 m (m2 + 1) := by
  obtain ⟨bs, Bg, F, v, l, q⟩ := p
  obtain ⟨s21, u⟩ := s2
  obtain rfl : lts l = s21 := q.eq
  refine (rput_any Bg g v u l y W q.rs (by have h1 := good_len q.good2.1; simp [lts] at h1; omega) hy (by omega) (fun k hb => ?_)).mono fun e w' ⟨he, hl⟩ => ⟨he, duo_ref q (fun k hk' => ?_) hl (good_put q.good2 hm (by have := hy.len; omega))⟩
  · have a2 := hk k hb
    have a3 := q.low2
    exact ⟨fun e => by have := (q.rs.foot (k := k) (.inl e)).1; omega, fun e => by have := (q.rs.foot (k := k) (.inr e)).1; omega⟩
  · rcases hk' with hk' | hk'
    · exact .inl hk'
    · exact .inr (hk k hk')
theorem duo_give1 (p : Duo I base w W h g s s2 m m2) {id : Int} (hi : I64 id) :
    Calls Try.prog 13 #[.pointer (some ⟨h, 0, none⟩), .int .i64 id] W fun e w' => e = .returned (.int .i64 ((giveS s id).1 : Nat)) ∧ Duo I base w w' h g (giveS s id).2 s2 m m2 := by
  obtain ⟨bs, Bg, F, v, l, q⟩ := p
  exact (I.give bs h F s id W q.st q.good.1 hi).mono fun e w' ⟨he, hl⟩ => ⟨he, duo_pkg q hl (good_give id q.good)⟩
theorem duo_give2 (p : Duo I base w W h g s s2 m m2) (id : Int) :
    Calls Try.prog 14 #[.pointer (some ⟨g, 0, none⟩), .int .i64 id] W fun e w' => e = .returned (.int .i64 ((giveS s2 id).1 : Nat)) ∧ Duo I base w w' h g s (giveS s2 id).2 m m2 := by
  obtain ⟨bs, Bg, F, v, l, q⟩ := p
  obtain ⟨s21, u⟩ := s2
  obtain rfl : lts l = s21 := q.eq
  exact (rgive_any Bg g v u l id W q.rs).mono fun e w' ⟨he, hl⟩ => ⟨he, duo_ref q (fun k hk => .inl hk) hl (good_give id q.good2)⟩
end
end Lo
end Go.Proofs.Ytkfmkchonlajpaa

namespace Go.Proofs.Ytkfmkchonlajpaa
open Go.RowKit

/-- Only where it goes on. -/
def Only (Q : Exit → Act → World → Prop) : Exit → Act → World → Prop
  | .normal, a, w => Q .normal a w
  | _, _, _ => False
theorem Only.imp {Q : Exit → Act → World → Prop} : ∀ (e : Exit) (a : Act) (w : World), Only Q e a w → Q e a w := fun e a w h => by
  cases e <;> first | exact h | exact (h : False).elim
theorem Only.lets {Q : Exit → Act → World → Prop} : ¬ LetsOut (Only Q) := fun ⟨_, _, h⟩ => h
/-- Does no operation defer a call? -/
def noDefer (ops : Array Oper) : Bool := ops.all fun o => match o.op with
  | .defer _ => false
  | _ => true
theorem noDefer_spec {ops : Array Oper} (h : noDefer ops = true) (i : Nat) (o : Oper) (ho : ops[i]? = some o) : ∀ c, o.op ≠ .defer c := by
  intro c e
  obtain ⟨hi, rfl⟩ := Array.getElem?_eq_some_iff.1 ho
  have := Array.all_eq_true.1 h i hi
  rw [e] at this
  cases this
section
variable {P : Program} {ops : Array Oper} {Q : Exit → Act → World → Prop} {md : Region.Mode} {l n : Nat}
theorem op_round {o : Oper} {a : Act} {w : World} {K : Act → World → Prop} (hd : ∀ c, o.op ≠ .defer c) (h : o.wp P a w K (Only Q)) : o.wpIn (Fence.wide.inRound l) n P a w K (Only Q) := by
  unfold Oper.wpIn
  refine ⟨fun _ _ => trivial, ?_⟩
  rw [show (Fence.wide.inRound l).round = some l from rfl, Oper.semAt_some l _ _ hd]
  unfold Oper.wp at h
  generalize (execOp a.eval o).run P w = r at *
  cases r with
  | ok x w' =>
    cases x <;> simp only [Oper.upon] at h <;> simp only [Oper.uponIn]
    case value v => exact h
    case skip => exact h
    case defer d => exact h
    case enter f args => exact ⟨fun hh => Bool.noConfusion hh, (CallsIn.inRound l (callsIn_wide.2 h)).mono fun e w'' he => by cases e <;> exact he⟩
    case row row args => exact ⟨fun hh => Bool.noConfusion hh, fun c cs _ => let ⟨v, w', r, s⟩ := h c cs; ⟨v, w', r, stepsIn_wide.2 s⟩⟩
  | halt x w' => cases x <;> simp only [Oper.upon] at h <;> simp only [Oper.uponIn] <;> exact h
theorem any_round (hd : noDefer ops = true) : ∀ (fuel : Nat) (listed : Array Bool) (a : Act) (w : World), wpAny P md ops (Only Q) fuel listed a w → wpAnyIn (Fence.wide.inRound l) n P md ops (Only Q) fuel listed a w
  | 0, _, _, _, h => h
  | fuel + 1, listed, a, w, h => ⟨h.1, fun i hi => by
    have h := h.2 i hi
    unfold wpOp at h
    unfold wpOpIn
    cases ho : ops[i]? with
    | none =>
      simp only [ho] at h ⊢
      exact any_round hd fuel _ _ _ h
    | some o =>
      simp only [ho] at h ⊢
      by_cases hw : Region.wanted o (yielded ops a.tmps) = true
      · simp only [hw, if_true] at h ⊢
        rcases h with h | h
        · exact Oper.wpIn_mono (fun a w h => any_round hd fuel _ a w h) (op_round (noDefer_spec hd i o ho) h)
        · exact absurd h.2 Only.lets
      · simp only [hw, if_false, Bool.false_eq_true] at h ⊢
        exact ⟨fun _ _ => trivial, any_round hd fuel _ _ _ h⟩⟩
/-- A region that draws its order, in a round. -/
theorem round_any {id : Nat} {a : Act} {w : World} (hm : P.follows .mixedOrders = true) (hd : noDefer ops = true) (h : wpAny P .any ops (Only Q) ops.size (Array.replicate ops.size false) a w.drew) :
    (Code.region id ops true).wpIn (Fence.wide.inRound l) n P Q a w :=
  wpIn_mono (wpIn_region_any hm (any_round hd _ _ _ _ h)) Only.imp
/-- The same, where a condition is kept. -/
theorem round_held {id : Nat} {a : Act} {w : World} (S : World → Prop) (hm : P.follows .mixedOrders = true) (hd : noDefer ops = true) (hS : S w.drew)
    (h : S w.drew → wpAnyH P .any ops (Only Q) S ops.size (Array.replicate ops.size false) a w.drew) : (Code.region id ops true).wpIn (Fence.wide.inRound l) n P Q a w :=
  round_any hm hd (wpAny_of_held _ _ _ _ (h hS))
/-- All have come up. -/
theorem held_done {S : World → Prop} {listed : Array Bool} {a : Act} {w : World} {fuel : Nat} (hr : Region.ready md ops listed = []) (h : Q .normal a w) : wpAnyH P md ops (Only Q) S fuel listed a w := wpAnyH_done (Q := Only Q) hr h fuel
/-- One operation comes up, and no other one. -/
theorem held_one {S : World → Prop} {listed : Array Bool} {a : Act} {w : World} {fuel i : Nat} {o : Oper} (hr : Region.ready md ops listed = [i]) (ho : ops[i]? = some o)
    (h : ∀ K' : Act → World → Prop, Shut (∀ a w, S w → (S w → wpAnyH P md ops Q S fuel (listed.setIfInBounds i true) a w) → K' a w) → if Region.wanted o (yielded ops a.tmps) = true then Oper.wp P o a w K' Q else K' (a.put o.dst undef) w) :
    wpAnyH P md ops Q S (fuel + 1) listed a w := wpAnyH_ready hr (by simp) (AllReadyH.cons ho h AllReadyH.nil)
/-- One of two comes up. -/
theorem held_two {S : World → Prop} {listed : Array Bool} {a : Act} {w : World} {fuel i j : Nat} {o o' : Oper} (hr : Region.ready md ops listed = [i, j]) (ho : ops[i]? = some o) (ho' : ops[j]? = some o')
    (h : ∀ K' : Act → World → Prop, Shut (∀ a w, S w → (S w → wpAnyH P md ops Q S fuel (listed.setIfInBounds i true) a w) → K' a w) → if Region.wanted o (yielded ops a.tmps) = true then Oper.wp P o a w K' Q else K' (a.put o.dst undef) w)
    (h' : ∀ K' : Act → World → Prop, Shut (∀ a w, S w → (S w → wpAnyH P md ops Q S fuel (listed.setIfInBounds j true) a w) → K' a w) → if Region.wanted o' (yielded ops a.tmps) = true then Oper.wp P o' a w K' Q else K' (a.put o'.dst undef) w) :
    wpAnyH P md ops Q S (fuel + 1) listed a w := wpAnyH_ready hr (by simp) (AllReadyH.cons ho h (AllReadyH.cons ho' h' AllReadyH.nil))
/-- A call of a Go function comes up. -/
theorem held_call {o : Oper} {a : Act} {w : World} {K : Act → World → Prop} {E : Prop} {f : FuncId} {args : Array Value} {R : Ending → World → Prop} (hg : o.guard = none) (hx : (execOp a.eval o).run P w = .ok (.enter f args) w)
    (hc : Calls P f args w R) (h : ∀ e w', R e w' → ∃ v, e = .returned v ∧ K (a.put o.dst v) w') : if Region.wanted o (yielded ops a.tmps) = true then Oper.wp P o a w K Q else E := by
  have hw : Region.wanted o (yielded ops a.tmps) = true := by simp [Region.wanted, hg]
  rw [if_pos hw]
  unfold Oper.wp
  rw [hx]
  refine hc.mono fun e w' he => ?_
  obtain ⟨v, rfl, hk⟩ := h e w' he
  exact hk
/-- An operation that yields a value comes up. -/
theorem held_value {o : Oper} {a : Act} {w w' : World} {v : Value} {K : Act → World → Prop} {E : Prop} (hg : o.guard = none) (hx : (execOp a.eval o).run P w = .ok (.value v) w') (h : K (a.put o.dst v) w') : if Region.wanted o (yielded ops a.tmps) = true then Oper.wp P o a w K Q else E := by
  have hw : Region.wanted o (yielded ops a.tmps) = true := by simp [Region.wanted, hg]
  rw [if_pos hw]
  unfold Oper.wp
  rw [hx]
  exact h
end
section
variable {P : Program} {ops : Array Oper} {Q : Exit → Act → World → Prop} {md : Region.Mode} {S : World → Prop} {N : Nat}
/-- Whatever order is picked from here on; a condition is kept by the operations ahead of number N alone. -/
def anyT (P : Program) (md : Region.Mode) (ops : Array Oper) (Q : Exit → Act → World → Prop) (S : World → Prop) (N : Nat) : Nat → Array Bool → Act → World → Prop
  | 0, listed, a, w => Region.ready md ops listed = [] ∧ Q .normal a w
  | f + 1, listed, a, w => (Region.ready md ops listed = [] → Q .normal a w) ∧
    ∀ i ∈ Region.ready md ops listed, wpOp P ops Q i (fun a' w' => (i < N → S w') ∧ anyT P md ops Q S N f (listed.setIfInBounds i true) a' w') a w
theorem any_of_T : ∀ (f : Nat) (listed : Array Bool) (a : Act) (w : World), anyT P md ops Q S N f listed a w → wpAny P md ops Q f listed a w
  | 0, _, _, _, h => h
  | f + 1, _, _, _, h => ⟨h.1, fun i hi => wpOp_mono (fun a' w' h' => any_of_T f _ a' w' h'.2) (h.2 i hi)⟩
/-- Does number j wait for number i, in so many steps? -/
def reachB (md : Region.Mode) (ops : Array Oper) : Nat → Nat → Nat → Bool
  | 0, _, _ => false
  | f + 1, j, i => match ops[j]? with
    | some oj => oj.after.any fun e => Region.binds md e && (e.on == i || reachB md ops f e.on i)
    | none => false
/-- Do all operations from number N on wait for number i? -/
def allWait (md : Region.Mode) (ops : Array Oper) (N i : Nat) : Bool := decide (i < N) && (List.range ops.size).all fun j => decide (j < N) || reachB md ops ops.size j i
/-- Of whatever has come up, has come up what it waits for? -/
def Shutt (md : Region.Mode) (ops : Array Oper) (listed : Array Bool) : Prop := ∀ j oj, ops[j]? = some oj → listed.getD j false = true → ∀ e ∈ oj.after, Region.binds md e = true → listed.getD e.on false = true
def shutB (md : Region.Mode) (ops : Array Oper) (listed : Array Bool) : Bool := (List.range ops.size).all fun j => !listed.getD j false || match ops[j]? with
  | some oj => oj.after.all fun e => !Region.binds md e || listed.getD e.on false
  | none => true
theorem shut_of {listed : Array Bool} (h : shutB md ops listed = true) : Shutt md ops listed := fun j oj hj hl e he hb => by
  have h1 := List.all_eq_true.1 h j (List.mem_range.2 (Array.getElem?_eq_some_iff.1 hj).1)
  rw [hl, hj, Bool.not_true, Bool.false_or] at h1
  have h2 := Array.all_eq_true'.1 h1 e he
  simpa [hb] using h2
theorem Shutt.set {listed : Array Bool} {i : Nat} (h : Shutt md ops listed) (hi : i ∈ Region.ready md ops listed) : Shutt md ops (listed.setIfInBounds i true) := fun j oj hj hl e he hb => by
  obtain ⟨_, oi, hoi, hall⟩ := mem_ready.1 hi
  by_cases e1 : i = j
  · subst e1
    rw [hoi] at hj
    cases hj
    exact getD_set_true (hall e he hb)
  · rw [getD_set_ne false e1] at hl
    exact getD_set_true (h j oj hj hl e he hb)
theorem reach_listed {listed : Array Bool} (h : Shutt md ops listed) {i : Nat} : ∀ (f j : Nat), reachB md ops f j i = true → listed.getD j false = true → listed.getD i false = true
  | 0, _, hr, _ => by cases hr
  | f + 1, j, hr, hl => by
    unfold reachB at hr
    cases hj : ops[j]? with
    | none =>
      rw [hj] at hr
      cases hr
    | some oj =>
      rw [hj] at hr
      obtain ⟨e, he, h1⟩ := Array.any_eq_true'.1 hr
      simp only [Bool.and_eq_true, Bool.or_eq_true, beq_iff_eq] at h1
      have h2 := h j oj hj hl e he h1.1
      rcases h1.2 with rfl | h3
      · exact h2
      · exact reach_listed h f _ h3 h2
theorem ahead_of {i j : Nat} {listed : Array Bool} (hc : Shutt md ops listed) (h : allWait md ops N i = true) (hj : j ∈ Region.ready md ops listed) (hi : listed.getD i true = false) : j < N := by
  simp only [allWait, Bool.and_eq_true] at h
  obtain ⟨hju, oj, hoj, hall⟩ := mem_ready.1 hj
  have hlt : j < ops.size := (Array.getElem?_eq_some_iff.1 hoj).1
  have h2 := List.all_eq_true.1 h.2 j (List.mem_range.2 hlt)
  rw [Bool.or_eq_true] at h2
  rcases h2 with h2 | h2
  · simpa using h2
  · have h3 := reach_listed (i := i) (hc.set hj) _ j h2 (by
      have : j < listed.size := by
        rcases Nat.lt_or_ge j listed.size with h' | h'
        · exact h'
        · simp [Array.getElem?_eq_none h'] at hju
      simp [this])
    by_cases e : j = i
    · subst e
      simpa using h.1
    · rw [getD_set_ne false e, getD_both hi] at h3
      cases h3
/-- An operation that may come up, and reads alone, is taken first. -/
theorem takeT_from {i : Nat} {oi : Oper} {v : Value} (hi : ops[i]? = some oi) (hs : Region.noSelect ops = true) (hw : allWait md ops N i = true) (hQ : ∀ c a w, Q (.panic c) (a.put oi.dst v) w → Q (.panic c) a w) :
    ∀ (f : Nat) (listed : Array Bool) (a : Act) (w : World), Shutt md ops listed → (∀ j oj, ops[j]? = some oj → j ≠ i → listed.getD j true = false → (∀ e ∈ oj.after, Region.binds md e = true → e.on ≠ i) → oi.apart ops oj = true) →
      i ∈ Region.ready md ops listed → YieldsIf P ops S oi v a → S w → anyT P md ops Q S N f (listed.setIfInBounds i true) (a.put oi.dst v) w → anyT P md ops Q S N (f + 1) listed a w := by
  intro f
  induction f with
  | zero =>
    intro listed a w _ _ hr hy hS H
    refine ⟨fun h => (by rw [h] at hr; cases hr), fun j hj => ?_⟩
    by_cases e : j = i
    · cases e
      exact hy.wpOp hi hS ⟨fun _ => hS, H⟩
    · have h1 := ready_mono hj e
      rw [H.1] at h1
      cases h1
  | succ f ih =>
    intro listed a w hc hfree hr hy hS H
    refine ⟨fun h => (by rw [h] at hr; cases hr), fun j hj => ?_⟩
    by_cases e : j = i
    · cases e
      exact hy.wpOp hi hS ⟨fun _ => hS, H⟩
    · obtain ⟨hju, oj, hoj, hall⟩ := mem_ready.1 hj
      have hiu := (mem_ready.1 hr).1
      have hjN := ahead_of hc hw hj hiu
      have hon : ∀ d ∈ oj.after, Region.binds md d = true → d.on ≠ i := fun d hd hb he => by
        have h1 := hall d hd hb
        rw [he, getD_both hiu] at h1
        cases h1
      have h1 := wpOp_putIf hoj (hfree j oj hoj e hju hon) (fun cs b => Region.noSelect_spec hs i oi cs b hi) (fun cs b => Region.noSelect_spec hs j oj cs b hoj) hQ hy (H.2 j (ready_mono hj e))
      refine wpOp_mono (fun a' w' h2 => ⟨h2.2.1, ih _ a' w' (hc.set hj) (fun k ok hk hki hku hko => hfree k ok hk hki ?_ hko) (ready_mono hr (Ne.symm e)) h2.1 (h2.2.1 hjN) ?_⟩) h1
      · by_cases ejk : j = k
        · cases ejk
          exact hju
        · rwa [getD_set_ne true ejk] at hku
      · rw [Array.setIfInBounds_comm _ _ e]
        exact h2.2.2
theorem takeT {i : Nat} {oi : Oper} {v : Value} {f : Nat} {listed : Array Bool} {a : Act} {w : World} (hi : ops[i]? = some oi)
    (hs : Region.noSelect ops = true) (hw : allWait md ops N i = true) (hc : shutB md ops listed = true) (hf : Region.free md ops listed i = true) (hr : (Region.ready md ops listed).contains i = true)
    (hQ : ∀ c a w, Q (.panic c) (a.put oi.dst v) w → Q (.panic c) a w) (hy : YieldsIf P ops S oi v a) (hS : S w)
    (h : anyT P md ops Q S N f (listed.setIfInBounds i true) (a.put oi.dst v) w) : anyT P md ops Q S N (f + 1) listed a w :=
  takeT_from hi hs hw hQ f listed a w (shut_of hc) (Region.free_spec hi hf) (by simpa using hr) hy hS h
/-- One operation comes up, and no other one. -/
theorem oneT {listed : Array Bool} {a : Act} {w : World} {f i : Nat} {o : Oper} (hr : Region.ready md ops listed = [i]) (ho : ops[i]? = some o)
    (h : ∀ K' : Act → World → Prop, Shut (∀ a w, (i < N → S w) → anyT P md ops Q S N f (listed.setIfInBounds i true) a w → K' a w) → if Region.wanted o (yielded ops a.tmps) = true then Oper.wp P o a w K' Q else K' (a.put o.dst undef) w) :
    anyT P md ops Q S N (f + 1) listed a w :=
  ⟨fun h0 => (by rw [hr] at h0; cases h0), fun j hj => by
    rw [hr] at hj
    obtain rfl : j = i := by simpa using hj
    exact wpOp_step ho (fun K' hK => h K' (fun a w h1 h2 => hK a w ⟨h1, h2⟩))⟩
/-- One of two comes up. -/
theorem twoT {listed : Array Bool} {a : Act} {w : World} {f i j : Nat} {o o' : Oper} (hr : Region.ready md ops listed = [i, j]) (ho : ops[i]? = some o) (ho' : ops[j]? = some o')
    (h : ∀ K' : Act → World → Prop, Shut (∀ a w, (i < N → S w) → anyT P md ops Q S N f (listed.setIfInBounds i true) a w → K' a w) → if Region.wanted o (yielded ops a.tmps) = true then Oper.wp P o a w K' Q else K' (a.put o.dst undef) w)
    (h' : ∀ K' : Act → World → Prop, Shut (∀ a w, (j < N → S w) → anyT P md ops Q S N f (listed.setIfInBounds j true) a w → K' a w) → if Region.wanted o' (yielded ops a.tmps) = true then Oper.wp P o' a w K' Q else K' (a.put o'.dst undef) w) :
    anyT P md ops Q S N (f + 1) listed a w :=
  ⟨fun h0 => (by rw [hr] at h0; cases h0), fun k hk => by
    rw [hr] at hk
    rcases (show k = i ∨ k = j by simpa using hk) with rfl | rfl
    · exact wpOp_step ho (fun K' hK => h K' (fun a w h1 h2 => hK a w ⟨h1, h2⟩))
    · exact wpOp_step ho' (fun K' hK => h' K' (fun a w h1 h2 => hK a w ⟨h1, h2⟩))⟩
theorem doneT {listed : Array Bool} {a : Act} {w : World} (hr : Region.ready md ops listed = []) (h : Q .normal a w) : ∀ f, anyT P md ops Q S N f listed a w
  | 0 => ⟨hr, h⟩
  | _ + 1 => ⟨fun _ => h, by rw [hr]; simp⟩
theorem doneO {listed : Array Bool} {a : Act} {w : World} (hr : Region.ready md ops listed = []) (h : Q .normal a w) (f : Nat) : anyT P md ops (Only Q) S N f listed a w := doneT (Q := Only Q) hr h f
/-- Behind all operations that keep the condition it is asked no more. -/
theorem laterT (M : Nat) : ∀ (f : Nat) (listed : Array Bool) (a : Act) (w : World), ((List.range N).all fun i => listed.getD i true) = true → anyT P md ops Q (fun _ => True) M f listed a w → anyT P md ops Q S N f listed a w
  | 0, _, _, _, _, h => h
  | f + 1, listed, a, w, hl, h => ⟨h.1, fun i hi => wpOp_mono (fun a' w' h' => ⟨fun hiN => (by
      have h1 := (mem_ready.1 hi).1
      have h2 := List.all_eq_true.1 hl i (List.mem_range.2 hiN)
      rw [h1] at h2
      cases h2), laterT M f _ a' w' (List.all_eq_true.2 fun k hk => by
        have h2 := List.all_eq_true.1 hl k hk
        by_cases e : i = k
        · cases e
          have h1 := (mem_ready.1 hi).1
          rw [h1] at h2
          cases h2
        · rwa [getD_set_ne true e]) h'.2⟩) (h.2 i hi)⟩
/-- Behind all operations that keep the condition another one is asked. -/
theorem laterS (S2 : World → Prop) (M : Nat) : ∀ (f : Nat) (listed : Array Bool) (a : Act) (w : World), ((List.range N).all fun i => listed.getD i true) = true → anyT P md ops Q S2 M f listed a w → anyT P md ops Q S N f listed a w
  | 0, _, _, _, _, h => h
  | f + 1, listed, a, w, hl, h => ⟨h.1, fun i hi => wpOp_mono (fun a' w' h' => ⟨fun hiN => (by
      have h1 := (mem_ready.1 hi).1
      have h2 := List.all_eq_true.1 hl i (List.mem_range.2 hiN)
      rw [h1] at h2
      cases h2), laterS S2 M f _ a' w' (List.all_eq_true.2 fun k hk => by
        have h2 := List.all_eq_true.1 hl k hk
        by_cases e : i = k
        · cases e
          have h1 := (mem_ready.1 hi).1
          rw [h1] at h2
          cases h2
        · rwa [getD_set_ne true e]) h'.2⟩) (h.2 i hi)⟩
/-- The same moves, the operations written out. -/
theorem takeL {l : List Oper} {i : Nat} {oi : Oper} {v : Value} {f : Nat} {listed : Array Bool} {a : Act} {w : World} (hi : l[i]? = some oi)
    (hs : Region.noSelect l.toArray = true) (hw : allWait md l.toArray N i = true) (hc : shutB md l.toArray listed = true) (hf : Region.free md l.toArray listed i = true) (hr : (Region.ready md l.toArray listed).contains i = true)
    (hQ : ∀ c a w, Q (.panic c) (a.put oi.dst v) w → Q (.panic c) a w) (hy : YieldsIf P l.toArray S oi v a) (hS : S w)
    (h : anyT P md l.toArray Q S N f (listed.setIfInBounds i true) (a.put oi.dst v) w) : anyT P md l.toArray Q S N (f + 1) listed a w :=
  takeT (by simpa using hi) hs hw hc hf hr hQ hy hS h
theorem oneL {l : List Oper} {listed : Array Bool} {a : Act} {w : World} {f i : Nat} {o : Oper} (hr : Region.ready md l.toArray listed = [i]) (ho : l[i]? = some o)
    (h : ∀ K' : Act → World → Prop, Shut (∀ a w, (i < N → S w) → anyT P md l.toArray Q S N f (listed.setIfInBounds i true) a w → K' a w) → if Region.wanted o (yielded l.toArray a.tmps) = true then Oper.wp P o a w K' Q else K' (a.put o.dst undef) w) :
    anyT P md l.toArray Q S N (f + 1) listed a w := oneT hr (by simpa using ho) h
theorem twoL {l : List Oper} {listed : Array Bool} {a : Act} {w : World} {f i j : Nat} {o o' : Oper} (hr : Region.ready md l.toArray listed = [i, j]) (ho : l[i]? = some o) (ho' : l[j]? = some o')
    (h : ∀ K' : Act → World → Prop, Shut (∀ a w, (i < N → S w) → anyT P md l.toArray Q S N f (listed.setIfInBounds i true) a w → K' a w) → if Region.wanted o (yielded l.toArray a.tmps) = true then Oper.wp P o a w K' Q else K' (a.put o.dst undef) w)
    (h' : ∀ K' : Act → World → Prop, Shut (∀ a w, (j < N → S w) → anyT P md l.toArray Q S N f (listed.setIfInBounds j true) a w → K' a w) → if Region.wanted o' (yielded l.toArray a.tmps) = true then Oper.wp P o' a w K' Q else K' (a.put o'.dst undef) w) :
    anyT P md l.toArray Q S N (f + 1) listed a w := twoT hr (by simpa using ho) (by simpa using ho') h h'
/-- A region that draws its order. -/
theorem region_T {id : Nat} {a : Act} {w : World} (N : Nat) (S : World → Prop) (hm : P.follows .mixedOrders = true) (hS : S w.drew)
    (h : S w.drew → anyT P .any ops (Only Q) S N ops.size (Array.replicate ops.size false) a w.drew) : (Code.region id ops true).wp P Q a w :=
  Code.wp_mono Only.imp (wp_region_any hm (any_of_T _ _ _ _ (h hS)))
/-- The same, in a round. -/
theorem round_T {id l n : Nat} {a : Act} {w : World} (N : Nat) (S : World → Prop) (hm : P.follows .mixedOrders = true) (hd : noDefer ops = true) (hS : S w.drew)
    (h : S w.drew → anyT P .any ops (Only Q) S N ops.size (Array.replicate ops.size false) a w.drew) : (Code.region id ops true).wpIn (Fence.wide.inRound l) n P Q a w :=
  round_any hm hd (any_of_T _ _ _ _ (h hS))
end
/-- A step that turns one block, or none. -/
theorem turn_row {A B : World} {row : Option Nat} (h : A.grownBy B row) : Turn (fun k => row = some k) A B := (Turn.refl _ A).grown h fun _ e => .inl e
theorem grown_of_below {A B : World} (h : Below A.heap.size A B) : A.grownBy B none := ⟨h.os, h.tape, h.output, h.size, fun k hk _ => h.block k hk⟩
/-- What lies in a block is kept where that is another one. -/
theorem Lies.own {A B : World} {g : Nat} {t : TypeId} {cs : Array Value} {row : Option Nat} (h : Lies A g t cs) (hg : A.grownBy B row) (hr : ∀ r, row = some r → ∃ o : Obj, A.heap[r]? = some o ∧ o.isCells = false) : Lies B g t cs :=
  h.grown hg fun e => by
    obtain ⟨o, ho, hc⟩ := hr g e.symm
    rw [show A.heap[g]? = _ from h] at ho
    cases ho
    cases hc
theorem own_own {A B : World} {base : Nat} {e : TypeId} {size n : Nat} {v : Value} {xs : List Value} {row : Option Nat} (h : A.ownsRow base e size v n xs) (hg : A.grownBy B row) (hr : ∀ r, row = some r → ∃ o : Obj, A.heap[r]? = some o ∧ o.isCells = false) : B.ownsRow base e size v n xs := by
  refine ⟨h.1, ?_⟩
  rcases h.2 with h0 | ⟨g, cap, cur, rfl, hb, hh, r⟩
  · exact .inl h0
  · exact .inr ⟨g, cap, cur, rfl, hb, Lies.own hh hg hr, r⟩
/-- A turn of cells alone keeps whatever is no cells. -/
theorem keeps_of_turn {A B : World} {T : Nat → Prop} (h : Turn T A B) (hT : ∀ k, T k → k < A.heap.size → ∃ t cs, Lies A k t cs) : KeepsOthers A B :=
  ⟨h.size, fun k o hk ho => by
    by_cases hs : T k
    · obtain ⟨t, cs, hl⟩ := hT k hs (Array.getElem?_eq_some_iff.1 hk).1
      rw [show A.heap[k]? = _ from hl] at hk
      cases hk
      cases ho
    · exact (h.block k (Array.getElem?_eq_some_iff.1 hk).1 hs).trans hk⟩
end Go.Proofs.Ytkfmkchonlajpaa
