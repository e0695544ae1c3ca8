/- Walks over the document's answer of layer 12: two lots, two lists of lots; a lot's place, a zone's load. No condition but those written. -/
import Derived.Test.YtgmjmkkhoibbcaaDoorLo1
import Derived.Deep.RegionHeld3
namespace Go.Proofs.YtgmjmkkhoibbcaaDoor
open Go.RowKit

namespace Lo
theorem lt_ext {a b : Lt} : decide (a = b) = (alikeB a b && (decide (a.id = b.id) && decide (a.units = b.units))) := by
  obtain ⟨a1, a2, a3, a4, a5, a6, a7, a8⟩ := a
  obtain ⟨b1, b2, b3, b4, b5, b6, b7, b8⟩ := b
  rw [Bool.eq_iff_iff]
  simp only [alikeB, Bool.and_eq_true, decide_eq_true_eq, Lt.mk.injEq]
  constructor
  · rintro ⟨h1, h2, h3, h4, h5, h6, h7, h8⟩
    exact ⟨⟨h8, h2, h4, h5, h6, h7⟩, h1, h3⟩
  · rintro ⟨⟨h8, h2, h4, h5, h6, h7⟩, h1, h3⟩
    exact ⟨h1, h2, h3, h4, h5, h6, h7, h8⟩
set_option maxRecDepth 100000 in
set_option maxHeartbeats 8000000 in
theorem rone_any (y z : Lv) (w : World) (h : St w y) (h2 : St w z) (hn : y.n ≤ 1000000) :
    Calls Tryd.prog 16 #[lval y, lval z] w fun e w' => e = .returned (.bool (decide (y.x = z.x))) ∧ Below w.heap.size w w' := by
  have AL := Lib.hid (fun W (hW : Below w.heap.size w W) => ralike_any y z W (h.keep hW) (h2.keep hW) hn)
  rw [lt_ext]
  clear h h2
  generalize alikeB y.x z.x = t0 at *
  obtain ⟨⟨i1, i2, i3, i4, i5, i6, i7, S⟩, p, n, c⟩ := y
  obtain ⟨⟨j1, j2, j3, j4, j5, j6, j7, S2⟩, q, m, d⟩ := z
  unfold lval at *
  simp only at AL ⊢
  have k1 : Hid (decide (i1 = j1) = (i1 == j1)) := Lib.hid (by rw [Bool.eq_iff_iff]; simp)
  have k3 : Hid (decide (i3 = j3) = (i3 == j3)) := Lib.hid (by rw [Bool.eq_iff_iff]; simp)
  rw [k1.out, k3.out]
  obtain ⟨t1, ht1⟩ : ∃ t, (i1 == j1) = t := ⟨_, rfl⟩
  obtain ⟨t3, ht3⟩ : ∃ t, (i3 == j3) = t := ⟨_, rfl⟩
  rw [ht1, ht3]
  clear k1 k3
  have B1 := Lib.hid (alloc_below w (.cells #[.int .i64 i1, .int .i64 i2, .int .i64 i3, .int .i64 i4, .int .i64 i5, .int .i64 i6, .int .i64 i7, .slice p n c] 27))
  have X1 := Lib.hid (Lies.new w 27 #[.int .i64 i1, .int .i64 i2, .int .i64 i3, .int .i64 i4, .int .i64 i5, .int .i64 i6, .int .i64 i7, .slice p n c])
  obtain ⟨w1, hw1⟩ : ∃ w1, w.alloc (.cells #[.int .i64 i1, .int .i64 i2, .int .i64 i3, .int .i64 i4, .int .i64 i5, .int .i64 i6, .int .i64 i7, .slice p n c] 27) = w1 := ⟨_, rfl⟩
  rw [hw1] at B1 X1
  have B2 := Lib.hid (B1.out.alloc B1.out.size (.cells #[.int .i64 j1, .int .i64 j2, .int .i64 j3, .int .i64 j4, .int .i64 j5, .int .i64 j6, .int .i64 j7, .slice q m d] 27))
  have X2 := Lib.hid (X1.out.alloc (.cells #[.int .i64 j1, .int .i64 j2, .int .i64 j3, .int .i64 j4, .int .i64 j5, .int .i64 j6, .int .i64 j7, .slice q m d] 27))
  have Y2 := Lib.hid (Lies.new w1 27 #[.int .i64 j1, .int .i64 j2, .int .i64 j3, .int .i64 j4, .int .i64 j5, .int .i64 j6, .int .i64 j7, .slice q m d])
  obtain ⟨w2, hw2⟩ : ∃ w2, w1.alloc (.cells #[.int .i64 j1, .int .i64 j2, .int .i64 j3, .int .i64 j4, .int .i64 j5, .int .i64 j6, .int .i64 j7, .slice q m d] 27) = w2 := ⟨_, rfl⟩
  rw [hw2] at B2 X2 Y2
  have x0 : w2.cell? ⟨w.heap.size, 0, none⟩ = some (.int .i64 i1) := X2.out.cell 0
  have x1 : w2.cell? ⟨w.heap.size, 1, none⟩ = some (.int .i64 i2) := X2.out.cell 1
  have x2 : w2.cell? ⟨w.heap.size, 2, none⟩ = some (.int .i64 i3) := X2.out.cell 2
  have x3 : w2.cell? ⟨w.heap.size, 3, none⟩ = some (.int .i64 i4) := X2.out.cell 3
  have x4 : w2.cell? ⟨w.heap.size, 4, none⟩ = some (.int .i64 i5) := X2.out.cell 4
  have x5 : w2.cell? ⟨w.heap.size, 5, none⟩ = some (.int .i64 i6) := X2.out.cell 5
  have x6 : w2.cell? ⟨w.heap.size, 6, none⟩ = some (.int .i64 i7) := X2.out.cell 6
  have x7 : w2.cell? ⟨w.heap.size, 7, none⟩ = some (.slice p n c) := X2.out.cell 7
  have y0 : w2.cell? ⟨w1.heap.size, 0, none⟩ = some (.int .i64 j1) := Y2.out.cell 0
  have y1 : w2.cell? ⟨w1.heap.size, 1, none⟩ = some (.int .i64 j2) := Y2.out.cell 1
  have y2 : w2.cell? ⟨w1.heap.size, 2, none⟩ = some (.int .i64 j3) := Y2.out.cell 2
  have y3 : w2.cell? ⟨w1.heap.size, 3, none⟩ = some (.int .i64 j4) := Y2.out.cell 3
  have y4 : w2.cell? ⟨w1.heap.size, 4, none⟩ = some (.int .i64 j5) := Y2.out.cell 4
  have y5 : w2.cell? ⟨w1.heap.size, 5, none⟩ = some (.int .i64 j6) := Y2.out.cell 5
  have y6 : w2.cell? ⟨w1.heap.size, 6, none⟩ = some (.int .i64 j7) := Y2.out.cell 6
  have y7 : w2.cell? ⟨w1.heap.size, 7, none⟩ = some (.slice q m d) := Y2.out.cell 7
  go_enter Tryd.func16, Tryd.ntmps16
  go_wp2_with fail
  clear x0 x1 x2 x3 x4 x5 x6 x7 y0 y1 y2 y3 y4 y5 y6 y7 hw1 hw2
  refine (AL.out _ B2.out).mono ?_
  rintro e w3 ⟨rfl, hb⟩
  have B3 := Lib.hid (B2.out.trans (hb.mono B2.out.size))
  have X3 := Lib.hid (X2.out.below hb X2.out.lt)
  have Y3 := Lib.hid (Y2.out.below hb Y2.out.lt)
  generalize w1.heap.size = bl at *
  clear AL B1 X1 B2 X2 Y2 hb
  have x0 : w3.cell? ⟨w.heap.size, 0, none⟩ = some (.int .i64 i1) := X3.out.cell 0
  have x2 : w3.cell? ⟨w.heap.size, 2, none⟩ = some (.int .i64 i3) := X3.out.cell 2
  have y0 : w3.cell? ⟨bl, 0, none⟩ = some (.int .i64 j1) := Y3.out.cell 0
  have y2 : w3.cell? ⟨bl, 2, none⟩ = some (.int .i64 j3) := Y3.out.cell 2
  clear X3 Y3
  cases t0
  · go_wp2
    go_ret
    exact ⟨rfl, B3.out⟩
  cases t1
  · go_wp2
    go_ret
    exact ⟨rfl, B3.out⟩
  cases t3
  all_goals
    go_wp2
    go_ret
    exact ⟨rfl, B3.out⟩
/-- A slice of lots that reads as a list. -/
def Ll (W : World) (p : Option Addr) (n : Nat) (l : List Lv) : Prop := Rw 8 lcells W p n l ∧ ∀ y ∈ l, St W y
theorem Ll.keep {w w' : World} {p : Option Addr} {n : Nat} {l : List Lv} (h : Ll w p n l) (hb : Below w.heap.size w w') : Ll w' p n l := ⟨h.1.keep lcells_len hb, fun y hy => (h.2 y hy).keep hb⟩
theorem ltakes {l l2 : List Lv} {k : Nat} {x y : Lv} (h : lts (l.take k) = lts (l2.take k)) (hx : l[k]? = some x) (hy : l2[k]? = some y) (e : x.x = y.x) : lts (l.take (k + 1)) = lts (l2.take (k + 1)) := by
  unfold lts at *
  rw [List.take_add_one, List.take_add_one, hx, hy, List.map_append, List.map_append, h]
  simp [e]
theorem lnots {l l2 : List Lv} {k : Nat} {x y : Lv} (hx : l[k]? = some x) (hy : l2[k]? = some y) (h : x.x ≠ y.x) : decide (lts l = lts l2) = false := by
  rw [decide_eq_false_iff_not]
  intro e
  apply h
  have h1 : (lts l)[k]? = some x.x := by unfold lts; rw [List.getElem?_map, hx]; rfl
  have h2 : (lts l2)[k]? = some y.x := by unfold lts; rw [List.getElem?_map, hy]; rfl
  rw [e, h2] at h1
  exact (Option.some.inj h1).symm
end Lo
end Go.Proofs.YtgmjmkkhoibbcaaDoor
