/- Walks over the document's answer of layer 12: the zone where a lot is; two lots side by side. No condition but those written. -/
import Derived.Test.YtgmjmkkhoibbcaaDoorLoMem
import Derived.Test.YtgmjmkkhoibbcaaDoorYr4
namespace Go.Proofs.YtgmjmkkhoibbcaaDoor
open Go.RowKit

namespace Lo
set_option maxRecDepth 100000 in
set_option maxHeartbeats 8000000 in
theorem ralike_any (y z : Lv) (w : World) (h : St w y) (h2 : St w z) (hn : y.n ≤ 1000000) :
    Calls Tryd.prog 30 #[lval y, lval z] w fun e w' => e = .returned (.bool (alikeB y.x z.x)) ∧ Below w.heap.size w w' := by
  have RSm := Lib.hid (fun W (hW : Below w.heap.size w W) => Sy.r9same_any y.p z.p y.n z.n y.c z.c y.x.stays z.x.stays W (by omega) (h.keep hW).1 (h2.keep hW).1)
  have HA : Hid (alikeB y.x z.x = (decide (y.x.stays = z.x.stays) && (decide (y.x.product = z.x.product) && (decide (y.x.expiry = z.x.expiry) && (decide (y.x.grant = z.x.grant) && (decide (y.x.order = z.x.order) && decide (y.x.status = z.x.status))))))) := Lib.hid rfl
  rw [HA.out]
  clear h h2 HA
  obtain ⟨⟨i1, i2, i3, i4, i5, i6, i7, S⟩, p, n, c⟩ := y
  obtain ⟨⟨j1, j2, j3, j4, j5, j6, j7, S2⟩, q, m, d⟩ := z
  unfold lval
  simp only at RSm hn ⊢
  generalize decide (S = S2) = t0 at *
  have k1 : Hid (decide (i2 = j2) = (i2 == j2)) := Lib.hid (by rw [Bool.eq_iff_iff]; simp)
  have k3 : Hid (decide (i4 = j4) = (i4 == j4)) := Lib.hid (by rw [Bool.eq_iff_iff]; simp)
  have k4 : Hid (decide (i5 = j5) = (i5 == j5)) := Lib.hid (by rw [Bool.eq_iff_iff]; simp)
  have k5 : Hid (decide (i6 = j6) = (i6 == j6)) := Lib.hid (by rw [Bool.eq_iff_iff]; simp)
  have k6 : Hid (decide (i7 = j7) = (i7 == j7)) := Lib.hid (by rw [Bool.eq_iff_iff]; simp)
  rw [k1.out, k3.out, k4.out, k5.out, k6.out]
  obtain ⟨t1, ht1⟩ : ∃ t, (i2 == j2) = t := ⟨_, rfl⟩
  obtain ⟨t3, ht3⟩ : ∃ t, (i4 == j4) = t := ⟨_, rfl⟩
  obtain ⟨t4, ht4⟩ : ∃ t, (i5 == j5) = t := ⟨_, rfl⟩
  obtain ⟨t5, ht5⟩ : ∃ t, (i6 == j6) = t := ⟨_, rfl⟩
  obtain ⟨t6, ht6⟩ : ∃ t, (i7 == j7) = t := ⟨_, rfl⟩
  rw [ht1, ht3, ht4, ht5, ht6]
  clear k1 k3 k4 k5 k6
  have B1 := Lib.hid (alloc_below w (.cells #[.int .i64 i1, .int .i64 i2, .int .i64 i3, .int .i64 i4, .int .i64 i5, .int .i64 i6, .int .i64 i7, .slice p n c] 27))
  have X1 := Lib.hid (Lies.new w 27 #[.int .i64 i1, .int .i64 i2, .int .i64 i3, .int .i64 i4, .int .i64 i5, .int .i64 i6, .int .i64 i7, .slice p n c])
  obtain ⟨w1, hw1⟩ : ∃ w1, w.alloc (.cells #[.int .i64 i1, .int .i64 i2, .int .i64 i3, .int .i64 i4, .int .i64 i5, .int .i64 i6, .int .i64 i7, .slice p n c] 27) = w1 := ⟨_, rfl⟩
  rw [hw1] at B1 X1
  have B2 := Lib.hid (B1.out.alloc B1.out.size (.cells #[.int .i64 j1, .int .i64 j2, .int .i64 j3, .int .i64 j4, .int .i64 j5, .int .i64 j6, .int .i64 j7, .slice q m d] 27))
  have X2 := Lib.hid (X1.out.alloc (.cells #[.int .i64 j1, .int .i64 j2, .int .i64 j3, .int .i64 j4, .int .i64 j5, .int .i64 j6, .int .i64 j7, .slice q m d] 27))
  have Y2 := Lib.hid (Lies.new w1 27 #[.int .i64 j1, .int .i64 j2, .int .i64 j3, .int .i64 j4, .int .i64 j5, .int .i64 j6, .int .i64 j7, .slice q m d])
  obtain ⟨w2, hw2⟩ : ∃ w2, w1.alloc (.cells #[.int .i64 j1, .int .i64 j2, .int .i64 j3, .int .i64 j4, .int .i64 j5, .int .i64 j6, .int .i64 j7, .slice q m d] 27) = w2 := ⟨_, rfl⟩
  rw [hw2] at B2 X2 Y2
  have x7 : w2.cell? ⟨w.heap.size, 7, none⟩ = some (.slice p n c) := X2.out.cell 7
  have y7 : w2.cell? ⟨w1.heap.size, 7, none⟩ = some (.slice q m d) := Y2.out.cell 7
  go_enter Tryd.func30, Tryd.ntmps30
  go_wp2_with fail
  clear x7 y7 hw1 hw2
  refine (RSm.out _ B2.out).mono ?_
  rintro e w3 ⟨rfl, u, rfl⟩
  have B3 := Lib.hid (below_drewN B2.out u)
  have X3 := Lib.hid (X2.out.drewN u)
  have Y3 := Lib.hid (Y2.out.drewN u)
  obtain ⟨w3, hw3⟩ : ∃ w3, w2.drewN u = w3 := ⟨_, rfl⟩
  rw [hw3] at B3 X3 Y3 ⊢
  generalize w1.heap.size = bl at *
  clear hw3 RSm B1 X1 B2 X2 Y2
  have x1 : w3.cell? ⟨w.heap.size, 1, none⟩ = some (.int .i64 i2) := X3.out.cell 1
  have x3 : w3.cell? ⟨w.heap.size, 3, none⟩ = some (.int .i64 i4) := X3.out.cell 3
  have x4 : w3.cell? ⟨w.heap.size, 4, none⟩ = some (.int .i64 i5) := X3.out.cell 4
  have x5 : w3.cell? ⟨w.heap.size, 5, none⟩ = some (.int .i64 i6) := X3.out.cell 5
  have x6 : w3.cell? ⟨w.heap.size, 6, none⟩ = some (.int .i64 i7) := X3.out.cell 6
  have y1 : w3.cell? ⟨bl, 1, none⟩ = some (.int .i64 j2) := Y3.out.cell 1
  have y3 : w3.cell? ⟨bl, 3, none⟩ = some (.int .i64 j4) := Y3.out.cell 3
  have y4 : w3.cell? ⟨bl, 4, none⟩ = some (.int .i64 j5) := Y3.out.cell 4
  have y5 : w3.cell? ⟨bl, 5, none⟩ = some (.int .i64 j6) := Y3.out.cell 5
  have y6 : w3.cell? ⟨bl, 6, none⟩ = some (.int .i64 j7) := Y3.out.cell 6
  clear X3 Y3
  cases t0
  · go_wp2
    go_ret
    exact ⟨rfl, B3.out⟩
  cases t1
  · go_wp2
    go_ret
    exact ⟨rfl, B3.out⟩
  cases t3
  · go_wp2
    go_ret
    exact ⟨rfl, B3.out⟩
  cases t4
  · go_wp2
    go_ret
    exact ⟨rfl, B3.out⟩
  cases t5
  · go_wp2
    go_ret
    exact ⟨rfl, B3.out⟩
  cases t6
  all_goals
    go_wp2
    go_ret
    exact ⟨rfl, B3.out⟩
end Lo
end Go.Proofs.YtgmjmkkhoibbcaaDoor
