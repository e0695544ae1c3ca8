/- Walks over the document's answer of layer 12: two lots, two lists of lots; a lot's place, a zone's load. No condition but those written. Walks over the document's answer of layer 12: a lot's place, a zone's load, the lot of a number. No condition but those written. Walks over the document's answer of layer 9: may stays be; may something be done now. No condition but those written. Walks over the document's answer of layer 9: may something be done now; stays, the last of which ends. No condition but those written. Walks over the document's answer of layer 9: stays, the last of which ends; into a zone; out of it. No condition but those written. -/
import Derived.Test.YtkfmkchonlajpaaGreatQ03
import Derived.Deep.RegionHeld3
import Derived.Test.YtkfmkchonlajpaaGreatQ02
import Derived.IntWalk
import Derived.BigQuiet
import Derived.Deep.QuietTactic
import Derived.Deep.CutRange
import Derived.Maps.AppendAt
namespace Go.Proofs.YtkfmkchonlajpaaGreat
open Go.RowKit

namespace Lo
theorem lt_ext {a b : Lt} : decide (a = b) = (alikeB a b && (decide (a.id = b.id) && decide (a.units = b.units))) := by
  obtain ⟨a1, a2, a3, a4, a5, a6, a7, a8⟩ := a
  obtain ⟨b1, b2, b3, b4, b5, b6, b7, b8⟩ := b
  rw [Bool.eq_iff_iff]
  simp only [alikeB, Bool.and_eq_true, decide_eq_true_eq, Lt.mk.injEq]
  constructor
  · rintro ⟨h1, h2, h3, h4, h5, h6, h7, h8⟩
    exact ⟨⟨h8, h2, h4, h5, h6, h7⟩, h1, h3⟩
  · rintro ⟨⟨h8, h2, h4, h5, h6, h7⟩, h1, h3⟩
    exact ⟨h1, h2, h3, h4, h5, h6, h7, h8⟩
set_option maxRecDepth 100000 in
set_option maxHeartbeats 8000000 in
theorem rone_any (y z : Lv) (w : World) (h : St w y) (h2 : St w z) (hn : y.n ≤ 1000000) :
    Calls Tryz.prog 13 #[lval y, lval z] w fun e w' => e = .returned (.bool (decide (y.x = z.x))) ∧ Below w.heap.size w w' := by
  have AL := Lib.hid (fun W (hW : Below w.heap.size w W) => ralike_any y z W (h.keep hW) (h2.keep hW) hn)
  rw [lt_ext]
  clear h h2
  generalize alikeB y.x z.x = t0 at *
  obtain ⟨⟨i1, i2, i3, i4, i5, i6, i7, S⟩, p, n, c⟩ := y
  obtain ⟨⟨j1, j2, j3, j4, j5, j6, j7, S2⟩, q, m, d⟩ := z
  unfold lval at *
  simp only at AL ⊢
  have k1 : Hid (decide (i1 = j1) = (i1 == j1)) := Lib.hid (by rw [Bool.eq_iff_iff]; simp)
  have k3 : Hid (decide (i3 = j3) = (i3 == j3)) := Lib.hid (by rw [Bool.eq_iff_iff]; simp)
  rw [k1.out, k3.out]
  obtain ⟨t1, ht1⟩ : ∃ t, (i1 == j1) = t := ⟨_, rfl⟩
  obtain ⟨t3, ht3⟩ : ∃ t, (i3 == j3) = t := ⟨_, rfl⟩
  rw [ht1, ht3]
  clear k1 k3
  have B1 := Lib.hid (alloc_below w (.cells #[.int .i64 i1, .int .i64 i2, .int .i64 i3, .int .i64 i4, .int .i64 i5, .int .i64 i6, .int .i64 i7, .slice p n c] 50))
  have X1 := Lib.hid (Lies.new w 50 #[.int .i64 i1, .int .i64 i2, .int .i64 i3, .int .i64 i4, .int .i64 i5, .int .i64 i6, .int .i64 i7, .slice p n c])
  obtain ⟨w1, hw1⟩ : ∃ w1, w.alloc (.cells #[.int .i64 i1, .int .i64 i2, .int .i64 i3, .int .i64 i4, .int .i64 i5, .int .i64 i6, .int .i64 i7, .slice p n c] 50) = w1 := ⟨_, rfl⟩
  rw [hw1] at B1 X1
  have B2 := Lib.hid (B1.out.alloc B1.out.size (.cells #[.int .i64 j1, .int .i64 j2, .int .i64 j3, .int .i64 j4, .int .i64 j5, .int .i64 j6, .int .i64 j7, .slice q m d] 50))
  have X2 := Lib.hid (X1.out.alloc (.cells #[.int .i64 j1, .int .i64 j2, .int .i64 j3, .int .i64 j4, .int .i64 j5, .int .i64 j6, .int .i64 j7, .slice q m d] 50))
  have Y2 := Lib.hid (Lies.new w1 50 #[.int .i64 j1, .int .i64 j2, .int .i64 j3, .int .i64 j4, .int .i64 j5, .int .i64 j6, .int .i64 j7, .slice q m d])
  obtain ⟨w2, hw2⟩ : ∃ w2, w1.alloc (.cells #[.int .i64 j1, .int .i64 j2, .int .i64 j3, .int .i64 j4, .int .i64 j5, .int .i64 j6, .int .i64 j7, .slice q m d] 50) = w2 := ⟨_, rfl⟩
  rw [hw2] at B2 X2 Y2
  have x0 : w2.cell? ⟨w.heap.size, 0, none⟩ = some (.int .i64 i1) := X2.out.cell 0
  have x1 : w2.cell? ⟨w.heap.size, 1, none⟩ = some (.int .i64 i2) := X2.out.cell 1
  have x2 : w2.cell? ⟨w.heap.size, 2, none⟩ = some (.int .i64 i3) := X2.out.cell 2
  have x3 : w2.cell? ⟨w.heap.size, 3, none⟩ = some (.int .i64 i4) := X2.out.cell 3
  have x4 : w2.cell? ⟨w.heap.size, 4, none⟩ = some (.int .i64 i5) := X2.out.cell 4
  have x5 : w2.cell? ⟨w.heap.size, 5, none⟩ = some (.int .i64 i6) := X2.out.cell 5
  have x6 : w2.cell? ⟨w.heap.size, 6, none⟩ = some (.int .i64 i7) := X2.out.cell 6
  have x7 : w2.cell? ⟨w.heap.size, 7, none⟩ = some (.slice p n c) := X2.out.cell 7
  have y0 : w2.cell? ⟨w1.heap.size, 0, none⟩ = some (.int .i64 j1) := Y2.out.cell 0
  have y1 : w2.cell? ⟨w1.heap.size, 1, none⟩ = some (.int .i64 j2) := Y2.out.cell 1
  have y2 : w2.cell? ⟨w1.heap.size, 2, none⟩ = some (.int .i64 j3) := Y2.out.cell 2
  have y3 : w2.cell? ⟨w1.heap.size, 3, none⟩ = some (.int .i64 j4) := Y2.out.cell 3
  have y4 : w2.cell? ⟨w1.heap.size, 4, none⟩ = some (.int .i64 j5) := Y2.out.cell 4
  have y5 : w2.cell? ⟨w1.heap.size, 5, none⟩ = some (.int .i64 j6) := Y2.out.cell 5
  have y6 : w2.cell? ⟨w1.heap.size, 6, none⟩ = some (.int .i64 j7) := Y2.out.cell 6
  have y7 : w2.cell? ⟨w1.heap.size, 7, none⟩ = some (.slice q m d) := Y2.out.cell 7
  go_enter Tryz.func13, Tryz.ntmps13
  go_wp2_with fail
  clear x0 x1 x2 x3 x4 x5 x6 x7 y0 y1 y2 y3 y4 y5 y6 y7 hw1 hw2
  refine (AL.out _ B2.out).mono ?_
  rintro e w3 ⟨rfl, hb⟩
  have B3 := Lib.hid (B2.out.trans (hb.mono B2.out.size))
  have X3 := Lib.hid (X2.out.below hb X2.out.lt)
  have Y3 := Lib.hid (Y2.out.below hb Y2.out.lt)
  generalize w1.heap.size = bl at *
  clear AL B1 X1 B2 X2 Y2 hb
  have x0 : w3.cell? ⟨w.heap.size, 0, none⟩ = some (.int .i64 i1) := X3.out.cell 0
  have x2 : w3.cell? ⟨w.heap.size, 2, none⟩ = some (.int .i64 i3) := X3.out.cell 2
  have y0 : w3.cell? ⟨bl, 0, none⟩ = some (.int .i64 j1) := Y3.out.cell 0
  have y2 : w3.cell? ⟨bl, 2, none⟩ = some (.int .i64 j3) := Y3.out.cell 2
  clear X3 Y3
  cases t0
  · go_wp2
    go_ret
    exact ⟨rfl, B3.out⟩
  cases t1
  · go_wp2
    go_ret
    exact ⟨rfl, B3.out⟩
  cases t3
  all_goals
    go_wp2
    go_ret
    exact ⟨rfl, B3.out⟩
/-- A slice of lots that reads as a list. -/
def Ll (W : World) (p : Option Addr) (n : Nat) (l : List Lv) : Prop := Rw 8 lcells W p n l ∧ ∀ y ∈ l, St W y
theorem Ll.keep {w w' : World} {p : Option Addr} {n : Nat} {l : List Lv} (h : Ll w p n l) (hb : Below w.heap.size w w') : Ll w' p n l := ⟨h.1.keep lcells_len hb, fun y hy => (h.2 y hy).keep hb⟩
theorem rs_list {W : World} {B g : Nat} {v : Value} {given : Int} {l : List Lv} (h : RS W B g v given l) : ∃ q c, v = .slice q l.length c ∧ l.length ≤ c ∧ Ll W q l.length l := by
  obtain ⟨q, c, rfl, hc, hr⟩ := rw_own lcells_len h.row
  exact ⟨q, c, rfl, hc, hr, h.stays⟩
theorem ltakes {l l2 : List Lv} {k : Nat} {x y : Lv} (h : lts (l.take k) = lts (l2.take k)) (hx : l[k]? = some x) (hy : l2[k]? = some y) (e : x.x = y.x) : lts (l.take (k + 1)) = lts (l2.take (k + 1)) := by
  unfold lts at *
  rw [List.take_add_one, List.take_add_one, hx, hy, List.map_append, List.map_append, h]
  simp [e]
theorem lnots {l l2 : List Lv} {k : Nat} {x y : Lv} (hx : l[k]? = some x) (hy : l2[k]? = some y) (h : x.x ≠ y.x) : decide (lts l = lts l2) = false := by
  rw [decide_eq_false_iff_not]
  intro e
  apply h
  have h1 : (lts l)[k]? = some x.x := by unfold lts; rw [List.getElem?_map, hx]; rfl
  have h2 : (lts l2)[k]? = some y.x := by unfold lts; rw [List.getElem?_map, hy]; rfl
  rw [e, h2] at h1
  exact (Option.some.inj h1).symm
theorem rsame_other (p q : Option Addr) (n m c d : Nat) (w : World) (h : ¬ n = m) :
    Calls Tryz.prog 9 #[.slice p n c, .slice q m d] w fun e w' => e = .returned (.bool false) ∧ Below w.heap.size w w' := by
  have h' : ¬ (n : Int) = (m : Int) := by omega
  have h1 : ((n : Int) != (m : Int)) = true := by simp; omega
  go_enter Tryz.func9, Tryz.ntmps9
  go_wp2
  go_ret
  exact ⟨rfl, Below.refl _ _⟩
set_option maxRecDepth 100000 in
set_option maxHeartbeats 8000000 in
theorem rsame_one (p q : Option Addr) (n c d : Nat) (l l2 : List Lv) (w : World) (h : Ll w p n l) (h2 : Ll w q n l2) (hn : n ≤ 1000000) (hs : ∀ y ∈ l, y.n ≤ 1000000) :
    Calls Tryz.prog 9 #[.slice p n c, .slice q n d] w fun e w' => e = .returned (.bool (decide (lts l = lts l2))) ∧ Below w.heap.size w w' := by
  have H := Lib.hid h
  have H2 := Lib.hid h2
  have HS := Lib.hid hs
  have HN := Lib.hid h.1.1
  have HN2 := Lib.hid h2.1.1
  have hn' : (n : Int) ≤ 1000000 := by omega
  clear h h2 hs
  go_enter Tryz.func9, Tryz.ntmps9
  go_wp2
  go_loopw [5] (fun i wr => ∃ k : Nat, k ≤ n ∧ i = .int .i64 k ∧ Hid (lts (l.take k) = lts (l2.take k)) ∧ Hid (Below w.heap.size w wr)) (fun i _ => n - (RowKit.intOf i).toNat)
  case atStart => exact ⟨0, Nat.zero_le _, rfl, Lib.hid (by simp [lts]), Lib.hid (Below.refl _ _)⟩
  case round =>
    obtain ⟨k, hk, rfl, HT, HB⟩ := hrel
    by_cases hlt : k < n
    · have hk3 : (k : Int) < (n : Int) := by omega
      obtain ⟨x, hx⟩ : ∃ x, l[k]? = some x := ⟨_, List.getElem?_eq_getElem (by rw [HN.out]; exact hlt)⟩
      obtain ⟨y, hy⟩ : ∃ y, l2[k]? = some y := ⟨_, List.getElem?_eq_getElem (by rw [HN2.out]; exact hlt)⟩
      have K1 := H.out.keep HB.out
      have K2 := H2.out.keep HB.out
      obtain ⟨b, o, rfl, hc⟩ := K1.1.2 (by omega)
      obtain ⟨b2, o2, rfl, hc2⟩ := K2.1.2 (by omega)
      have s1 := K1.2 x (List.mem_of_getElem? hx)
      have s2 := K2.2 y (List.mem_of_getElem? hy)
      have C := Lib.hid (fun W (hW : Below wr.heap.size wr W) => rone_any x y W (s1.keep hW) (s2.keep hW) (HS.out x (List.mem_of_getElem? hx)))
      have TK := Lib.hid (fun e => ltakes HT.out hx hy e)
      have NT := Lib.hid (fun e => lnots hx hy e)
      have P1 := Lib.hid (hc k x hx)
      have P2 := Lib.hid (hc2 k y hy)
      clear hx hy K1 K2 hc hc2 s1 s2 H H2 HS HT
      obtain ⟨⟨i1, i2, i3, i4, i5, i6, i7, S⟩, p, n', c'⟩ := x
      obtain ⟨⟨j1, j2, j3, j4, j5, j6, j7, S2⟩, q, m, d'⟩ := y
      unfold lval at C
      simp only at C TK NT
      have HD := Lib.hid ((Below.refl wr.heap.size wr).drew)
      have e0 : wr.cell? ⟨b, o + k * 8, none⟩ = some (.int .i64 i1) := P1.out 0 (by decide)
      have e1 : wr.cell? ⟨b, o + k * 8 + 1, none⟩ = some (.int .i64 i2) := P1.out 1 (by decide)
      have e2 : wr.cell? ⟨b, o + k * 8 + 2, none⟩ = some (.int .i64 i3) := P1.out 2 (by decide)
      have e3 : wr.cell? ⟨b, o + k * 8 + 3, none⟩ = some (.int .i64 i4) := P1.out 3 (by decide)
      have e4 : wr.cell? ⟨b, o + k * 8 + 4, none⟩ = some (.int .i64 i5) := P1.out 4 (by decide)
      have e5 : wr.cell? ⟨b, o + k * 8 + 5, none⟩ = some (.int .i64 i6) := P1.out 5 (by decide)
      have e6 : wr.cell? ⟨b, o + k * 8 + 6, none⟩ = some (.int .i64 i7) := P1.out 6 (by decide)
      have e7 : wr.cell? ⟨b, o + k * 8 + 7, none⟩ = some (.slice p n' c') := P1.out 7 (by decide)
      have f0 : wr.cell? ⟨b2, o2 + k * 8, none⟩ = some (.int .i64 j1) := P2.out 0 (by decide)
      have f1 : wr.cell? ⟨b2, o2 + k * 8 + 1, none⟩ = some (.int .i64 j2) := P2.out 1 (by decide)
      have f2 : wr.cell? ⟨b2, o2 + k * 8 + 2, none⟩ = some (.int .i64 j3) := P2.out 2 (by decide)
      have f3 : wr.cell? ⟨b2, o2 + k * 8 + 3, none⟩ = some (.int .i64 j4) := P2.out 3 (by decide)
      have f4 : wr.cell? ⟨b2, o2 + k * 8 + 4, none⟩ = some (.int .i64 j5) := P2.out 4 (by decide)
      have f5 : wr.cell? ⟨b2, o2 + k * 8 + 5, none⟩ = some (.int .i64 j6) := P2.out 5 (by decide)
      have f6 : wr.cell? ⟨b2, o2 + k * 8 + 6, none⟩ = some (.int .i64 j7) := P2.out 6 (by decide)
      have f7 : wr.cell? ⟨b2, o2 + k * 8 + 7, none⟩ = some (.slice q m d') := P2.out 7 (by decide)
      by_cases he : (⟨i1, i2, i3, i4, i5, i6, i7, S⟩ : Lt) = ⟨j1, j2, j3, j4, j5, j6, j7, S2⟩
      · rw [decide_eq_true he] at C
        have HT2 := Lib.hid (TK.out he)
        clear TK NT he P1 P2
        go_wp2_with fail
        go_region_held3 (fun w' => w'.cell? ⟨b, o + k * 8, none⟩ = some (.int .i64 i1) ∧ w'.cell? ⟨b, o + k * 8 + 1, none⟩ = some (.int .i64 i2) ∧ w'.cell? ⟨b, o + k * 8 + 2, none⟩ = some (.int .i64 i3) ∧ w'.cell? ⟨b, o + k * 8 + 3, none⟩ = some (.int .i64 i4) ∧ w'.cell? ⟨b, o + k * 8 + 4, none⟩ = some (.int .i64 i5) ∧ w'.cell? ⟨b, o + k * 8 + 5, none⟩ = some (.int .i64 i6) ∧ w'.cell? ⟨b, o + k * 8 + 6, none⟩ = some (.int .i64 i7) ∧ w'.cell? ⟨b, o + k * 8 + 7, none⟩ = some (.slice p n' c') ∧ w'.cell? ⟨b2, o2 + k * 8, none⟩ = some (.int .i64 j1) ∧ w'.cell? ⟨b2, o2 + k * 8 + 1, none⟩ = some (.int .i64 j2) ∧ w'.cell? ⟨b2, o2 + k * 8 + 2, none⟩ = some (.int .i64 j3) ∧ w'.cell? ⟨b2, o2 + k * 8 + 3, none⟩ = some (.int .i64 j4) ∧ w'.cell? ⟨b2, o2 + k * 8 + 4, none⟩ = some (.int .i64 j5) ∧ w'.cell? ⟨b2, o2 + k * 8 + 5, none⟩ = some (.int .i64 j6) ∧ w'.cell? ⟨b2, o2 + k * 8 + 6, none⟩ = some (.int .i64 j7) ∧ w'.cell? ⟨b2, o2 + k * 8 + 7, none⟩ = some (.slice q m d'))
          (first | go_keep | exact ⟨d0, d1, d2, d3, d4, d5, d6, d7, g0, g1, g2, g3, g4, g5, g6, g7⟩ | exact ⟨e0, e1, e2, e3, e4, e5, e6, e7, f0, f1, f2, f3, f4, f5, f6, f7⟩)
          ((go_at_call 13; ((with_reducible refine (C.out _ HD.out).mono ?_); rintro E w3 ⟨rfl, hb⟩; have d0 := (hb.cell (p := ⟨b, o + k * 8, none⟩) (World.block_lt_of_cell? wr _ e0)).trans e0; have d1 := (hb.cell (p := ⟨b, o + k * 8 + 1, none⟩) (World.block_lt_of_cell? wr _ e1)).trans e1; have d2 := (hb.cell (p := ⟨b, o + k * 8 + 2, none⟩) (World.block_lt_of_cell? wr _ e2)).trans e2; have d3 := (hb.cell (p := ⟨b, o + k * 8 + 3, none⟩) (World.block_lt_of_cell? wr _ e3)).trans e3; have d4 := (hb.cell (p := ⟨b, o + k * 8 + 4, none⟩) (World.block_lt_of_cell? wr _ e4)).trans e4; have d5 := (hb.cell (p := ⟨b, o + k * 8 + 5, none⟩) (World.block_lt_of_cell? wr _ e5)).trans e5; have d6 := (hb.cell (p := ⟨b, o + k * 8 + 6, none⟩) (World.block_lt_of_cell? wr _ e6)).trans e6; have d7 := (hb.cell (p := ⟨b, o + k * 8 + 7, none⟩) (World.block_lt_of_cell? wr _ e7)).trans e7; have g0 := (hb.cell (p := ⟨b2, o2 + k * 8, none⟩) (World.block_lt_of_cell? wr _ f0)).trans f0; have g1 := (hb.cell (p := ⟨b2, o2 + k * 8 + 1, none⟩) (World.block_lt_of_cell? wr _ f1)).trans f1; have g2 := (hb.cell (p := ⟨b2, o2 + k * 8 + 2, none⟩) (World.block_lt_of_cell? wr _ f2)).trans f2; have g3 := (hb.cell (p := ⟨b2, o2 + k * 8 + 3, none⟩) (World.block_lt_of_cell? wr _ f3)).trans f3; have g4 := (hb.cell (p := ⟨b2, o2 + k * 8 + 4, none⟩) (World.block_lt_of_cell? wr _ f4)).trans f4; have g5 := (hb.cell (p := ⟨b2, o2 + k * 8 + 5, none⟩) (World.block_lt_of_cell? wr _ f5)).trans f5; have g6 := (hb.cell (p := ⟨b2, o2 + k * 8 + 6, none⟩) (World.block_lt_of_cell? wr _ f6)).trans f6; have g7 := (hb.cell (p := ⟨b2, o2 + k * 8 + 7, none⟩) (World.block_lt_of_cell? wr _ f7)).trans f7)))
        all_goals
          have B3 := Lib.hid (HB.out.trans (((Below.refl _ wr).drew.trans hb).mono HB.out.size))
          clear hb C HD HB e0 e1 e2 e3 e4 e5 e6 e7 f0 f1 f2 f3 f4 f5 f6 f7 d0 d1 d2 d3 d4 d5 d6 d7 g0 g1 g2 g3 g4 g5 g6 g7
          go_wp2
          go_roundw
          case rel => exact ⟨k + 1, by omega, by go_num, HT2, B3⟩
          case measure => simp [RowKit.intOf]; omega
      · rw [decide_eq_false he] at C
        have HE := Lib.hid (NT.out he)
        clear TK NT he P1 P2
        go_wp2_with fail
        go_region_held3 (fun w' => w'.cell? ⟨b, o + k * 8, none⟩ = some (.int .i64 i1) ∧ w'.cell? ⟨b, o + k * 8 + 1, none⟩ = some (.int .i64 i2) ∧ w'.cell? ⟨b, o + k * 8 + 2, none⟩ = some (.int .i64 i3) ∧ w'.cell? ⟨b, o + k * 8 + 3, none⟩ = some (.int .i64 i4) ∧ w'.cell? ⟨b, o + k * 8 + 4, none⟩ = some (.int .i64 i5) ∧ w'.cell? ⟨b, o + k * 8 + 5, none⟩ = some (.int .i64 i6) ∧ w'.cell? ⟨b, o + k * 8 + 6, none⟩ = some (.int .i64 i7) ∧ w'.cell? ⟨b, o + k * 8 + 7, none⟩ = some (.slice p n' c') ∧ w'.cell? ⟨b2, o2 + k * 8, none⟩ = some (.int .i64 j1) ∧ w'.cell? ⟨b2, o2 + k * 8 + 1, none⟩ = some (.int .i64 j2) ∧ w'.cell? ⟨b2, o2 + k * 8 + 2, none⟩ = some (.int .i64 j3) ∧ w'.cell? ⟨b2, o2 + k * 8 + 3, none⟩ = some (.int .i64 j4) ∧ w'.cell? ⟨b2, o2 + k * 8 + 4, none⟩ = some (.int .i64 j5) ∧ w'.cell? ⟨b2, o2 + k * 8 + 5, none⟩ = some (.int .i64 j6) ∧ w'.cell? ⟨b2, o2 + k * 8 + 6, none⟩ = some (.int .i64 j7) ∧ w'.cell? ⟨b2, o2 + k * 8 + 7, none⟩ = some (.slice q m d'))
          (first | go_keep | exact ⟨d0, d1, d2, d3, d4, d5, d6, d7, g0, g1, g2, g3, g4, g5, g6, g7⟩ | exact ⟨e0, e1, e2, e3, e4, e5, e6, e7, f0, f1, f2, f3, f4, f5, f6, f7⟩)
          ((go_at_call 13; ((with_reducible refine (C.out _ HD.out).mono ?_); rintro E w3 ⟨rfl, hb⟩; have d0 := (hb.cell (p := ⟨b, o + k * 8, none⟩) (World.block_lt_of_cell? wr _ e0)).trans e0; have d1 := (hb.cell (p := ⟨b, o + k * 8 + 1, none⟩) (World.block_lt_of_cell? wr _ e1)).trans e1; have d2 := (hb.cell (p := ⟨b, o + k * 8 + 2, none⟩) (World.block_lt_of_cell? wr _ e2)).trans e2; have d3 := (hb.cell (p := ⟨b, o + k * 8 + 3, none⟩) (World.block_lt_of_cell? wr _ e3)).trans e3; have d4 := (hb.cell (p := ⟨b, o + k * 8 + 4, none⟩) (World.block_lt_of_cell? wr _ e4)).trans e4; have d5 := (hb.cell (p := ⟨b, o + k * 8 + 5, none⟩) (World.block_lt_of_cell? wr _ e5)).trans e5; have d6 := (hb.cell (p := ⟨b, o + k * 8 + 6, none⟩) (World.block_lt_of_cell? wr _ e6)).trans e6; have d7 := (hb.cell (p := ⟨b, o + k * 8 + 7, none⟩) (World.block_lt_of_cell? wr _ e7)).trans e7; have g0 := (hb.cell (p := ⟨b2, o2 + k * 8, none⟩) (World.block_lt_of_cell? wr _ f0)).trans f0; have g1 := (hb.cell (p := ⟨b2, o2 + k * 8 + 1, none⟩) (World.block_lt_of_cell? wr _ f1)).trans f1; have g2 := (hb.cell (p := ⟨b2, o2 + k * 8 + 2, none⟩) (World.block_lt_of_cell? wr _ f2)).trans f2; have g3 := (hb.cell (p := ⟨b2, o2 + k * 8 + 3, none⟩) (World.block_lt_of_cell? wr _ f3)).trans f3; have g4 := (hb.cell (p := ⟨b2, o2 + k * 8 + 4, none⟩) (World.block_lt_of_cell? wr _ f4)).trans f4; have g5 := (hb.cell (p := ⟨b2, o2 + k * 8 + 5, none⟩) (World.block_lt_of_cell? wr _ f5)).trans f5; have g6 := (hb.cell (p := ⟨b2, o2 + k * 8 + 6, none⟩) (World.block_lt_of_cell? wr _ f6)).trans f6; have g7 := (hb.cell (p := ⟨b2, o2 + k * 8 + 7, none⟩) (World.block_lt_of_cell? wr _ f7)).trans f7)))
        all_goals
          have B3 := Lib.hid (HB.out.trans (((Below.refl _ wr).drew.trans hb).mono HB.out.size))
          clear hb C HD HB e0 e1 e2 e3 e4 e5 e6 e7 f0 f1 f2 f3 f4 f5 f6 f7 d0 d1 d2 d3 d4 d5 d6 d7 g0 g1 g2 g3 g4 g5 g6 g7
          go_wp2
          go_ret
          exact ⟨by rw [HE.out]; rfl, B3.out⟩
    · obtain rfl : k = n := by omega
      have HE := Lib.hid (show decide (lts l = lts l2) = true by
        rw [decide_eq_true_eq]
        have := HT.out
        rwa [List.take_of_length_le (by rw [HN.out]; exact Nat.le_refl _), List.take_of_length_le (by rw [HN2.out]; exact Nat.le_refl _)] at this)
      go_wp2
      go_ret
      exact ⟨by rw [HE.out]; rfl, HB.out⟩
theorem rsame_any (p q : Option Addr) (n m c d : Nat) (l l2 : List Lv) (w : World) (h : Ll w p n l) (h2 : Ll w q m l2) (hn : n ≤ 1000000) (hs : ∀ y ∈ l, y.n ≤ 1000000) :
    Calls Tryz.prog 9 #[.slice p n c, .slice q m d] w fun e w' => e = .returned (.bool (decide (lts l = lts l2))) ∧ Below w.heap.size w w' := by
  by_cases hm : n = m
  · subst hm
    exact rsame_one p q n c d l l2 w h h2 hn hs
  · have e : decide (lts l = lts l2) = false := by
      rw [decide_eq_false_iff_not]
      intro e
      have := congrArg List.length e
      unfold lts at this
      rw [List.length_map, List.length_map, h.1.1, h2.1.1] at this
      exact hm this
    rw [e]
    exact rsame_other p q n m c d w hm
end Lo
end Go.Proofs.YtkfmkchonlajpaaGreat

namespace Go.Proofs.YtkfmkchonlajpaaGreat
open Go.RowKit

namespace Lo
/-- A place as a number; -1: none. -/
def atI (id : Int) (l : List Lt) : Int := match at_ id l with | some i => (i : Int) | none => -1
theorem atI_some {id : Int} {l : List Lt} {i : Nat} (h : at_ id l = some i) : atI id l = i := by unfold atI; rw [h]
theorem atI_none {id : Int} {l : List Lt} (h : at_ id l = none) : atI id l = -1 := by unfold atI; rw [h]
set_option maxRecDepth 100000 in
set_option maxHeartbeats 4000000 in
theorem rat_any (B g : Nat) (v : Value) (given : Int) (l : List Lv) (id : Int) (w : World) (h : RS w B g v given l) (hL : l.length ≤ 1000000) :
    Calls Tryz.prog 39 #[.pointer (some ⟨g, 0, none⟩), .int .i64 id] w fun e w' => e = .returned (.int .i64 (atI id (lts l))) ∧ w = w' := by
  obtain ⟨q0, d0, rfl⟩ := rs_slice h
  obtain ⟨n, hn⟩ : ∃ n, l.length = n := ⟨_, rfl⟩
  have h' := h
  rw [hn] at hL h'
  have H := Lib.hid h'
  have HN := Lib.hid hn
  have m0 : w.cell? ⟨g, 0, none⟩ = some (.slice q0 n d0) := h'.blk.cell 0
  have hL' : (n : Int) ≤ 1000000 := by omega
  clear h h' hn
  go_enter Tryz.func39, Tryz.ntmps39
  go_wp2
  go_loop [5] (fun i => ∃ k : Nat, k ≤ n ∧ i = .int .i64 k ∧ Hid (∀ y ∈ (lts l).take k, y.id ≠ id)) (fun i => n - (RowKit.intOf i).toNat)
  case atStart => exact ⟨0, Nat.zero_le _, rfl, Lib.hid (by simp)⟩
  case round =>
    obtain ⟨k, hk, rfl, HH⟩ := hrel
    by_cases hlt : k < n
    · have hk3 : (k : Int) < (n : Int) := by omega
      obtain ⟨y, hy⟩ : ∃ y, l[k]? = some y := ⟨_, List.getElem?_eq_getElem (by rw [HN.out]; exact hlt)⟩
      obtain ⟨b, e, _, _, hc⟩ := rs_at H.out HN.out hy
      subst e
      have e0 : w.cell? ⟨b, k * 8, none⟩ = some (.int .i64 y.x.id) := hc w (Below.refl _ _) 0 (by decide)
      have hyl : (lts l)[k]? = some y.x := by unfold lts; rw [List.getElem?_map, hy]; rfl
      have HY := Lib.hid hyl
      clear hc hy hyl
      by_cases ha : y.x.id = id
      · have ha1 : (y.x.id == id) = true := by simp [ha]
        have HE := Lib.hid (atI_some (at_first HY.out ha HH.out))
        clear ha
        generalize y.x.id = yi at *
        go_wp2
        go_ret
        exact ⟨by rw [HE.out]; rfl, rfl⟩
      · have ha1 : (y.x.id == id) = false := by simp [ha]
        have HH2 := Lib.hid (show ∀ z ∈ (lts l).take (k + 1), z.id ≠ id from fun z hz => by
          rw [List.take_add_one, HY.out] at hz
          rcases List.mem_append.1 hz with hz | hz
          · exact HH.out z hz
          · simp at hz
            rw [hz]
            exact ha)
        clear ha
        generalize y.x.id = yi at *
        go_wp2
        go_round
        case rel => exact ⟨k + 1, by omega, by go_num, HH2⟩
        case measure => simp [RowKit.intOf]; omega
    · obtain rfl : k = n := by omega
      have HE := Lib.hid (atI_none (at_none.2 (fun y hy => HH.out y (by
        rw [List.take_of_length_le (by unfold lts; rw [List.length_map, HN.out]; exact Nat.le_refl _)]
        exact hy))))
      go_wp2
      go_ret
      exact ⟨by rw [HE.out]; rfl, rfl⟩
theorem ltake {l : List Lv} {k : Nat} {y : Lv} (hy : l[k]? = some y) : lts (l.take (k + 1)) = lts (l.take k) ++ [y.x] := by
  unfold lts
  rw [List.take_add_one, hy, List.map_append]
  rfl
theorem good_part {s : Stk} (h : Good s) (l r : List Lt) (e : s.1 = l ++ r) (z : Int) : 0 ≤ loadL l z ∧ loadL l z ≤ 268435456 := by
  have h1 := load_le l z 0 (fun x hx => h.units x (by rw [e]; exact List.mem_append_left _ hx))
  have h2 := h.sum
  have h3 := h.given
  have h4 := sum_pos r (fun x hx => h.units x (by rw [e]; exact List.mem_append_right _ hx))
  rw [e, List.map_append, List.sum_append] at h2
  unfold loadL
  have : (0 : Int) ≤ (r.length : Int) := by omega
  omega
set_option maxRecDepth 100000 in
set_option maxHeartbeats 8000000 in
theorem rload_any (B g : Nat) (v : Value) (given : Int) (l : List Lv) (z : Int) (w : World) (h : RS w B g v given l) (hG : Good (lts l, given)) :
    Calls Tryz.prog 16 #[.pointer (some ⟨g, 0, none⟩), .int .i64 z] w fun e w' => e = .returned (.int .i64 (loadL (lts l) z)) ∧ Below w.heap.size w w' := by
  obtain ⟨q0, d0, rfl⟩ := rs_slice h
  obtain ⟨n, hn⟩ : ∃ n, l.length = n := ⟨_, rfl⟩
  have hL := good_len hG
  have h' := h
  rw [hn] at h'
  have hL2 : n ≤ 256 := by rw [← hn]; simpa [lts] using hL
  have H := Lib.hid h'
  have HN := Lib.hid hn
  have HG := Lib.hid hG
  have hL' : (n : Int) ≤ 256 := by omega
  clear h h' hn hG hL
  go_enter Tryz.func16, Tryz.ntmps16
  go_wp2
  go_loopw [5, 6] (fun a i wr => ∃ k : Nat, k ≤ n ∧ i = .int .i64 k ∧ a = .int .i64 (loadL (lts (l.take k)) z) ∧ Hid (Below w.heap.size w wr)) (fun _ i _ => n - (RowKit.intOf i).toNat)
  case atStart => exact ⟨0, Nat.zero_le _, rfl, rfl, Lib.hid (Below.refl _ _)⟩
  case round =>
    obtain ⟨k, hk, rfl, rfl, HB⟩ := hrel
    have HR := H.out.keep HB.out
    have m0 : wr.cell? ⟨g, 0, none⟩ = some (.slice q0 n d0) := HR.blk.cell 0
    by_cases hlt : k < n
    · have hk3 : (k : Int) < (n : Int) := by omega
      obtain ⟨y, hy⟩ : ∃ y, l[k]? = some y := ⟨_, List.getElem?_eq_getElem (by rw [HN.out]; exact hlt)⟩
      obtain ⟨b, e, _, _, hc⟩ := rs_at HR HN.out hy
      subst e
      have hmem := List.mem_of_getElem? hy
      have hst := HR.stays y hmem
      have C := Lib.hid (rin_any y wr hst (by have := HG.out.long y.x (List.mem_map.2 ⟨y, hmem, rfl⟩); rw [hst.len] at this; omega))
      have hb1 := good_part HG.out (lts (l.take k)) (lts (l.drop k)) (by simp only [lts]; rw [← List.map_append, List.take_append_drop]) z
      have hb2 := good_part HG.out (lts (l.take (k + 1))) (lts (l.drop (k + 1))) (by simp only [lts]; rw [← List.map_append, List.take_append_drop]) z
      have TK := Lib.hid (show loadL (lts (l.take (k + 1))) z = loadL (lts (l.take k)) z + addL z y.x by rw [ltake hy, load_snoc])
      rw [TK.out] at hb2
      have HC := Lib.hid hc
      have HRR := Lib.hid HR
      clear hc hy hmem hst HR
      have HY := Lib.hid (show addL z y.x = if inL y.x = z ∧ z ≠ 0 then y.x.units else 0 from rfl)
      generalize addL z y.x = ad at *
      generalize loadL (lts (l.take k)) z = la at *
      generalize inL y.x = zi at *
      obtain ⟨⟨i1, i2, i3, i4, i5, i6, i7, S⟩, p, m, c⟩ := y
      unfold lval at C
      simp only at C HY
      have e0 : wr.cell? ⟨b, k * 8, none⟩ = some (.int .i64 i1) := HC.out wr (Below.refl _ _) 0 (by decide)
      have e1 : wr.cell? ⟨b, k * 8 + 1, none⟩ = some (.int .i64 i2) := HC.out wr (Below.refl _ _) 1 (by decide)
      have e2 : wr.cell? ⟨b, k * 8 + 2, none⟩ = some (.int .i64 i3) := HC.out wr (Below.refl _ _) 2 (by decide)
      have e3 : wr.cell? ⟨b, k * 8 + 3, none⟩ = some (.int .i64 i4) := HC.out wr (Below.refl _ _) 3 (by decide)
      have e4 : wr.cell? ⟨b, k * 8 + 4, none⟩ = some (.int .i64 i5) := HC.out wr (Below.refl _ _) 4 (by decide)
      have e5 : wr.cell? ⟨b, k * 8 + 5, none⟩ = some (.int .i64 i6) := HC.out wr (Below.refl _ _) 5 (by decide)
      have e6 : wr.cell? ⟨b, k * 8 + 6, none⟩ = some (.int .i64 i7) := HC.out wr (Below.refl _ _) 6 (by decide)
      have e7 : wr.cell? ⟨b, k * 8 + 7, none⟩ = some (.slice p m c) := HC.out wr (Below.refl _ _) 7 (by decide)
      go_wp2_with fail
      refine C.out.mono ?_
      rintro E w3 ⟨rfl, hb⟩
      have B3 := Lib.hid (HB.out.trans (hb.mono HB.out.size))
      have g0 : w3.cell? ⟨g, 0, none⟩ = some (.slice (some ⟨b, 0, none⟩) n d0) := (HRR.out.keep hb).blk.cell 0
      have g2 : w3.cell? ⟨b, k * 8 + 2, none⟩ = some (.int .i64 i3) := HC.out w3 hb 2 (by decide)
      clear hb C HB e0 e1 e2 e3 e4 e5 e6 e7 m0 HRR HC
      by_cases h1 : zi = z
      · have t1 : (zi == z) = true := by simp [h1]
        by_cases h2 : z = 0
        · have t2 : (z != 0) = false := by simp [h2]
          have HE := Lib.hid (show loadL (lts (l.take (k + 1))) z = la by rw [TK.out, HY.out, if_neg (fun hh => hh.2 h2)]; omega)
          clear h1 h2 hb1 hb2
          go_wp2
          go_roundw
          case rel => exact ⟨k + 1, by omega, by go_num, by rw [HE.out], B3⟩
          case measure => simp [RowKit.intOf]; omega
        · have t2 : (z != 0) = true := by simp [h2]
          have HAD : Hid (ad = i3) := Lib.hid (by rw [HY.out, if_pos ⟨h1, h2⟩])
          rw [HAD.out] at hb2
          have HE := Lib.hid (show loadL (lts (l.take (k + 1))) z = la + i3 by rw [TK.out, HAD.out])
          clear h1 h2
          obtain ⟨hb1a, hb1b⟩ := hb1
          obtain ⟨hb2a, hb2b⟩ := hb2
          go_wp2
          go_roundw
          case rel => exact ⟨k + 1, by omega, by go_num, by rw [HE.out], B3⟩
          case measure => simp [RowKit.intOf]; omega
      · have t1 : (zi == z) = false := by simp [h1]
        have HE := Lib.hid (show loadL (lts (l.take (k + 1))) z = la by rw [TK.out, HY.out, if_neg (fun hh => h1 hh.1)]; omega)
        clear h1 hb1 hb2
        go_wp2
        go_roundw
        case rel => exact ⟨k + 1, by omega, by go_num, by rw [HE.out], B3⟩
        case measure => simp [RowKit.intOf]; omega
    · obtain rfl : k = n := by omega
      have HE : Hid (l.take k = l) := Lib.hid (List.take_of_length_le (by rw [HN.out]; exact Nat.le_refl _))
      rw [HE.out]
      go_wp2
      go_ret
      exact ⟨rfl, HB.out⟩
/-- The lot of a number; where its stays lie. -/
def lotV (id : Int) (l : List Lv) : Lv × Nat := match at_ id (lts l) with
  | some i => match l[i]? with | some y => (y, 0) | none => (⟨lt0, none, 0, 0⟩, 5)
  | none => (⟨lt0, none, 0, 0⟩, 5)
theorem lot_say (id : Int) (l : List Lv) (given : Int) : ((lotV id l).1.x, (lotV id l).2) = lotS (lts l, given) id := by
  unfold lotV lotS
  simp only
  cases h : at_ id (lts l) with
  | none => rfl
  | some i =>
    simp only
    have e : (lts l)[i]? = (l[i]?).map Lv.x := by unfold lts; rw [List.getElem?_map]
    rw [e]
    cases l[i]? <;> rfl
theorem lot_st {W : World} {B g : Nat} {v : Value} {given : Int} {l : List Lv} (h : RS W B g v given l) (id : Int) : St W (lotV id l).1 := by
  unfold lotV
  cases at_ id (lts l) with
  | none => exact ⟨rw_nil _, Nat.le_refl _⟩
  | some i =>
    simp only
    cases hi : l[i]? with
    | none => exact ⟨rw_nil _, Nat.le_refl _⟩
    | some y => exact h.stays y (List.mem_of_getElem? hi)
set_option maxRecDepth 100000 in
set_option maxHeartbeats 8000000 in
theorem rlot_any (B g : Nat) (v : Value) (given : Int) (l : List Lv) (id : Int) (w : World) (h : RS w B g v given l) (hL : l.length ≤ 1000000) :
    Calls Tryz.prog 12 #[.pointer (some ⟨g, 0, none⟩), .int .i64 id] w fun e w' =>
      e = .returned (.tuple #[lval (lotV id l).1, .int .i64 ((lotV id l).2 : Nat)]) ∧ Below w.heap.size w w' := by
  have B1 := Lib.hid (alloc_below w (.cells #[.int .i64 0, .int .i64 0, .int .i64 0, .int .i64 0, .int .i64 0, .int .i64 0, .int .i64 0, .slice none 0 0] 50))
  have X1 := Lib.hid (Lies.new w 50 #[.int .i64 0, .int .i64 0, .int .i64 0, .int .i64 0, .int .i64 0, .int .i64 0, .int .i64 0, .slice none 0 0])
  have H1 := h.keep B1.out
  obtain ⟨w1, hw1⟩ : ∃ w1, w.alloc (.cells #[.int .i64 0, .int .i64 0, .int .i64 0, .int .i64 0, .int .i64 0, .int .i64 0, .int .i64 0, .slice none 0 0] 50) = w1 := ⟨_, rfl⟩
  rw [hw1] at B1 X1 H1
  have C := Lib.hid (rat_any B g v given l id w1 H1 hL)
  obtain ⟨q0, d0, rfl⟩ := rs_slice h
  obtain ⟨n, hn⟩ : ∃ n, l.length = n := ⟨_, rfl⟩
  rw [hn] at H1 hL
  have m0 : w1.cell? ⟨g, 0, none⟩ = some (.slice q0 n d0) := H1.blk.cell 0
  have HN := Lib.hid hn
  have H := Lib.hid H1
  clear h H1 hn
  have r0 : w1.cell? ⟨w.heap.size, 0, none⟩ = some (.int .i64 0) := X1.out.cell 0
  have g0 := X1.out.frozen 0
  have r1 : w1.cell? ⟨w.heap.size, 1, none⟩ = some (.int .i64 0) := X1.out.cell 1
  have g1 := X1.out.frozen 1
  have r2 : w1.cell? ⟨w.heap.size, 2, none⟩ = some (.int .i64 0) := X1.out.cell 2
  have g2 := X1.out.frozen 2
  have r3 : w1.cell? ⟨w.heap.size, 3, none⟩ = some (.int .i64 0) := X1.out.cell 3
  have g3 := X1.out.frozen 3
  have r4 : w1.cell? ⟨w.heap.size, 4, none⟩ = some (.int .i64 0) := X1.out.cell 4
  have g4 := X1.out.frozen 4
  have r5 : w1.cell? ⟨w.heap.size, 5, none⟩ = some (.int .i64 0) := X1.out.cell 5
  have g5 := X1.out.frozen 5
  have r6 : w1.cell? ⟨w.heap.size, 6, none⟩ = some (.int .i64 0) := X1.out.cell 6
  have g6 := X1.out.frozen 6
  have r7 : w1.cell? ⟨w.heap.size, 7, none⟩ = some (.slice none 0 0) := X1.out.cell 7
  have g7 := X1.out.frozen 7
  cases ha : at_ id (lts l) with
  | none =>
    rw [atI_none ha] at C
    have HE : Hid (lotV id l = (⟨lt0, none, 0, 0⟩, 5)) := Lib.hid (by unfold lotV; rw [ha])
    rw [HE.out]
    clear ha HE
    go_enter Tryz.func12, Tryz.ntmps12
    go_wp2_with fail
    refine C.out.mono ?_
    rintro e w' ⟨rfl, rfl⟩
    go_wp2
    refine bodyPost_ret (v := .tuple #[lval ⟨lt0, none, 0, 0⟩, .int .i64 5]) (by simp [results, Tryz.results12, go_sem, lval, lt0, r0, r1, r2, r3, r4, r5, r6, r7]) rfl ⟨rfl, ?_⟩
    iterate 8 refine Below.setCell ?_ (show w.heap.size ≤ _ from Nat.le_refl _) _
    exact B1.out
  | some i =>
    rw [atI_some ha] at C
    have hi := at_lt ha
    have hi2 : i < l.length := by simpa [lts] using hi
    obtain ⟨y, hy⟩ : ∃ y, l[i]? = some y := ⟨_, List.getElem?_eq_getElem hi2⟩
    have HE : Hid (lotV id l = (y, 0)) := Lib.hid (by unfold lotV; rw [ha]; simp only [hy])
    rw [HE.out]
    obtain ⟨b, e, _, _, hc⟩ := rs_at H.out HN.out hy
    subst e
    rw [HN.out] at hi2
    have hi3 : (i : Int) < (n : Int) := by omega
    have hL' : (n : Int) ≤ 1000000 := by omega
    clear ha HE hy hi
    obtain ⟨⟨i1, i2, i3, i4, i5, i6, i7, S⟩, p, m, c⟩ := y
    have k0 : w1.cell? ⟨b, i * 8, none⟩ = some (.int .i64 i1) := hc w1 (Below.refl _ _) 0 (by decide)
    have k1 : w1.cell? ⟨b, i * 8 + 1, none⟩ = some (.int .i64 i2) := hc w1 (Below.refl _ _) 1 (by decide)
    have k2 : w1.cell? ⟨b, i * 8 + 2, none⟩ = some (.int .i64 i3) := hc w1 (Below.refl _ _) 2 (by decide)
    have k3 : w1.cell? ⟨b, i * 8 + 3, none⟩ = some (.int .i64 i4) := hc w1 (Below.refl _ _) 3 (by decide)
    have k4 : w1.cell? ⟨b, i * 8 + 4, none⟩ = some (.int .i64 i5) := hc w1 (Below.refl _ _) 4 (by decide)
    have k5 : w1.cell? ⟨b, i * 8 + 5, none⟩ = some (.int .i64 i6) := hc w1 (Below.refl _ _) 5 (by decide)
    have k6 : w1.cell? ⟨b, i * 8 + 6, none⟩ = some (.int .i64 i7) := hc w1 (Below.refl _ _) 6 (by decide)
    have k7 : w1.cell? ⟨b, i * 8 + 7, none⟩ = some (.slice p m c) := hc w1 (Below.refl _ _) 7 (by decide)
    clear hc
    go_enter Tryz.func12, Tryz.ntmps12
    go_wp2_with fail
    refine C.out.mono ?_
    rintro e w' ⟨rfl, rfl⟩
    go_wp2
    refine bodyPost_ret (v := .tuple #[lval ⟨⟨i1, i2, i3, i4, i5, i6, i7, S⟩, p, m, c⟩, .int .i64 0]) (by simp [results, Tryz.results12, go_sem, lval, r0, r1, r2, r3, r4, r5, r6, r7]) rfl ⟨rfl, ?_⟩
    iterate 8 refine Below.setCell ?_ (show w.heap.size ≤ _ from Nat.le_refl _) _
    exact B1.out
end Lo
end Go.Proofs.YtkfmkchonlajpaaGreat

namespace Go.Proofs.YtkfmkchonlajpaaGreat
open Go.RowKit

namespace Sy
/-- The first ones are as they may be. -/
def OkTo (S : List Sy) (k : Nat) : Prop := ∀ (i : Nat) (s : Sy), i < k → S[i]? = some s → 1 ≤ s.zone ∧ 0 ≤ s.frm ∧ (s.frm < s.to ∨ s.to = -1 ∧ i + 1 = S.length) ∧ ∀ t, 0 < i → S[i - 1]? = some t → t.to = s.frm
theorem okto_end {S : List Sy} (h : OkTo S S.length) : rightB S = true := right_yes fun i s hs => by
  obtain ⟨h1, h2, h3, h4⟩ := h i s (List.getElem?_eq_some_iff.1 hs).1 hs
  refine ⟨h1, h2, h3, fun t ht => ?_⟩
  have := (h (i + 1) t (List.getElem?_eq_some_iff.1 ht).1 ht).2.2.2 s (by omega) (by simpa using hs)
  omega
theorem okto_next {S : List Sy} {k : Nat} {x : Sy} (h : OkTo S k) (hx : S[k]? = some x) (h1 : 1 ≤ x.zone) (h2 : 0 ≤ x.frm) (h3 : x.frm < x.to ∨ x.to = -1 ∧ k + 1 = S.length) (h4 : ∀ t, 0 < k → S[k - 1]? = some t → t.to = x.frm) : OkTo S (k + 1) := fun i s hi hs => by
  by_cases hik : i < k
  · exact h i s hik hs
  · obtain rfl : i = k := by omega
    rw [hx] at hs
    rw [← Option.some.inj hs]
    exact ⟨h1, h2, h3, h4⟩
theorem bad_at {S : List Sy} {k : Nat} {x : Sy} (hx : S[k]? = some x) (h : ¬ (1 ≤ x.zone ∧ 0 ≤ x.frm ∧ (x.frm < x.to ∨ x.to = -1 ∧ k + 1 = S.length))) : rightB S = false :=
  right_no fun hr => h (by
    obtain ⟨a, b, c, _⟩ := hr k x hx
    exact ⟨a, b, c⟩)
theorem bad_join {S : List Sy} {k : Nat} {x y : Sy} (hx : S[k + 1]? = some x) (hy : S[k]? = some y) (h : y.to ≠ x.frm) : rightB S = false :=
  right_no fun hr => h ((hr k y hy).2.2.2 x hx).symm
set_option maxRecDepth 100000 in
set_option maxHeartbeats 8000000 in
theorem r9right_any (p : Option Addr) (n c : Nat) (S : List Sy) (w : World) (h : Rw 3 scells w p n S) (hn : n ≤ 1000000) :
    Calls Tryz.prog 89 #[.slice p n c] w fun e w' => e = .returned (.bool (rightB S)) ∧ Below w.heap.size w w' := by
  have H := Lib.hid h
  have HN := Lib.hid h.1
  have hn' : (n : Int) ≤ 1000000 := by omega
  clear h
  go_enter Tryz.func89, Tryz.ntmps89
  go_wp2
  go_loopw [3] (fun i wr => ∃ k : Nat, k ≤ n ∧ i = .int .i64 k ∧ Hid (OkTo S k) ∧ Hid (Below w.heap.size w wr)) (fun i _ => n - (RowKit.intOf i).toNat)
  case atStart => exact ⟨0, Nat.zero_le _, rfl, Lib.hid (fun i s hi => by omega), Lib.hid (Below.refl _ _)⟩
  case round =>
    obtain ⟨k, hk, rfl, HO, HB⟩ := hrel
    by_cases hlt : k < n
    · have hk3 : (k : Int) < (n : Int) := by omega
      have HR := H.out.keep scells_len HB.out
      obtain ⟨b, o, rfl, hc⟩ := HR.2 (by omega)
      obtain ⟨x, hx⟩ : ∃ x, S[k]? = some x := ⟨_, List.getElem?_eq_getElem (by rw [HN.out]; exact hlt)⟩
      have e0 : wr.cell? ⟨b, o + k * 3, none⟩ = some (.int .i64 x.zone) := hc k x hx 0 (by decide)
      have e1 : wr.cell? ⟨b, o + k * 3 + 1, none⟩ = some (.int .i64 x.frm) := hc k x hx 1 (by decide)
      have e2 : wr.cell? ⟨b, o + k * 3 + 2, none⟩ = some (.int .i64 x.to) := hc k x hx 2 (by decide)
      have HX := Lib.hid hx
      have HC := Lib.hid hc
      clear hc hx HR
      go_upto_region 5 with fail
      have B2 := Lib.hid (HB.out.alloc HB.out.size (.cells #[.int .i64 x.zone, .int .i64 x.frm, .int .i64 x.to] 71))
      have X2 := Lib.hid (Lies.new wr 71 #[.int .i64 x.zone, .int .i64 x.frm, .int .i64 x.to])
      have HA := Lib.hid (alloc_below wr (.cells #[.int .i64 x.zone, .int .i64 x.frm, .int .i64 x.to] 71))
      obtain ⟨w2, hw2⟩ : ∃ w2, wr.alloc (.cells #[.int .i64 x.zone, .int .i64 x.frm, .int .i64 x.to] 71) = w2 := ⟨_, rfl⟩
      rw [hw2] at B2 X2 HA ⊢
      clear hw2 e0 e1 e2 HB
      have x0 : w2.cell? ⟨wr.heap.size, 0, none⟩ = some (.int .i64 x.zone) := X2.out.cell 0
      have x1 : w2.cell? ⟨wr.heap.size, 1, none⟩ = some (.int .i64 x.frm) := X2.out.cell 1
      have x2 : w2.cell? ⟨wr.heap.size, 2, none⟩ = some (.int .i64 x.to) := X2.out.cell 2
      have BAD := Lib.hid (fun hh => bad_at HX.out hh)
      have NEXT := Lib.hid (fun h1 h2 h3 h4 => okto_next HO.out HX.out h1 h2 h3 h4)
      have JOIN := Lib.hid (fun (hk0 : 0 < k) y (hy : S[k - 1]? = some y) (hh : y.to ≠ x.frm) => bad_join (k := k - 1) (by rw [Nat.sub_add_cancel hk0]; exact HX.out) hy hh)
      clear HO
      obtain ⟨xz, xf, xt⟩ := x
      simp only at x0 x1 x2 BAD NEXT JOIN ⊢
      rw [HN.out] at BAD NEXT
      by_cases hz : 1 ≤ xz
      case neg =>
        have HE := Lib.hid (BAD.out (fun hh => hz hh.1))
        have hz' : xz < 1 := by omega
        clear BAD NEXT JOIN hz
        go_wp2
        go_ret
        exact ⟨by rw [HE.out]; rfl, B2.out⟩
      by_cases hf : 0 ≤ xf
      case neg =>
        have HE := Lib.hid (BAD.out (fun hh => hf hh.2.1))
        have hf' : decide (xf < 0) = true := by simp; omega
        have hz' : decide (xz < 1) = false := by simp; omega
        clear BAD NEXT JOIN hf hz
        go_wp2
        go_ret
        exact ⟨by rw [HE.out]; rfl, B2.out⟩
      by_cases ht : xf < xt ∨ xt = -1 ∧ k + 1 = n
      case neg =>
        have HE := Lib.hid (BAD.out (fun hh => ht hh.2.2))
        have hf' : decide (xf < 0) = false := by simp; omega
        have hz' : decide (xz < 1) = false := by simp; omega
        have ht1 : xt ≤ xf := by omega
        by_cases hm : xt = -1
        · have hm1 : (xt != -1) = false := by simp [hm]
          have hk4 : (k : Int) + 1 < (n : Int) := by omega
          clear BAD NEXT JOIN hf hz ht hm
          go_wp2
          go_ret
          exact ⟨by rw [HE.out]; rfl, B2.out⟩
        · have hm1 : (xt != -1) = true := by simp [hm]
          clear BAD NEXT JOIN hf hz ht hm
          go_wp2
          go_ret
          exact ⟨by rw [HE.out]; rfl, B2.out⟩
      have hf' : decide (xf < 0) = false := by simp; omega
      have hz' : decide (xz < 1) = false := by simp; omega
      have HT := Lib.hid ht
      have HZ := Lib.hid hz
      have HF := Lib.hid hf
      have key : (xt ≤ xf ∧ (xt != -1) = false ∧ ¬ (k : Int) + 1 < (n : Int)) ∨ ¬ xt ≤ xf := by
        rcases ht with ht | ⟨h1, h2⟩
        · exact .inr (by omega)
        · exact .inl ⟨by omega, by simp [h1], by omega⟩
      clear ht hz hf BAD
      by_cases hk0 : k = 0
      · have NX := Lib.hid (NEXT.out HZ.out HF.out HT.out (fun t h0 => by omega))
        subst hk0
        clear NEXT JOIN HT HZ HF
        rcases key with ⟨t1, t2, t3⟩ | t1
        all_goals
          go_wp2_with fail
          go_quiet (fail)
          go_wp2
          go_roundw
          case rel => exact ⟨1, by omega, rfl, NX, Lib.hid (below_drewN B2.out _)⟩
          case measure => simp [RowKit.intOf]; omega
      · obtain ⟨y, hy⟩ : ∃ y, S[k - 1]? = some y := ⟨_, List.getElem?_eq_getElem (by rw [HN.out]; omega)⟩
        obtain ⟨j, rfl⟩ : ∃ j, k = j + 1 := ⟨k - 1, by omega⟩
        rw [Nat.add_sub_cancel] at hy
        have y2 : w2.cell? ⟨b, o + j * 3 + 2, none⟩ = some (.int .i64 y.to) := by
          have hc := HC.out j y hy 2 (by decide)
          exact (HA.out.cell (p := ⟨b, o + j * 3 + 2, none⟩) (World.block_lt_of_cell? wr _ hc)).trans hc
        have q1 : IntKind.i64.wrap ((j : Int) + 1 - 1) = (j : Int) := by rw [show (j : Int) + 1 - 1 = j by omega]; exact IntWalk.i64_in _ (by omega)
        have q2 : IntKind.i64.wrap (j : Int) = (j : Int) := IntWalk.i64_in _ (by omega)
        have q4 : (0 : Int) < (j : Int) + 1 := by omega
        by_cases hj : y.to = xf
        · have NX := Lib.hid (NEXT.out HZ.out HF.out HT.out (fun t _ ht => by
            rw [Nat.add_sub_cancel, hy] at ht
            rw [← Option.some.inj ht]
            exact hj))
          have j1 : (y.to != xf) = false := by simp [hj]
          clear NEXT JOIN HT HZ HF hy hj hk0
          generalize y.to = yt at *
          rcases key with ⟨t1, t2, t3⟩ | t1
          all_goals
            go_wp2_with fail
            go_quiet (fail)
            clear q1 q2 q4
            go_wp2
            go_roundw
            case rel => exact ⟨j + 1 + 1, by omega, by go_num, NX, Lib.hid (below_drewN B2.out _)⟩
            case measure => simp [RowKit.intOf]; omega
        · have HE := Lib.hid (JOIN.out (by omega) y (by rw [Nat.add_sub_cancel]; exact hy) hj)
          have j1 : (y.to != xf) = true := by simp [hj]
          clear NEXT JOIN HT HZ HF hy hj hk0
          generalize y.to = yt at *
          rcases key with ⟨t1, t2, t3⟩ | t1
          all_goals
            go_wp2_with fail
            go_quiet (fail)
            clear q1 q2 q4
            go_wp2
            go_ret
            exact ⟨by rw [HE.out]; rfl, below_drewN B2.out _⟩
    · obtain rfl : k = n := by omega
      have HE := Lib.hid (okto_end (S := S) (by rw [HN.out]; exact HO.out))
      go_wp2
      go_ret
      exact ⟨by rw [HE.out]; rfl, HB.out⟩
end Sy
end Go.Proofs.YtkfmkchonlajpaaGreat

namespace Go.Proofs.YtkfmkchonlajpaaGreat
open Go.RowKit Go.Maps

namespace Sy
/-- May something be done now? -/
def mayR (S : List Sy) (now : Int) : Bool := rightB S && (decide (0 ≤ now) && (match S.getLast? with | none => true | some s => (decide (s.to = -1) && decide (s.frm ≤ now)) || decide (s.to = now)))
theorem mayR_iff {S : List Sy} {now : Int} : mayR S now = true ↔ May S now := by
  unfold mayR May
  rw [Bool.and_eq_true, Bool.and_eq_true, right_B, decide_eq_true_eq]
  refine and_congr_right fun _ => and_congr_right fun _ => ?_
  cases h : S.getLast? with
  | none => simp
  | some s => simp
theorem mayR_f {S : List Sy} {now : Int} (h : ¬ May S now) : mayR S now = false := by
  cases hb : mayR S now
  · rfl
  · exact absurd (mayR_iff.1 hb) h
set_option maxRecDepth 100000 in
set_option maxHeartbeats 4000000 in
theorem r9may_any (p : Option Addr) (n c : Nat) (S : List Sy) (now : Int) (w : World) (h : Rw 3 scells w p n S) (hn : n ≤ 1000000) :
    Calls Tryz.prog 82 #[.slice p n c, .int .i64 now] w fun e w' => e = .returned (.bool (mayR S now)) ∧ Below w.heap.size w w' := by
  have R := Lib.hid (r9right_any p n c S w h hn)
  have H := Lib.hid h
  have HN := Lib.hid h.1
  have hn' : (n : Int) ≤ 1000000 := by omega
  clear h
  by_cases hr : rightB S = true
  case neg =>
    have E : Hid (mayR S now = false) := Lib.hid (mayR_f fun hm => hr (right_B.2 hm.1))
    rw [show rightB S = false by simpa using hr] at R
    clear hr
    go_enter Tryz.func82, Tryz.ntmps82
    go_wp2_with fail
    refine R.out.mono ?_
    rintro e w1 ⟨rfl, hb⟩
    have B := Lib.hid hb
    clear hb R
    go_wp2
    go_ret
    exact ⟨by rw [E.out]; rfl, B.out⟩
  rw [hr] at R
  have HR := Lib.hid hr
  clear hr
  by_cases h0 : 0 ≤ now
  case neg =>
    have E : Hid (mayR S now = false) := Lib.hid (mayR_f fun hm => h0 hm.2.1)
    have h0' : decide (now < 0) = true := by simp; omega
    clear h0
    go_enter Tryz.func82, Tryz.ntmps82
    go_wp2_with fail
    refine R.out.mono ?_
    rintro e w1 ⟨rfl, hb⟩
    have B := Lib.hid hb
    clear hb R
    go_wp2
    go_ret
    exact ⟨by rw [E.out]; rfl, B.out⟩
  have h0' : decide (now < 0) = false := by simp; omega
  have H0 := Lib.hid h0
  clear h0
  by_cases hz : n = 0
  · subst hz
    have hS := List.eq_nil_of_length_eq_zero HN.out
    subst hS
    have E : Hid (mayR [] now = true) := Lib.hid (mayR_iff.2 ⟨right_nil, H0.out, fun s hs => by simp at hs⟩)
    go_enter Tryz.func82, Tryz.ntmps82
    go_wp2_with fail
    refine R.out.mono ?_
    rintro e w1 ⟨rfl, hb⟩
    have B := Lib.hid hb
    clear hb R
    go_wp2
    go_ret
    exact ⟨by rw [E.out]; rfl, B.out⟩
  obtain ⟨j, rfl⟩ : ∃ j, n = j + 1 := ⟨n - 1, by omega⟩
  obtain ⟨x, hx⟩ : ∃ x, S[j]? = some x := ⟨_, List.getElem?_eq_getElem (by rw [HN.out]; omega)⟩
  have hlast : S.getLast? = some x := by
    rw [List.getLast?_eq_getElem?, HN.out, Nat.add_sub_cancel]
    exact hx
  have E : Hid (mayR S now = ((decide (x.to = -1) && decide (x.frm ≤ now)) || decide (x.to = now))) := Lib.hid (by
    unfold mayR
    rw [HR.out, hlast, decide_eq_true H0.out]
    rfl)
  have HX := Lib.hid hx
  have EC := Lib.hid (fun (W : World) (hW : Below w.heap.size w W) => (H.out.keep scells_len hW).2 (by omega))
  obtain ⟨b, o, hp, hc0⟩ := H.out.2 (by omega)
  have EC2 := Lib.hid (fun (W : World) (hW : Below w.heap.size w W) i (hi : i < 3) => show W.cell? ⟨b, o + j * 3 + i, none⟩ = (scells x)[i]? by
    obtain ⟨b3, o3, e3, hc3⟩ := EC.out W hW
    rw [hp] at e3
    injection e3 with e3
    injection e3 with e4 e5
    subst e4 e5
    exact hc3 j x HX.out i hi)
  subst hp
  clear hz hx hlast hc0 EC H HX
  obtain ⟨xz, xf, xt⟩ := x
  simp only at E
  rw [E.out]
  clear E
  have hj : (j : Int) ≤ 1000000 := by omega
  have hj0 : (0 : Int) ≤ (j : Int) := by omega
  have hj1 : ((j : Int) + 1 == 0) = false := by rw [beq_eq_false_iff_ne]; omega
  clear hn hn'
  go_enter Tryz.func82, Tryz.ntmps82
  go_wp2_with fail
  refine R.out.mono ?_
  rintro e w1 ⟨rfl, hb⟩
  have B := Lib.hid hb
  have e0 : w1.cell? ⟨b, o + j * 3, none⟩ = some (.int .i64 xz) := EC2.out w1 hb 0 (by decide)
  have e1 : w1.cell? ⟨b, o + j * 3 + 1, none⟩ = some (.int .i64 xf) := EC2.out w1 hb 1 (by decide)
  have e2 : w1.cell? ⟨b, o + j * 3 + 2, none⟩ = some (.int .i64 xt) := EC2.out w1 hb 2 (by decide)
  clear hb R EC2
  go_upto_region 7 with fail
  have B2 := Lib.hid (B.out.alloc B.out.size (.cells #[.int .i64 xz, .int .i64 xf, .int .i64 xt] 71))
  by_cases t1 : xt = -1
  · have d1 : (xt == -1) = true := by simp [t1]
    by_cases t2 : xf ≤ now
    · have E2 : Hid (((decide (xt = -1) && decide (xf ≤ now)) || decide (xt = now)) = true) := Lib.hid (by simp [t1, t2])
      clear t1
      go_wp2
      go_ret
      exact ⟨by rw [E2.out]; rfl, B2.out⟩
    · have d2 : decide (xf ≤ now) = false := by simpa using t2
      have d3 : (xt == now) = false := by rw [beq_eq_false_iff_ne]; intro hh; have := H0.out; omega
      have E2 : Hid (((decide (xt = -1) && decide (xf ≤ now)) || decide (xt = now)) = false) := Lib.hid (by rw [d2, Bool.and_false, Bool.false_or]; simpa using d3)
      clear t1 t2
      go_wp2
      go_ret
      exact ⟨by rw [E2.out]; rfl, B2.out⟩
  · have d1 : (xt == -1) = false := by simp [t1]
    by_cases t3 : xt = now
    · have d3 : (xt == now) = true := by simp [t3]
      have E2 : Hid (((decide (xt = -1) && decide (xf ≤ now)) || decide (xt = now)) = true) := Lib.hid (by simp [t3])
      clear t1 t3
      go_wp2
      go_ret
      exact ⟨by rw [E2.out]; rfl, B2.out⟩
    · have d3 : (xt == now) = false := by simp [t3]
      have E2 : Hid (((decide (xt = -1) && decide (xf ≤ now)) || decide (xt = now)) = false) := Lib.hid (by simp [t1, t3])
      clear t1 t3
      go_wp2
      go_ret
      exact ⟨by rw [E2.out]; rfl, B2.out⟩
end Sy
end Go.Proofs.YtkfmkchonlajpaaGreat

namespace Go.Proofs.YtkfmkchonlajpaaGreat
open Go.RowKit Go.Maps

namespace Sy
theorem infoS9 : (Tryz.prog.info? 71).map (fun i => (i.zero, i.size, i.bytes)) = some (some (.agg #[.int .i64 0, .int .i64 0, .int .i64 0]), 3, 24) := by kernel_rfl
def stopS (now : Int) (s : Sy) : Sy := ⟨s.zone, s.frm, if s.to = -1 then now else s.to⟩
def longS (s : Sy) : Bool := decide (s.frm < s.to)
/-- Each one that goes on ends; those that have no minute are gone. -/
def untilR (S : List Sy) (now : Int) : List Sy := (S.map (stopS now)).filter longS
theorem untilR_snoc (A : List Sy) (s : Sy) (now : Int) : untilR (A ++ [s]) now = untilR A now ++ if longS (stopS now s) = true then [stopS now s] else [] := by
  unfold untilR
  rw [List.map_append, List.filter_append]
  congr 1
  simp only [List.map_cons, List.map_nil, List.filter_cons, List.filter_nil]
theorem untilR_len (S : List Sy) (now : Int) : (untilR S now).length ≤ S.length := by
  unfold untilR
  exact Nat.le_trans (List.length_filter_le _ _) (by simp)
theorem stop_not {now : Int} {s : Sy} (h : s.to ≠ -1) : stopS now s = s := by
  unfold stopS
  rw [if_neg h]
theorem untilR_shut {A : List Sy} (h : Shut A) (now : Int) : untilR A now = A := by
  have hm : ∀ s ∈ A, s.frm < s.to ∧ 0 ≤ s.frm := by
    intro s hs
    obtain ⟨i, hi⟩ := List.mem_iff_getElem?.1 hs
    exact ⟨(h i s hi).2.2.1, (h i s hi).2.1⟩
  unfold untilR
  have h1 : A.map (stopS now) = A := by
    conv => rhs; rw [← List.map_id A]
    refine List.map_congr_left fun s hs => ?_
    have := hm s hs
    rw [stop_not (by omega)]
    rfl
  rw [h1, List.filter_eq_self]
  intro s hs
  have := hm s hs
  simp only [longS, decide_eq_true_eq]
  omega
/-- Where something may be done now. -/
theorem untilR_may {S : List Sy} {now : Int} (h : May S now) : untilR S now = untilS S now := by
  rcases ends_of S with rfl | ⟨A, s, rfl⟩
  · rfl
  · obtain ⟨h1, h2, h3, h4, h5⟩ := right_snoc.1 h.1
    rw [untilR_snoc, untilR_shut h1]
    have h0 := h.2.1
    by_cases e : s.to = -1
    · have es : stopS now s = ⟨s.zone, s.frm, now⟩ := by unfold stopS; rw [if_pos e]
      rw [es]
      by_cases hn : s.frm < now
      · rw [until_cut e hn, if_pos (by simpa [longS] using hn)]
      · rw [until_drop e hn, if_neg (by simpa [longS] using hn), List.append_nil]
    · rw [until_shut e, stop_not e, if_pos (by
        rcases h4 with h4 | h4
        · simpa [longS] using h4
        · exact absurd h4 e)]
theorem takeS {S : List Sy} {k : Nat} {x : Sy} (hx : S[k]? = some x) : S.take (k + 1) = S.take k ++ [x] := by rw [List.take_add_one, hx]; rfl
set_option maxRecDepth 100000 in
set_option maxHeartbeats 8000000 in
theorem r9until_any (p : Option Addr) (n c : Nat) (S : List Sy) (now : Int) (w : World) (h : Rw 3 scells w p n S) (hn : n ≤ 1000000) :
    Calls Tryz.prog 83 #[.slice p n c, .int .i64 now] w (UptoEnd (untilR S now) w) := by
  obtain ⟨i0, hi, hz0, hz1, hz2⟩ := info_parts infoS9
  have H := Lib.hid h
  have HN := Lib.hid h.1
  have hn' : (n : Int) ≤ 1000000 := by omega
  clear h
  go_enter Tryz.func83, Tryz.ntmps83
  go_wp2
  go_loopw [5, 6] (fun v i wr => ∃ (k f : Nat), k ≤ n ∧ f ≤ k ∧ i = .int .i64 k ∧ (∃ q d, v = .slice q f d) ∧ Hid ((untilR (S.take k) now).length = f) ∧ Hid (wr.ownsRow w.heap.size 71 3 v f ((untilR (S.take k) now).flatMap scells)) ∧ Hid (Below w.heap.size w wr)) (fun _ i _ => n - (RowKit.intOf i).toNat)
  case atStart => exact ⟨0, 0, Nat.zero_le _, Nat.le_refl _, rfl, ⟨none, 0, rfl⟩, Lib.hid rfl, Lib.hid (World.ownsRow_nil _ _ _ _), Lib.hid (Below.refl _ _)⟩
  case round =>
    obtain ⟨k, f, hk, hf, rfl, ⟨q, d, rfl⟩, HF, RO, HB⟩ := hrel
    by_cases hlt : k < n
    · have hk3 : (k : Int) < (n : Int) := by omega
      have HR := H.out.keep scells_len HB.out
      obtain ⟨b, o, rfl, hc⟩ := HR.2 (by omega)
      obtain ⟨x, hx⟩ : ∃ x, S[k]? = some x := ⟨_, List.getElem?_eq_getElem (by rw [HN.out]; exact hlt)⟩
      have e0 : wr.cell? ⟨b, o + k * 3, none⟩ = some (.int .i64 x.zone) := hc k x hx 0 (by decide)
      have e1 : wr.cell? ⟨b, o + k * 3 + 1, none⟩ = some (.int .i64 x.frm) := hc k x hx 1 (by decide)
      have e2 : wr.cell? ⟨b, o + k * 3 + 2, none⟩ = some (.int .i64 x.to) := hc k x hx 2 (by decide)
      have TK := Lib.hid (show untilR (S.take (k + 1)) now = untilR (S.take k) now ++ if longS (stopS now x) = true then [stopS now x] else [] by rw [takeS hx, untilR_snoc])
      have hsz := HB.out.size
      clear hc hx HR
      generalize untilR (S.take k) now = U at *
      obtain ⟨xz, xf, xt⟩ := x
      simp only at e0 e1 e2
      obtain ⟨t, ht, hT⟩ : ∃ t, (xt = -1 ∧ now = t ∨ xt ≠ -1 ∧ xt = t) ∧ stopS now ⟨xz, xf, xt⟩ = ⟨xz, xf, t⟩ := by
        by_cases e : xt = -1
        · exact ⟨now, .inl ⟨e, rfl⟩, by unfold stopS; simp [e]⟩
        · exact ⟨xt, .inr ⟨e, rfl⟩, by unfold stopS; simp [e]⟩
      rw [hT] at TK
      clear hT
      have B2 := Lib.hid (HB.out.alloc hsz (.cells #[.int .i64 xz, .int .i64 xf, .int .i64 t] 71))
      have X2 := Lib.hid (Lies.new wr 71 #[.int .i64 xz, .int .i64 xf, .int .i64 t])
      have O2 := Lib.hid (RO.out.alloc (.cells #[.int .i64 xz, .int .i64 xf, .int .i64 t] 71))
      obtain ⟨w2, hw2⟩ : ∃ w2, wr.alloc (.cells #[.int .i64 xz, .int .i64 xf, .int .i64 t] 71) = w2 := ⟨_, rfl⟩
      rw [hw2] at B2 X2 O2
      have HW2 := Lib.hid hw2
      clear hw2
      have x0 : w2.cell? ⟨wr.heap.size, 0, none⟩ = some (.int .i64 xz) := X2.out.cell 0
      have x1 : w2.cell? ⟨wr.heap.size, 1, none⟩ = some (.int .i64 xf) := X2.out.cell 1
      have x2 : w2.cell? ⟨wr.heap.size, 2, none⟩ = some (.int .i64 t) := X2.out.cell 2
      have hs2 := B2.out.size
      rcases ht with ⟨e, e'⟩ | ⟨e, e'⟩
      · subst e'
        have d1 : (xt == -1) = true := by simp [e]
        clear e
        go_upto_region 8 with fail
        rw [HW2.out]
        clear d1
        by_cases hl : xf < now
        · have TL : Hid (untilR (S.take (k + 1)) now = U ++ [⟨xz, xf, now⟩]) := Lib.hid (by rw [TK.out, if_pos (by simpa [longS] using hl)])
          go_wp2_with (at_builtin; refine wpList_append_own _ rfl _ _ 48 rfl w.heap.size 71 i0 _ 3 24 Tryz.underlying48 hi hz0 hz1 hz2 rfl (by decide) _ _ _ rfl (O2.out.alloc _) ⟨w2.heap.size, 0, none⟩ 1 1 [.int .i64 xz, .int .i64 xf, .int .i64 now] rfl rfl (World.news_of_block (cs := #[.int .i64 xz, .int .i64 xf, .int .i64 now]) (t := 71) (fr := (0, 0)) (heap_alloc_new w2 _)) (by simp [Value.oneCell']) (by unfold maxLen; omega) (by omega) (by simp; omega) ?_; intro v5 w5 hown5 hg5 _; have B5 := Lib.hid ((B2.out.alloc hs2 (.cells #[.int .i64 xz, .int .i64 xf, .int .i64 now] 71)).grown hg5 (Nat.le_trans hs2 (size_alloc _ _)) (fun i hi => (own_lt O2.out hi).1)))
          obtain ⟨q5, d5, rfl⟩ := own_slice hown5
          have O5 := Lib.hid hown5
          clear hown5 hg5
          go_wp2
          go_roundw
          case rel => exact ⟨k + 1, f + 1, by omega, by omega, by go_num, ⟨_, _, rfl⟩, Lib.hid (by rw [TL.out]; have := HF.out; simp [this]), Lib.hid (by
            rw [TL.out, ← flat_snoc]
            exact O5.out), B5⟩
          case measure => simp [RowKit.intOf]; omega
        · have TL : Hid (untilR (S.take (k + 1)) now = U) := Lib.hid (by rw [TK.out, if_neg (by simpa [longS] using hl), List.append_nil])
          have hl' : decide (xf < now) = false := by simpa using hl
          clear hl
          go_wp2
          go_roundw
          case rel => exact ⟨k + 1, f, by omega, by omega, by go_num, ⟨_, _, rfl⟩, Lib.hid (by rw [TL.out]; exact HF.out), Lib.hid (by
            rw [TL.out]
            exact O2.out), B2⟩
          case measure => simp [RowKit.intOf]; omega
      · subst e'
        have d1 : (xt == -1) = false := by simp [e]
        clear e
        go_upto_region 8 with fail
        rw [HW2.out]
        clear d1
        by_cases hl : xf < xt
        · have TL : Hid (untilR (S.take (k + 1)) now = U ++ [⟨xz, xf, xt⟩]) := Lib.hid (by rw [TK.out, if_pos (by simpa [longS] using hl)])
          go_wp2_with (at_builtin; refine wpList_append_own _ rfl _ _ 48 rfl w.heap.size 71 i0 _ 3 24 Tryz.underlying48 hi hz0 hz1 hz2 rfl (by decide) _ _ _ rfl (O2.out.alloc _) ⟨w2.heap.size, 0, none⟩ 1 1 [.int .i64 xz, .int .i64 xf, .int .i64 xt] rfl rfl (World.news_of_block (cs := #[.int .i64 xz, .int .i64 xf, .int .i64 xt]) (t := 71) (fr := (0, 0)) (heap_alloc_new w2 _)) (by simp [Value.oneCell']) (by unfold maxLen; omega) (by omega) (by simp; omega) ?_; intro v5 w5 hown5 hg5 _; have B5 := Lib.hid ((B2.out.alloc hs2 (.cells #[.int .i64 xz, .int .i64 xf, .int .i64 xt] 71)).grown hg5 (Nat.le_trans hs2 (size_alloc _ _)) (fun i hi => (own_lt O2.out hi).1)))
          obtain ⟨q5, d5, rfl⟩ := own_slice hown5
          have O5 := Lib.hid hown5
          clear hown5 hg5
          go_wp2
          go_roundw
          case rel => exact ⟨k + 1, f + 1, by omega, by omega, by go_num, ⟨_, _, rfl⟩, Lib.hid (by rw [TL.out]; have := HF.out; simp [this]), Lib.hid (by
            rw [TL.out, ← flat_snoc]
            exact O5.out), B5⟩
          case measure => simp [RowKit.intOf]; omega
        · have TL : Hid (untilR (S.take (k + 1)) now = U) := Lib.hid (by rw [TK.out, if_neg (by simpa [longS] using hl), List.append_nil])
          have hl' : decide (xf < xt) = false := by simpa using hl
          clear hl
          go_wp2
          go_roundw
          case rel => exact ⟨k + 1, f, by omega, by omega, by go_num, ⟨_, _, rfl⟩, Lib.hid (by rw [TL.out]; exact HF.out), Lib.hid (by
            rw [TL.out]
            exact O2.out), B2⟩
          case measure => simp [RowKit.intOf]; omega
    · obtain rfl : k = n := by omega
      have HE : Hid (S.take k = S) := Lib.hid (List.take_of_length_le (by rw [HN.out]; exact Nat.le_refl _))
      go_wp2
      go_ret
      refine ⟨.slice q f d, rfl, ?_, HB.out⟩
      have := RO.out
      have hf2 := HF.out
      rw [HE.out] at this hf2
      rw [hf2]
      exact this
end Sy
end Go.Proofs.YtkfmkchonlajpaaGreat
