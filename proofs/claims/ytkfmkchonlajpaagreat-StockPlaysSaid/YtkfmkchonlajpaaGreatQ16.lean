/- Walks over package stock: Move. No condition but those written. Walks over package stock: Put, Give, Given, Lot. No condition but those written. slices.Sorted, slices.Sort and maps.Keys over this program: the shelf's laying, by its own tool; no condition but those written. slices.Sorted(maps.Keys(m)) at package master's maps: the numbers of what there is, in order. No condition but those written. Walks over package stock: all lots, in order (slices.Sorted of a map's keys). No condition but those written. -/
import Derived.Test.YtkfmkchonlajpaaGreatQ15
import Derived.Shelf.SlIterI.Nil
import Derived.Shelf.SortM.Plain
import Derived.Shelf.SortM.SortNone
import Derived.Ground.GgzProg
import Derived.Ground.SlgmProg
import Derived.Test.YtkfmkchonlajpaaGreatProg
import Derived.Test.YtkfmkchonlajpaaGreatQ03
namespace Go.Proofs.YtkfmkchonlajpaaGreat
open Go.RowKit Go.Maps

namespace Lo
set_option maxRecDepth 100000 in
set_option maxHeartbeats 8000000 in
theorem pmove_none (B h Bm hm : Nat) (Fm : Nat → Prop) (M : Ms.Face) (mo : Option Nat) (given : Int) (L : List Lv) (Z : List Ms.Zn) (P : List Ms.Pd) (id zone now : Int) (w : World) (hp : PL w B h mo given L) (hM : M.DB w Bm hm Fm Z P) (hG : Good (lts L, given)) (hi1 : I64 id) (hz1 : I64 zone) (hno : at_ id (lts L) = none ∨ Ms.findK Ms.Zn.id zone Z = none) :
    Calls Tryz.prog 23 #[.pointer (some ⟨h, 0, none⟩), .pointer (some ⟨hm, 0, none⟩), .int .i64 id, .int .i64 zone, .int .i64 now] w fun e w' => e = .returned (.int .i64 5) ∧ LeftL w B h mo L (lts L, given) w' := by
  have HE := Lib.hid (fun W (hW : Below w.heap.size w W) => leftL_same hp hW)
  cases ha : at_ id (lts L) with
  | none =>
    have C := Lib.hid (plot_no hp hi1 ha)
    clear ha hp hG hno hM
    simp only [rval, lr0] at C
    go_enter Tryz.func23, Tryz.ntmps23
    go_wp2_with fail
    refine C.out.mono ?_
    rintro e w1 ⟨rfl, hb⟩
    have B2 := Lib.hid (hb.alloc hb.size (.cells #[.int .i64 0, .int .i64 0, .int .i64 0, .int .i64 0, .int .i64 0, .int .i64 0, .int .i64 0, .slice none 0 0] 50))
    clear hb
    go_wp2
    go_ret
    exact ⟨rfl, HE.out _ B2.out⟩
  | some i =>
    have hz : Ms.findK Ms.Zn.id zone Z = none := hno.resolve_left (by rw [ha]; simp)
    obtain ⟨y, hy, hyx⟩ := at_of ha
    have C1 := Lib.hid (fun W (hW : Below w.heap.size w W) => plot_yes (hp.keep hW) hi1 ha hy)
    have CF := Lib.hid (fun W (hW : Below w.heap.size w W) => pfind_any M Bm hm Fm Z P zone W (M.keep hM hW) hz1)
    have H0 := lot_here hp hG hy
    have CW := Lib.hid (fun W (hW : Below w.heap.size w W) => pwhere_any y W (H0.1.keep hW) H0.2.1)
    rw [hz] at CF
    clear ha hp hG hno hM hz hy hyx H0
    simp only [Option.getD_none, Option.isSome_none, Ms.zval, Ms.zn0] at CF
    generalize inL y.x = zi at *
    obtain ⟨⟨i1, i2, i3, i4, i5, i6, i7, S⟩, p, n, c⟩ := y
    simp only [lval] at C1 CW
    go_enter Tryz.func23, Tryz.ntmps23
    go_wp2_with fail
    refine (C1.out _ (Below.refl _ _)).mono ?_
    rintro e w1 ⟨rfl, hb⟩
    have B2 := Lib.hid (hb.alloc hb.size (.cells #[.int .i64 i1, .int .i64 i2, .int .i64 i3, .int .i64 i4, .int .i64 i5, .int .i64 i6, .int .i64 i7, .slice p n c] 50))
    have X2 := Lib.hid (Lies.new w1 50 #[.int .i64 i1, .int .i64 i2, .int .i64 i3, .int .i64 i4, .int .i64 i5, .int .i64 i6, .int .i64 i7, .slice p n c])
    clear hb
    go_upto_region 4 with fail
    generalize w1.alloc (.cells #[.int .i64 i1, .int .i64 i2, .int .i64 i3, .int .i64 i4, .int .i64 i5, .int .i64 i6, .int .i64 i7, .slice p n c] 50) = w2 at *
    go_wp2_with fail
    refine (CF.out _ B2.out).mono ?_
    rintro e w3 ⟨rfl, hb⟩
    have B3 := Lib.hid (B2.out.trans (hb.mono B2.out.size))
    have X3 := Lib.hid (X2.out.below hb X2.out.lt)
    have B4 := Lib.hid (B3.out.alloc B3.out.size (.cells #[.int .i64 0, .int .i64 0, .int .i64 0, .int .i64 0, .bool false, .int .i64 0] 61))
    have X4 := Lib.hid (X3.out.alloc (.cells #[.int .i64 0, .int .i64 0, .int .i64 0, .int .i64 0, .bool false, .int .i64 0] 61))
    clear hb X2 X3
    go_upto_region 5 with fail
    generalize w3.alloc (.cells #[.int .i64 0, .int .i64 0, .int .i64 0, .int .i64 0, .bool false, .int .i64 0] 61) = w4 at *
    have x0 : w4.cell? ⟨w1.heap.size, 0, none⟩ = some (.int .i64 i1) := X4.out.cell 0
    have x1 : w4.cell? ⟨w1.heap.size, 1, none⟩ = some (.int .i64 i2) := X4.out.cell 1
    have x2 : w4.cell? ⟨w1.heap.size, 2, none⟩ = some (.int .i64 i3) := X4.out.cell 2
    have x3 : w4.cell? ⟨w1.heap.size, 3, none⟩ = some (.int .i64 i4) := X4.out.cell 3
    have x4 : w4.cell? ⟨w1.heap.size, 4, none⟩ = some (.int .i64 i5) := X4.out.cell 4
    have x5 : w4.cell? ⟨w1.heap.size, 5, none⟩ = some (.int .i64 i6) := X4.out.cell 5
    have x6 : w4.cell? ⟨w1.heap.size, 6, none⟩ = some (.int .i64 i7) := X4.out.cell 6
    have x7 : w4.cell? ⟨w1.heap.size, 7, none⟩ = some (.slice p n c) := X4.out.cell 7
    go_wp2_with fail
    refine (CW.out _ B4.out).mono ?_
    rintro e w5 ⟨rfl, hb⟩
    have B5 := Lib.hid (B4.out.trans (hb.mono B4.out.size))
    go_wp2
    go_ret
    exact ⟨rfl, HE.out _ B5.out⟩
set_option maxRecDepth 100000 in
set_option maxHeartbeats 16000000 in
theorem pmove_some (B h Bm hm : Nat) (Fm : Nat → Prop) (M : Ms.Face) (mo : Option Nat) (given : Int) (L : List Lv) (Z : List Ms.Zn) (P : List Ms.Pd) (id zone now : Int) (w : World) (hp : PL w B h mo given L) (hM : M.DB w Bm hm Fm Z P) (hG : Good (lts L, given)) (hi1 : I64 id) (hz1 : I64 zone) (hZ : Ms.GoodZ Z) (i : Nat) (y : Lv) (zz : Ms.Zn) (ha : at_ id (lts L) = some i) (hy : L[i]? = some y) (hyx : (lts L)[i]? = some y.x) (hz : Ms.findK Ms.Zn.id zone Z = some zz) :
    Calls Tryz.prog 23 #[.pointer (some ⟨h, 0, none⟩), .pointer (some ⟨hm, 0, none⟩), .int .i64 id, .int .i64 zone, .int .i64 now] w fun e w' => e = .returned (.int .i64 ((moveS Z (lts L, given) id zone now).1 : Nat)) ∧ LeftL w B h mo L (moveS Z (lts L, given) id zone now).2 w' := by
  have HE := Lib.hid (fun W (hW : Below w.heap.size w W) => leftL_same hp hW)
  rw [move_some (s := (lts L, given)) ha hyx hz]
  have C1 := Lib.hid (fun W (hW : Below w.heap.size w W) => plot_yes (hp.keep hW) hi1 ha hy)
  have CF := Lib.hid (fun W (hW : Below w.heap.size w W) => pfind_any M Bm hm Fm Z P zone W (M.keep hM hW) hz1)
  have H0 := lot_here hp hG hy
  have CW := Lib.hid (fun W (hW : Below w.heap.size w W) => pwhere_any y W (H0.1.keep hW) H0.2.1)
  have hzid := (Ms.find_some hz).2
  have hzr := Ms.rightZ_id (hZ.right zz (Ms.find_some hz).1)
  rw [hzid] at hzr
  have CR := Lib.hid (fun W (hW : Below w.heap.size w W) => proom_any B h mo given L zz y.x.units W (hp.keep hW) hG (by have := H0.2.2.2.2; omega))
  have KP := Lib.hid (fun w1 y' s' => pkeep_at (y' := y') (s' := s') (w1 := w1) hp hG hy)
  rw [hz] at CF
  rw [hzid] at CR
  simp only [Option.getD_some, Option.isSome_some] at CF
  by_cases h1 : inL y.x = 0
  · rw [if_pos h1]
    rw [h1] at CW
    clear ha hp hG hM hz hy hyx H0 hzid hzr hZ CR KP h1
    obtain ⟨za, zb, zc, zd, ze, zf⟩ := zz
    obtain ⟨⟨i1, i2, i3, i4, i5, i6, i7, S⟩, p, n, c⟩ := y
    simp only [lval, Ms.zval] at C1 CW CF
    go_enter Tryz.func23, Tryz.ntmps23
    go_wp2_with fail
    refine (C1.out _ (Below.refl _ _)).mono ?_
    rintro e w1 ⟨rfl, hb⟩
    have B2 := Lib.hid (hb.alloc hb.size (.cells #[.int .i64 i1, .int .i64 i2, .int .i64 i3, .int .i64 i4, .int .i64 i5, .int .i64 i6, .int .i64 i7, .slice p n c] 50))
    have X2 := Lib.hid (Lies.new w1 50 #[.int .i64 i1, .int .i64 i2, .int .i64 i3, .int .i64 i4, .int .i64 i5, .int .i64 i6, .int .i64 i7, .slice p n c])
    clear hb
    go_upto_region 4 with fail
    generalize w1.alloc (.cells #[.int .i64 i1, .int .i64 i2, .int .i64 i3, .int .i64 i4, .int .i64 i5, .int .i64 i6, .int .i64 i7, .slice p n c] 50) = w2 at *
    go_wp2_with fail
    refine (CF.out _ B2.out).mono ?_
    rintro e w3 ⟨rfl, hb⟩
    have B3 := Lib.hid (B2.out.trans (hb.mono B2.out.size))
    have X3 := Lib.hid (X2.out.below hb X2.out.lt)
    have B4 := Lib.hid (B3.out.alloc B3.out.size (.cells #[.int .i64 za, .int .i64 zb, .int .i64 zc, .int .i64 zd, .bool ze, .int .i64 zf] 61))
    have X4 := Lib.hid (X3.out.alloc (.cells #[.int .i64 za, .int .i64 zb, .int .i64 zc, .int .i64 zd, .bool ze, .int .i64 zf] 61))
    clear hb X2 X3
    go_upto_region 5 with fail
    generalize w3.alloc (.cells #[.int .i64 za, .int .i64 zb, .int .i64 zc, .int .i64 zd, .bool ze, .int .i64 zf] 61) = w4 at *
    have x0 : w4.cell? ⟨w1.heap.size, 0, none⟩ = some (.int .i64 i1) := X4.out.cell 0
    have x1 : w4.cell? ⟨w1.heap.size, 1, none⟩ = some (.int .i64 i2) := X4.out.cell 1
    have x2 : w4.cell? ⟨w1.heap.size, 2, none⟩ = some (.int .i64 i3) := X4.out.cell 2
    have x3 : w4.cell? ⟨w1.heap.size, 3, none⟩ = some (.int .i64 i4) := X4.out.cell 3
    have x4 : w4.cell? ⟨w1.heap.size, 4, none⟩ = some (.int .i64 i5) := X4.out.cell 4
    have x5 : w4.cell? ⟨w1.heap.size, 5, none⟩ = some (.int .i64 i6) := X4.out.cell 5
    have x6 : w4.cell? ⟨w1.heap.size, 6, none⟩ = some (.int .i64 i7) := X4.out.cell 6
    have x7 : w4.cell? ⟨w1.heap.size, 7, none⟩ = some (.slice p n c) := X4.out.cell 7
    go_wp2_with fail
    refine (CW.out _ B4.out).mono ?_
    rintro e w5 ⟨rfl, hb⟩
    have B5 := Lib.hid (B4.out.trans (hb.mono B4.out.size))
    go_wp2
    go_ret
    exact ⟨rfl, HE.out _ B5.out⟩
  rw [if_neg h1]
  have h1' : (inL y.x == 0) = false := by simp [h1]
  by_cases h2 : inL y.x = zone
  · rw [if_pos h2]
    have h2' : (inL y.x == zone) = true := by simp [h2]
    generalize inL y.x = zi at *
    clear ha hp hG hM hz hy hyx H0 hzid hzr hZ CR KP h1 h2
    obtain ⟨za, zb, zc, zd, ze, zf⟩ := zz
    obtain ⟨⟨i1, i2, i3, i4, i5, i6, i7, S⟩, p, n, c⟩ := y
    simp only [lval, Ms.zval] at C1 CW CF
    go_enter Tryz.func23, Tryz.ntmps23
    go_wp2_with fail
    refine (C1.out _ (Below.refl _ _)).mono ?_
    rintro e w1 ⟨rfl, hb⟩
    have B2 := Lib.hid (hb.alloc hb.size (.cells #[.int .i64 i1, .int .i64 i2, .int .i64 i3, .int .i64 i4, .int .i64 i5, .int .i64 i6, .int .i64 i7, .slice p n c] 50))
    have X2 := Lib.hid (Lies.new w1 50 #[.int .i64 i1, .int .i64 i2, .int .i64 i3, .int .i64 i4, .int .i64 i5, .int .i64 i6, .int .i64 i7, .slice p n c])
    clear hb
    go_upto_region 4 with fail
    generalize w1.alloc (.cells #[.int .i64 i1, .int .i64 i2, .int .i64 i3, .int .i64 i4, .int .i64 i5, .int .i64 i6, .int .i64 i7, .slice p n c] 50) = w2 at *
    go_wp2_with fail
    refine (CF.out _ B2.out).mono ?_
    rintro e w3 ⟨rfl, hb⟩
    have B3 := Lib.hid (B2.out.trans (hb.mono B2.out.size))
    have X3 := Lib.hid (X2.out.below hb X2.out.lt)
    have B4 := Lib.hid (B3.out.alloc B3.out.size (.cells #[.int .i64 za, .int .i64 zb, .int .i64 zc, .int .i64 zd, .bool ze, .int .i64 zf] 61))
    have X4 := Lib.hid (X3.out.alloc (.cells #[.int .i64 za, .int .i64 zb, .int .i64 zc, .int .i64 zd, .bool ze, .int .i64 zf] 61))
    clear hb X2 X3
    go_upto_region 5 with fail
    generalize w3.alloc (.cells #[.int .i64 za, .int .i64 zb, .int .i64 zc, .int .i64 zd, .bool ze, .int .i64 zf] 61) = w4 at *
    have x0 : w4.cell? ⟨w1.heap.size, 0, none⟩ = some (.int .i64 i1) := X4.out.cell 0
    have x1 : w4.cell? ⟨w1.heap.size, 1, none⟩ = some (.int .i64 i2) := X4.out.cell 1
    have x2 : w4.cell? ⟨w1.heap.size, 2, none⟩ = some (.int .i64 i3) := X4.out.cell 2
    have x3 : w4.cell? ⟨w1.heap.size, 3, none⟩ = some (.int .i64 i4) := X4.out.cell 3
    have x4 : w4.cell? ⟨w1.heap.size, 4, none⟩ = some (.int .i64 i5) := X4.out.cell 4
    have x5 : w4.cell? ⟨w1.heap.size, 5, none⟩ = some (.int .i64 i6) := X4.out.cell 5
    have x6 : w4.cell? ⟨w1.heap.size, 6, none⟩ = some (.int .i64 i7) := X4.out.cell 6
    have x7 : w4.cell? ⟨w1.heap.size, 7, none⟩ = some (.slice p n c) := X4.out.cell 7
    go_wp2_with fail
    refine (CW.out _ B4.out).mono ?_
    rintro e w5 ⟨rfl, hb⟩
    have B5 := Lib.hid (B4.out.trans (hb.mono B4.out.size))
    go_wp2
    go_ret
    exact ⟨rfl, HE.out _ B5.out⟩
  rw [if_neg h2]
  have h2' : (inL y.x == zone) = false := by simp [h2]
  generalize inL y.x = zi at *
  simp only at CR ⊢
  generalize loadL (lts L) zone = ld at *
  by_cases h3 : zz.room < ld + y.x.units
  · rw [if_pos h3]
    have h3' : decide (ld + y.x.units ≤ zz.room) = false := by simp; omega
    rw [h3'] at CR
    clear ha hp hG hM hz hy hyx H0 hzid hzr hZ KP h1 h2 h3 h3'
    obtain ⟨za, zb, zc, zd, ze, zf⟩ := zz
    obtain ⟨⟨i1, i2, i3, i4, i5, i6, i7, S⟩, p, n, c⟩ := y
    simp only [lval, Ms.zval] at C1 CW CF CR
    go_enter Tryz.func23, Tryz.ntmps23
    go_wp2_with fail
    refine (C1.out _ (Below.refl _ _)).mono ?_
    rintro e w1 ⟨rfl, hb⟩
    have B2 := Lib.hid (hb.alloc hb.size (.cells #[.int .i64 i1, .int .i64 i2, .int .i64 i3, .int .i64 i4, .int .i64 i5, .int .i64 i6, .int .i64 i7, .slice p n c] 50))
    have X2 := Lib.hid (Lies.new w1 50 #[.int .i64 i1, .int .i64 i2, .int .i64 i3, .int .i64 i4, .int .i64 i5, .int .i64 i6, .int .i64 i7, .slice p n c])
    have HW := Lib.hid hb.size
    clear hb
    go_upto_region 4 with fail
    generalize w1.alloc (.cells #[.int .i64 i1, .int .i64 i2, .int .i64 i3, .int .i64 i4, .int .i64 i5, .int .i64 i6, .int .i64 i7, .slice p n c] 50) = w2 at *
    go_wp2_with fail
    refine (CF.out _ B2.out).mono ?_
    rintro e w3 ⟨rfl, hb⟩
    have B3 := Lib.hid (B2.out.trans (hb.mono B2.out.size))
    have X3 := Lib.hid (X2.out.below hb X2.out.lt)
    have B4 := Lib.hid (B3.out.alloc B3.out.size (.cells #[.int .i64 za, .int .i64 zb, .int .i64 zc, .int .i64 zd, .bool ze, .int .i64 zf] 61))
    have X4 := Lib.hid (X3.out.alloc (.cells #[.int .i64 za, .int .i64 zb, .int .i64 zc, .int .i64 zd, .bool ze, .int .i64 zf] 61))
    have Y4 := Lib.hid (Lies.new w3 61 #[.int .i64 za, .int .i64 zb, .int .i64 zc, .int .i64 zd, .bool ze, .int .i64 zf])
    clear hb X2 X3
    go_upto_region 5 with fail
    generalize w3.alloc (.cells #[.int .i64 za, .int .i64 zb, .int .i64 zc, .int .i64 zd, .bool ze, .int .i64 zf] 61) = w4 at *
    have x0 : w4.cell? ⟨w1.heap.size, 0, none⟩ = some (.int .i64 i1) := X4.out.cell 0
    have x1 : w4.cell? ⟨w1.heap.size, 1, none⟩ = some (.int .i64 i2) := X4.out.cell 1
    have x2 : w4.cell? ⟨w1.heap.size, 2, none⟩ = some (.int .i64 i3) := X4.out.cell 2
    have x3 : w4.cell? ⟨w1.heap.size, 3, none⟩ = some (.int .i64 i4) := X4.out.cell 3
    have x4 : w4.cell? ⟨w1.heap.size, 4, none⟩ = some (.int .i64 i5) := X4.out.cell 4
    have x5 : w4.cell? ⟨w1.heap.size, 5, none⟩ = some (.int .i64 i6) := X4.out.cell 5
    have x6 : w4.cell? ⟨w1.heap.size, 6, none⟩ = some (.int .i64 i7) := X4.out.cell 6
    have x7 : w4.cell? ⟨w1.heap.size, 7, none⟩ = some (.slice p n c) := X4.out.cell 7
    go_wp2_with fail
    refine (CW.out _ B4.out).mono ?_
    rintro e w5 ⟨rfl, hb⟩
    have B5 := Lib.hid (B4.out.trans (hb.mono B4.out.size))
    have X5 := Lib.hid (X4.out.below hb X4.out.lt)
    have Y5 := Lib.hid (Y4.out.below hb Y4.out.lt)
    clear hb x0 x1 x2 x3 x4 x5 x6 x7 X4 Y4
    have x2 : w5.cell? ⟨w1.heap.size, 2, none⟩ = some (.int .i64 i3) := X5.out.cell 2
    have y0 : w5.cell? ⟨w3.heap.size, 0, none⟩ = some (.int .i64 za) := Y5.out.cell 0
    have y1 : w5.cell? ⟨w3.heap.size, 1, none⟩ = some (.int .i64 zb) := Y5.out.cell 1
    have y2 : w5.cell? ⟨w3.heap.size, 2, none⟩ = some (.int .i64 zc) := Y5.out.cell 2
    have y3 : w5.cell? ⟨w3.heap.size, 3, none⟩ = some (.int .i64 zd) := Y5.out.cell 3
    have y4 : w5.cell? ⟨w3.heap.size, 4, none⟩ = some (.bool ze) := Y5.out.cell 4
    have y5 : w5.cell? ⟨w3.heap.size, 5, none⟩ = some (.int .i64 zf) := Y5.out.cell 5
    go_wp2_with fail
    refine (CR.out _ B5.out).mono ?_
    rintro e w6 ⟨rfl, hb⟩
    have B6 := Lib.hid (B5.out.trans (hb.mono B5.out.size))
    clear hb
    go_wp2
    go_ret
    exact ⟨rfl, HE.out _ B6.out⟩
  rw [if_neg h3]
  have h3' : decide (ld + y.x.units ≤ zz.room) = true := by simp; omega
  rw [h3'] at CR
  have ST := Lib.hid H0.1
  by_cases h4 : Sy.May y.x.stays now
  case neg =>
    rw [if_neg (fun h => h4 h.1)]
    have CT := Lib.hid (fun W (hW : Below w.heap.size w W) => Sy.sface.enter_no y.p y.n y.c y.x.stays zone now W (ST.out.keep hW).1 H0.2.1 (fun h => h4 h.1))
    clear ha hp hG hM hz hy hyx H0 hzid hzr hZ KP h1 h2 h3 h3' h4
    obtain ⟨za, zb, zc, zd, ze, zf⟩ := zz
    obtain ⟨⟨i1, i2, i3, i4, i5, i6, i7, S⟩, p, n, c⟩ := y
    simp only [lval, Ms.zval] at C1 CW CF CR
    go_enter Tryz.func23, Tryz.ntmps23
    go_wp2_with fail
    refine (C1.out _ (Below.refl _ _)).mono ?_
    rintro e w1 ⟨rfl, hb⟩
    have B2 := Lib.hid (hb.alloc hb.size (.cells #[.int .i64 i1, .int .i64 i2, .int .i64 i3, .int .i64 i4, .int .i64 i5, .int .i64 i6, .int .i64 i7, .slice p n c] 50))
    have X2 := Lib.hid (Lies.new w1 50 #[.int .i64 i1, .int .i64 i2, .int .i64 i3, .int .i64 i4, .int .i64 i5, .int .i64 i6, .int .i64 i7, .slice p n c])
    have HW := Lib.hid hb.size
    clear hb
    go_upto_region 4 with fail
    generalize w1.alloc (.cells #[.int .i64 i1, .int .i64 i2, .int .i64 i3, .int .i64 i4, .int .i64 i5, .int .i64 i6, .int .i64 i7, .slice p n c] 50) = w2 at *
    go_wp2_with fail
    refine (CF.out _ B2.out).mono ?_
    rintro e w3 ⟨rfl, hb⟩
    have B3 := Lib.hid (B2.out.trans (hb.mono B2.out.size))
    have X3 := Lib.hid (X2.out.below hb X2.out.lt)
    have B4 := Lib.hid (B3.out.alloc B3.out.size (.cells #[.int .i64 za, .int .i64 zb, .int .i64 zc, .int .i64 zd, .bool ze, .int .i64 zf] 61))
    have X4 := Lib.hid (X3.out.alloc (.cells #[.int .i64 za, .int .i64 zb, .int .i64 zc, .int .i64 zd, .bool ze, .int .i64 zf] 61))
    have Y4 := Lib.hid (Lies.new w3 61 #[.int .i64 za, .int .i64 zb, .int .i64 zc, .int .i64 zd, .bool ze, .int .i64 zf])
    clear hb X2 X3
    go_upto_region 5 with fail
    generalize w3.alloc (.cells #[.int .i64 za, .int .i64 zb, .int .i64 zc, .int .i64 zd, .bool ze, .int .i64 zf] 61) = w4 at *
    have x0 : w4.cell? ⟨w1.heap.size, 0, none⟩ = some (.int .i64 i1) := X4.out.cell 0
    have x1 : w4.cell? ⟨w1.heap.size, 1, none⟩ = some (.int .i64 i2) := X4.out.cell 1
    have x2 : w4.cell? ⟨w1.heap.size, 2, none⟩ = some (.int .i64 i3) := X4.out.cell 2
    have x3 : w4.cell? ⟨w1.heap.size, 3, none⟩ = some (.int .i64 i4) := X4.out.cell 3
    have x4 : w4.cell? ⟨w1.heap.size, 4, none⟩ = some (.int .i64 i5) := X4.out.cell 4
    have x5 : w4.cell? ⟨w1.heap.size, 5, none⟩ = some (.int .i64 i6) := X4.out.cell 5
    have x6 : w4.cell? ⟨w1.heap.size, 6, none⟩ = some (.int .i64 i7) := X4.out.cell 6
    have x7 : w4.cell? ⟨w1.heap.size, 7, none⟩ = some (.slice p n c) := X4.out.cell 7
    go_wp2_with fail
    refine (CW.out _ B4.out).mono ?_
    rintro e w5 ⟨rfl, hb⟩
    have B5 := Lib.hid (B4.out.trans (hb.mono B4.out.size))
    have X5 := Lib.hid (X4.out.below hb X4.out.lt)
    have Y5 := Lib.hid (Y4.out.below hb Y4.out.lt)
    clear hb x0 x1 x2 x3 x4 x5 x6 x7 X4 Y4
    have x2 : w5.cell? ⟨w1.heap.size, 2, none⟩ = some (.int .i64 i3) := X5.out.cell 2
    have y0 : w5.cell? ⟨w3.heap.size, 0, none⟩ = some (.int .i64 za) := Y5.out.cell 0
    have y1 : w5.cell? ⟨w3.heap.size, 1, none⟩ = some (.int .i64 zb) := Y5.out.cell 1
    have y2 : w5.cell? ⟨w3.heap.size, 2, none⟩ = some (.int .i64 zc) := Y5.out.cell 2
    have y3 : w5.cell? ⟨w3.heap.size, 3, none⟩ = some (.int .i64 zd) := Y5.out.cell 3
    have y4 : w5.cell? ⟨w3.heap.size, 4, none⟩ = some (.bool ze) := Y5.out.cell 4
    have y5 : w5.cell? ⟨w3.heap.size, 5, none⟩ = some (.int .i64 zf) := Y5.out.cell 5
    go_wp2_with fail
    refine (CR.out _ B5.out).mono ?_
    rintro e w6 ⟨rfl, hb⟩
    have B6 := Lib.hid (B5.out.trans (hb.mono B5.out.size))
    have X6 := Lib.hid (X5.out.below hb X5.out.lt)
    clear hb x2 y0 y1 y2 y3 y4 y5 X5 Y5
    have x7 : w6.cell? ⟨w1.heap.size, 7, none⟩ = some (.slice p n c) := X6.out.cell 7
    go_wp2_with fail
    refine (CT.out _ B6.out).mono ?_
    rintro e w7 ⟨rfl, hb⟩
    have B7 := Lib.hid (B6.out.trans (hb.mono B6.out.size))
    have X7 := Lib.hid (X6.out.below hb X6.out.lt)
    clear hb x7
    have x7 : w7.cell? ⟨w1.heap.size, 7, none⟩ = some (.slice p n c) := X7.out.cell 7
    have g7 := X7.out.frozen 7
    have B8 := Lib.hid (B7.out.setCell (p := ⟨w1.heap.size, 7, none⟩) HW.out (.slice none 0 0))
    go_wp2
    go_ret
    exact ⟨rfl, HE.out _ B8.out⟩
  rw [if_pos ⟨h4, hzr.1⟩]
  have CT := Lib.hid (fun W (hW : Below w.heap.size w W) => Sy.sface.enter y.p y.n y.c y.x.stays zone now W (ST.out.keep hW).1 H0.2.1 H0.1.2 h4 hzr.1)
  clear ha hp hG hM hz hy hyx H0 hzid hzr hZ h1 h2 h3 h3' h4
  obtain ⟨za, zb, zc, zd, ze, zf⟩ := zz
  obtain ⟨⟨i1, i2, i3, i4, i5, i6, i7, S⟩, p, n, c⟩ := y
  simp only [lval, Ms.zval] at C1 CW CF CR
  generalize hU : Sy.goS (Sy.untilS S now) zone now = U at *
  simp only at CT
  go_enter Tryz.func23, Tryz.ntmps23
  go_wp2_with fail
  refine (C1.out _ (Below.refl _ _)).mono ?_
  rintro e w1 ⟨rfl, hb⟩
  have B2 := Lib.hid (hb.alloc hb.size (.cells #[.int .i64 i1, .int .i64 i2, .int .i64 i3, .int .i64 i4, .int .i64 i5, .int .i64 i6, .int .i64 i7, .slice p n c] 50))
  have X2 := Lib.hid (Lies.new w1 50 #[.int .i64 i1, .int .i64 i2, .int .i64 i3, .int .i64 i4, .int .i64 i5, .int .i64 i6, .int .i64 i7, .slice p n c])
  have HW := Lib.hid hb.size
  clear hb
  go_upto_region 4 with fail
  generalize w1.alloc (.cells #[.int .i64 i1, .int .i64 i2, .int .i64 i3, .int .i64 i4, .int .i64 i5, .int .i64 i6, .int .i64 i7, .slice p n c] 50) = w2 at *
  go_wp2_with fail
  refine (CF.out _ B2.out).mono ?_
  rintro e w3 ⟨rfl, hb⟩
  have B3 := Lib.hid (B2.out.trans (hb.mono B2.out.size))
  have X3 := Lib.hid (X2.out.below hb X2.out.lt)
  have B4 := Lib.hid (B3.out.alloc B3.out.size (.cells #[.int .i64 za, .int .i64 zb, .int .i64 zc, .int .i64 zd, .bool ze, .int .i64 zf] 61))
  have X4 := Lib.hid (X3.out.alloc (.cells #[.int .i64 za, .int .i64 zb, .int .i64 zc, .int .i64 zd, .bool ze, .int .i64 zf] 61))
  have Y4 := Lib.hid (Lies.new w3 61 #[.int .i64 za, .int .i64 zb, .int .i64 zc, .int .i64 zd, .bool ze, .int .i64 zf])
  clear hb X2 X3
  go_upto_region 5 with fail
  generalize w3.alloc (.cells #[.int .i64 za, .int .i64 zb, .int .i64 zc, .int .i64 zd, .bool ze, .int .i64 zf] 61) = w4 at *
  have x0 : w4.cell? ⟨w1.heap.size, 0, none⟩ = some (.int .i64 i1) := X4.out.cell 0
  have x1 : w4.cell? ⟨w1.heap.size, 1, none⟩ = some (.int .i64 i2) := X4.out.cell 1
  have x2 : w4.cell? ⟨w1.heap.size, 2, none⟩ = some (.int .i64 i3) := X4.out.cell 2
  have x3 : w4.cell? ⟨w1.heap.size, 3, none⟩ = some (.int .i64 i4) := X4.out.cell 3
  have x4 : w4.cell? ⟨w1.heap.size, 4, none⟩ = some (.int .i64 i5) := X4.out.cell 4
  have x5 : w4.cell? ⟨w1.heap.size, 5, none⟩ = some (.int .i64 i6) := X4.out.cell 5
  have x6 : w4.cell? ⟨w1.heap.size, 6, none⟩ = some (.int .i64 i7) := X4.out.cell 6
  have x7 : w4.cell? ⟨w1.heap.size, 7, none⟩ = some (.slice p n c) := X4.out.cell 7
  go_wp2_with fail
  refine (CW.out _ B4.out).mono ?_
  rintro e w5 ⟨rfl, hb⟩
  have B5 := Lib.hid (B4.out.trans (hb.mono B4.out.size))
  have X5 := Lib.hid (X4.out.below hb X4.out.lt)
  have Y5 := Lib.hid (Y4.out.below hb Y4.out.lt)
  clear hb x0 x1 x2 x3 x4 x5 x6 x7 X4 Y4
  have x2 : w5.cell? ⟨w1.heap.size, 2, none⟩ = some (.int .i64 i3) := X5.out.cell 2
  have y0 : w5.cell? ⟨w3.heap.size, 0, none⟩ = some (.int .i64 za) := Y5.out.cell 0
  have y1 : w5.cell? ⟨w3.heap.size, 1, none⟩ = some (.int .i64 zb) := Y5.out.cell 1
  have y2 : w5.cell? ⟨w3.heap.size, 2, none⟩ = some (.int .i64 zc) := Y5.out.cell 2
  have y3 : w5.cell? ⟨w3.heap.size, 3, none⟩ = some (.int .i64 zd) := Y5.out.cell 3
  have y4 : w5.cell? ⟨w3.heap.size, 4, none⟩ = some (.bool ze) := Y5.out.cell 4
  have y5 : w5.cell? ⟨w3.heap.size, 5, none⟩ = some (.int .i64 zf) := Y5.out.cell 5
  go_wp2_with fail
  refine (CR.out _ B5.out).mono ?_
  rintro e w6 ⟨rfl, hb⟩
  have B6 := Lib.hid (B5.out.trans (hb.mono B5.out.size))
  have X6 := Lib.hid (X5.out.below hb X5.out.lt)
  clear hb x2 y0 y1 y2 y3 y4 y5 X5 Y5
  have x7 : w6.cell? ⟨w1.heap.size, 7, none⟩ = some (.slice p n c) := X6.out.cell 7
  go_wp2_with fail
  refine ((CT.out _ B6.out).mono (fun e w7 hh => ok_new hh)).mono ?_
  intro e w7 he
  obtain ⟨q, m, cc, rfl, hcm, hr, hk, hb⟩ := he
  have B7 := Lib.hid (B6.out.trans (hb.mono B6.out.size))
  have X7 := Lib.hid (X6.out.below hb X6.out.lt)
  have S7 := Lib.hid (show St w7 ⟨⟨i1, i2, i3, i4, i5, i6, i7, U⟩, q, m, cc⟩ from ⟨hr, hcm⟩)
  have K7 := Lib.hid (show ∀ k, Bk ⟨⟨i1, i2, i3, i4, i5, i6, i7, U⟩, q, m, cc⟩ k → w6.heap.size ≤ k from hk)
  have hx6 := Lib.hid X6.out.lt
  have hs6 := Lib.hid B6.out.size
  clear hb hk hr hcm x7
  have x7 : w7.cell? ⟨w1.heap.size, 7, none⟩ = some (.slice p n c) := X7.out.cell 7
  have g7 := X7.out.frozen 7
  have X8 : Hid (Lies (w7.setCell ⟨w1.heap.size, 7, none⟩ (.slice q m cc)) w1.heap.size 50 #[.int .i64 i1, .int .i64 i2, .int .i64 i3, .int .i64 i4, .int .i64 i5, .int .i64 i6, .int .i64 i7, .slice q m cc]) := Lib.hid (by simpa using X7.out.set_ 7 (.slice q m cc))
  have B8 := Lib.hid (B7.out.setCell (p := ⟨w1.heap.size, 7, none⟩) HW.out (.slice q m cc))
  have S8 := Lib.hid (S7.out.turn ((Turn.refl (fun k => k = w1.heap.size) w7).setCell (p := ⟨w1.heap.size, 7, none⟩) (.inl rfl) (.slice q m cc)) (fun k hk e => by have := K7.out k hk; have := hx6.out; omega))
  go_upto_region 15 with fail
  generalize w7.setCell ⟨w1.heap.size, 7, none⟩ (.slice q m cc) = w8 at *
  clear x7 g7
  have x0 : w8.cell? ⟨w1.heap.size, 0, none⟩ = some (.int .i64 i1) := X8.out.cell 0
  have x1 : w8.cell? ⟨w1.heap.size, 1, none⟩ = some (.int .i64 i2) := X8.out.cell 1
  have x2 : w8.cell? ⟨w1.heap.size, 2, none⟩ = some (.int .i64 i3) := X8.out.cell 2
  have x3 : w8.cell? ⟨w1.heap.size, 3, none⟩ = some (.int .i64 i4) := X8.out.cell 3
  have x4 : w8.cell? ⟨w1.heap.size, 4, none⟩ = some (.int .i64 i5) := X8.out.cell 4
  have x5 : w8.cell? ⟨w1.heap.size, 5, none⟩ = some (.int .i64 i6) := X8.out.cell 5
  have x6 : w8.cell? ⟨w1.heap.size, 6, none⟩ = some (.int .i64 i7) := X8.out.cell 6
  have x7 : w8.cell? ⟨w1.heap.size, 7, none⟩ = some (.slice q m cc) := X8.out.cell 7
  have hsz := hs6.out
  have KK := Lib.hid (KP.out w8 ⟨⟨i1, i2, i3, i4, i5, i6, i7, U⟩, q, m, cc⟩ ((lts L).set i ⟨i1, i2, i3, i4, i5, i6, i7, U⟩, given) B8.out rfl S8.out (fun k hk => .inr (by have := K7.out k hk; omega)) rfl)
  clear hsz
  simp only [lval] at KK
  go_wp2_with fail
  refine KK.out.mono ?_
  rintro e w9 ⟨rfl, hl⟩
  go_wp2
  go_ret
  exact ⟨rfl, hl⟩
theorem pmove_any (B h Bm hm : Nat) (Fm : Nat → Prop) (M : Ms.Face) (mo : Option Nat) (given : Int) (L : List Lv) (Z : List Ms.Zn) (P : List Ms.Pd) (id zone now : Int) (w : World) (hp : PL w B h mo given L) (hM : M.DB w Bm hm Fm Z P) (hG : Good (lts L, given)) (hi1 : I64 id) (hz1 : I64 zone) (hZ : Ms.GoodZ Z) :
    Calls Tryz.prog 23 #[.pointer (some ⟨h, 0, none⟩), .pointer (some ⟨hm, 0, none⟩), .int .i64 id, .int .i64 zone, .int .i64 now] w fun e w' => e = .returned (.int .i64 ((moveS Z (lts L, given) id zone now).1 : Nat)) ∧ LeftL w B h mo L (moveS Z (lts L, given) id zone now).2 w' := by
  cases ha : at_ id (lts L) with
  | none =>
    rw [move_none (.inl ha)]
    exact pmove_none B h Bm hm Fm M mo given L Z P id zone now w hp hM hG hi1 hz1 (.inl ha)
  | some i =>
    cases hz : Ms.findK Ms.Zn.id zone Z with
    | none =>
      rw [move_none (.inr hz)]
      exact pmove_none B h Bm hm Fm M mo given L Z P id zone now w hp hM hG hi1 hz1 (.inr hz)
    | some zz =>
      obtain ⟨y, hy, hyx⟩ := at_of ha
      exact pmove_some B h Bm hm Fm M mo given L Z P id zone now w hp hM hG hi1 hz1 hZ i y zz ha hy hyx hz
end Lo
end Go.Proofs.YtkfmkchonlajpaaGreat

namespace Go.Proofs.YtkfmkchonlajpaaGreat
open Go.RowKit Go.Maps

namespace Lo
theorem put_may {g : Int} {x : Lt} (h1 : g < x.id) (h2 : x.id ≤ 256) : (g < x.id ∧ x.id ≤ 256 ∧ 1 ≤ x.units ∧ x.units ≤ 1048576 ∧ 0 ≤ x.status ∧ x.status ≤ 4 ∧ Sy.Right x.stays ∧ 0 ≤ x.product ∧ 0 ≤ x.expiry ∧ 0 ≤ x.grant ∧ 0 ≤ x.order) ↔ mayB x = true := by
  unfold mayB
  simp only [Bool.and_eq_true, decide_eq_true_eq, Sy.right_B]
  constructor
  · rintro ⟨_, _, a, b, c, d, e, f⟩
    exact ⟨⟨a, b⟩, ⟨c, d⟩, e, f⟩
  · rintro ⟨⟨a, b⟩, ⟨c, d⟩, e, f⟩
    exact ⟨h1, h2, a, b, c, d, e, f⟩
/-- The lot that is put: kept with stays of its own. -/
theorem put_keep {B h : Nat} {mo : Option Nat} {given : Int} {L : List Lv} {w w2 w3 : World} {y : Lv} (hp : PL w B h mo given L) (hG : Good (lts L, given)) (hi : given < y.x.id ∧ y.x.id ≤ 256) (hl : Lies w2 h 76 #[.map mo, .int .i64 y.x.id]) (ht : Turn (fun k => k = h) w w2) (hb : Below w2.heap.size w2 w3) (hs : St w3 y) (hk : ∀ k, Bk y k → w2.heap.size ≤ k) :
    Calls Tryz.prog 44 #[.pointer (some ⟨h, 0, none⟩), lval y] w3 fun e w4 => e = .returned (.tuple #[]) ∧ LeftL w B h mo L (lts L ++ [y.x], y.x.id) w4 := by
  have hL := lots_len hG
  have hlt := hp.blk.lt
  have hbase := hp.base
  have hs1 := ht.size
  have hs2 := hb.size
  have hgv := hG.given
  simp only at hgv
  refine (pkeep_any B h mo y.x.id L (L ++ [y]) y w3 ((hp.regiven hl ht).keep hb) (nx_app (fun z hz => ?_)) hs (Ms.in64_of (by omega) (by omega)) (by omega) (fun k hk' => ?_) (by omega)).mono ?_
  · have := (hG.low z.x (List.mem_map.2 ⟨z, hz, rfl⟩)).2
    simp only at this
    omega
  · have := hk k hk'
    exact ⟨by omega, by omega, fun e => by have := (Ms.tab_lt hp.tab e).2; omega⟩
  · rintro e w4 ⟨rfl, q, hq, hP, hT⟩
    refine ⟨rfl, some q, _, ?_, hP, ?_, fun k e => ?_, fun k hk' => ?_⟩
    · rw [lts, List.map_append]
      rfl
    · exact ((ht.mono (fun _ _ hi => .inl hi)).trans (S' := fun k => k = h ∨ mo = some k) (Turn.of_below hb) (fun i hi => .inl hi)).trans hT (fun i hi => .inl hi)
    · rw [← Option.some.inj e]
      exact hq.imp id (fun h => by omega)
    · exact (bks_app hk').imp id (fun h => by have := hk k h; omega)
set_option maxRecDepth 100000 in
set_option maxHeartbeats 16000000 in
theorem pput_any (B h : Nat) (mo : Option Nat) (given : Int) (L : List Lv) (y : Lv) (w : World) (hp : PL w B h mo given L) (hG : Good (lts L, given)) (hy : St w y) (hn : y.n ≤ 1000000) (hah : ∀ k, Bk y k → k ≠ h) :
    Calls Tryz.prog 17 #[.pointer (some ⟨h, 0, none⟩), lval y] w fun e w' =>
      e = .returned (.int .i64 ((putS (lts L, given) y.x).1 : Nat)) ∧ LeftL w B h mo L (putS (lts L, given) y.x).2 w' := by
  have HE := Lib.hid (fun W (hW : Below w.heap.size w W) => leftL_same hp hW)
  have CM0 := Lib.hid (fun W (hW : Below w.heap.size w W) => pmaybe_any y W (hy.keep hW) hn)
  have CA := Lib.hid (fun W (hW : Turn (fun k => k = h) w W) => papart_any y W (hy.turn hW (fun k hk e => hah k hk e)) hn)
  have KP := Lib.hid (fun w2 w3 y2 => put_keep (w2 := w2) (w3 := w3) (y := y2) hp hG)
  have HL := Lib.hid hp.blk
  have hgv := hG.given
  simp only at hgv
  by_cases h1 : y.x.id ≤ given
  · rw [put_bad (s := (lts L, given)) (fun h => by simp only at h; omega)]
    have d1 : decide (y.x.id ≤ given) = true := decide_eq_true h1
    clear hp hG hy hn hah CM0 CA KP h1 hgv
    obtain ⟨⟨i1, i2, i3, i4, i5, i6, i7, S⟩, p, n, c⟩ := y
    simp only [lval] at *
    have B1 := Lib.hid (alloc_below w (.cells #[.int .i64 i1, .int .i64 i2, .int .i64 i3, .int .i64 i4, .int .i64 i5, .int .i64 i6, .int .i64 i7, .slice p n c] 50))
    have L1 := Lib.hid (HL.out.alloc (.cells #[.int .i64 i1, .int .i64 i2, .int .i64 i3, .int .i64 i4, .int .i64 i5, .int .i64 i6, .int .i64 i7, .slice p n c] 50))
    have X1 := Lib.hid (Lies.new w 50 #[.int .i64 i1, .int .i64 i2, .int .i64 i3, .int .i64 i4, .int .i64 i5, .int .i64 i6, .int .i64 i7, .slice p n c])
    obtain ⟨w1, hw1⟩ : ∃ w1, w.alloc (.cells #[.int .i64 i1, .int .i64 i2, .int .i64 i3, .int .i64 i4, .int .i64 i5, .int .i64 i6, .int .i64 i7, .slice p n c] 50) = w1 := ⟨_, rfl⟩
    rw [hw1] at B1 L1 X1
    have l1 : w1.cell? ⟨h, 1, none⟩ = some (.int .i64 given) := L1.out.cell 1
    have x0 : w1.cell? ⟨w.heap.size, 0, none⟩ = some (.int .i64 i1) := X1.out.cell 0
    go_enter Tryz.func17, Tryz.ntmps17
    go_wp2_with fail
    have kl := cell_regrown l1
    have k0 := cell_regrown x0
    clear l1 x0 hw1
    refine wp_region_quiet_below (by kernel_rfl) (by kernel_rfl) ?_
    repeat (go_big_quiet_step (fail))
    refine wpQuiet_nil ?_
    intro _ hw'
    obtain ⟨⟨dq, osq⟩, hw''⟩ := hw'
    subst hw''
    go_wp2
    go_ret
    exact ⟨rfl, HE.out _ (B1.out.trans ((below_regrown w1 dq osq).mono B1.out.size))⟩
  have d1 : decide (y.x.id ≤ given) = false := decide_eq_false h1
  by_cases h2 : 256 < y.x.id
  · rw [put_bad (s := (lts L, given)) (fun h => by simp only at h; omega)]
    have d2 : decide (y.x.id > 256) = true := decide_eq_true h2
    clear hp hG hy hn hah CM0 CA KP h1 h2 hgv
    obtain ⟨⟨i1, i2, i3, i4, i5, i6, i7, S⟩, p, n, c⟩ := y
    simp only [lval] at *
    have B1 := Lib.hid (alloc_below w (.cells #[.int .i64 i1, .int .i64 i2, .int .i64 i3, .int .i64 i4, .int .i64 i5, .int .i64 i6, .int .i64 i7, .slice p n c] 50))
    have L1 := Lib.hid (HL.out.alloc (.cells #[.int .i64 i1, .int .i64 i2, .int .i64 i3, .int .i64 i4, .int .i64 i5, .int .i64 i6, .int .i64 i7, .slice p n c] 50))
    have X1 := Lib.hid (Lies.new w 50 #[.int .i64 i1, .int .i64 i2, .int .i64 i3, .int .i64 i4, .int .i64 i5, .int .i64 i6, .int .i64 i7, .slice p n c])
    obtain ⟨w1, hw1⟩ : ∃ w1, w.alloc (.cells #[.int .i64 i1, .int .i64 i2, .int .i64 i3, .int .i64 i4, .int .i64 i5, .int .i64 i6, .int .i64 i7, .slice p n c] 50) = w1 := ⟨_, rfl⟩
    rw [hw1] at B1 L1 X1
    have l1 : w1.cell? ⟨h, 1, none⟩ = some (.int .i64 given) := L1.out.cell 1
    have x0 : w1.cell? ⟨w.heap.size, 0, none⟩ = some (.int .i64 i1) := X1.out.cell 0
    go_enter Tryz.func17, Tryz.ntmps17
    go_wp2_with fail
    have kl := cell_regrown l1
    have k0 := cell_regrown x0
    clear l1 x0 hw1
    refine wp_region_quiet_below (by kernel_rfl) (by kernel_rfl) ?_
    repeat (go_big_quiet_step (fail))
    refine wpQuiet_nil ?_
    intro _ hw'
    obtain ⟨⟨dq, osq⟩, hw''⟩ := hw'
    subst hw''
    go_wp2
    go_ret
    exact ⟨rfl, HE.out _ (B1.out.trans ((below_regrown w1 dq osq).mono B1.out.size))⟩
  have d2 : decide (y.x.id > 256) = false := decide_eq_false h2
  have hmay := put_may (g := given) (x := y.x) (by omega) (by omega)
  by_cases h3 : mayB y.x = true
  case neg =>
    have h3' : mayB y.x = false := by simpa using h3
    rw [put_bad (s := (lts L, given)) (fun h => h3 (hmay.1 h))]
    rw [h3'] at CM0
    clear hp hG hy hn hah CA KP h1 h2 h3 h3' hmay hgv
    obtain ⟨⟨i1, i2, i3, i4, i5, i6, i7, S⟩, p, n, c⟩ := y
    simp only [lval] at *
    have B1 := Lib.hid (alloc_below w (.cells #[.int .i64 i1, .int .i64 i2, .int .i64 i3, .int .i64 i4, .int .i64 i5, .int .i64 i6, .int .i64 i7, .slice p n c] 50))
    have L1 := Lib.hid (HL.out.alloc (.cells #[.int .i64 i1, .int .i64 i2, .int .i64 i3, .int .i64 i4, .int .i64 i5, .int .i64 i6, .int .i64 i7, .slice p n c] 50))
    have X1 := Lib.hid (Lies.new w 50 #[.int .i64 i1, .int .i64 i2, .int .i64 i3, .int .i64 i4, .int .i64 i5, .int .i64 i6, .int .i64 i7, .slice p n c])
    obtain ⟨w1, hw1⟩ : ∃ w1, w.alloc (.cells #[.int .i64 i1, .int .i64 i2, .int .i64 i3, .int .i64 i4, .int .i64 i5, .int .i64 i6, .int .i64 i7, .slice p n c] 50) = w1 := ⟨_, rfl⟩
    rw [hw1] at B1 L1 X1
    have l1 : w1.cell? ⟨h, 1, none⟩ = some (.int .i64 given) := L1.out.cell 1
    have x0 : w1.cell? ⟨w.heap.size, 0, none⟩ = some (.int .i64 i1) := X1.out.cell 0
    have x1 : w1.cell? ⟨w.heap.size, 1, none⟩ = some (.int .i64 i2) := X1.out.cell 1
    have x2 : w1.cell? ⟨w.heap.size, 2, none⟩ = some (.int .i64 i3) := X1.out.cell 2
    have x3 : w1.cell? ⟨w.heap.size, 3, none⟩ = some (.int .i64 i4) := X1.out.cell 3
    have x4 : w1.cell? ⟨w.heap.size, 4, none⟩ = some (.int .i64 i5) := X1.out.cell 4
    have x5 : w1.cell? ⟨w.heap.size, 5, none⟩ = some (.int .i64 i6) := X1.out.cell 5
    have x6 : w1.cell? ⟨w.heap.size, 6, none⟩ = some (.int .i64 i7) := X1.out.cell 6
    have x7 : w1.cell? ⟨w.heap.size, 7, none⟩ = some (.slice p n c) := X1.out.cell 7
    have cM : ∀ d os, Calls Tryz.prog 43 #[.agg #[.int .i64 i1, .int .i64 i2, .int .i64 i3, .int .i64 i4, .int .i64 i5, .int .i64 i6, .int .i64 i7, .slice p n c]] (Sort.grow (redrawn w1 d) os) fun e w'' => e = .returned (.bool false) ∧ ∃ q : Regrown, w'' = Sort.grow (redrawn w1 q.d) q.os :=
      fun d os => Calls.regrown_of (CM0.out _ (B1.out.trans ((below_regrown w1 d os).mono B1.out.size)))
    go_enter Tryz.func17, Tryz.ntmps17
    go_wp2_with fail
    have kl := cell_regrown l1
    have k0 := cell_regrown x0
    have k1 := cell_regrown x1
    have k2 := cell_regrown x2
    have k3 := cell_regrown x3
    have k4 := cell_regrown x4
    have k5 := cell_regrown x5
    have k6 := cell_regrown x6
    have k7 := cell_regrown x7
    have CM := Lib.hid cM
    clear l1 x0 x1 x2 x3 x4 x5 x6 x7 hw1 cM CM0
    refine wp_region_quiet_below (by kernel_rfl) (by kernel_rfl) ?_
    repeat (go_big_quiet_step (with_reducible exact CM.out _ _))
    refine wpQuiet_nil ?_
    intro _ hw'
    obtain ⟨⟨dq, osq⟩, hw''⟩ := hw'
    subst hw''
    go_wp2
    go_ret
    exact ⟨rfl, HE.out _ (B1.out.trans ((below_regrown w1 dq osq).mono B1.out.size))⟩
  rw [put_ok (s := (lts L, given)) (hmay.2 h3)]
  rw [h3] at CM0
  have HI := Lib.hid (show given < y.x.id ∧ y.x.id ≤ 256 by omega)
  clear hp hG hy hn hah h1 h2 h3 hmay hgv
  obtain ⟨⟨i1, i2, i3, i4, i5, i6, i7, S⟩, p, n, c⟩ := y
  simp only [lval] at *
  have B1 := Lib.hid (alloc_below w (.cells #[.int .i64 i1, .int .i64 i2, .int .i64 i3, .int .i64 i4, .int .i64 i5, .int .i64 i6, .int .i64 i7, .slice p n c] 50))
  have L1 := Lib.hid (HL.out.alloc (.cells #[.int .i64 i1, .int .i64 i2, .int .i64 i3, .int .i64 i4, .int .i64 i5, .int .i64 i6, .int .i64 i7, .slice p n c] 50))
  have X1 := Lib.hid (Lies.new w 50 #[.int .i64 i1, .int .i64 i2, .int .i64 i3, .int .i64 i4, .int .i64 i5, .int .i64 i6, .int .i64 i7, .slice p n c])
  obtain ⟨w1, hw1⟩ : ∃ w1, w.alloc (.cells #[.int .i64 i1, .int .i64 i2, .int .i64 i3, .int .i64 i4, .int .i64 i5, .int .i64 i6, .int .i64 i7, .slice p n c] 50) = w1 := ⟨_, rfl⟩
  rw [hw1] at B1 L1 X1
  have l1 : w1.cell? ⟨h, 1, none⟩ = some (.int .i64 given) := L1.out.cell 1
  have x0 : w1.cell? ⟨w.heap.size, 0, none⟩ = some (.int .i64 i1) := X1.out.cell 0
  have x1 : w1.cell? ⟨w.heap.size, 1, none⟩ = some (.int .i64 i2) := X1.out.cell 1
  have x2 : w1.cell? ⟨w.heap.size, 2, none⟩ = some (.int .i64 i3) := X1.out.cell 2
  have x3 : w1.cell? ⟨w.heap.size, 3, none⟩ = some (.int .i64 i4) := X1.out.cell 3
  have x4 : w1.cell? ⟨w.heap.size, 4, none⟩ = some (.int .i64 i5) := X1.out.cell 4
  have x5 : w1.cell? ⟨w.heap.size, 5, none⟩ = some (.int .i64 i6) := X1.out.cell 5
  have x6 : w1.cell? ⟨w.heap.size, 6, none⟩ = some (.int .i64 i7) := X1.out.cell 6
  have x7 : w1.cell? ⟨w.heap.size, 7, none⟩ = some (.slice p n c) := X1.out.cell 7
  have cM : ∀ d os, Calls Tryz.prog 43 #[.agg #[.int .i64 i1, .int .i64 i2, .int .i64 i3, .int .i64 i4, .int .i64 i5, .int .i64 i6, .int .i64 i7, .slice p n c]] (Sort.grow (redrawn w1 d) os) fun e w'' => e = .returned (.bool true) ∧ ∃ q : Regrown, w'' = Sort.grow (redrawn w1 q.d) q.os :=
    fun d os => Calls.regrown_of (CM0.out _ (B1.out.trans ((below_regrown w1 d os).mono B1.out.size)))
  go_enter Tryz.func17, Tryz.ntmps17
  go_wp2_with fail
  have kl := cell_regrown l1
  have k0 := cell_regrown x0
  have k1 := cell_regrown x1
  have k2 := cell_regrown x2
  have k3 := cell_regrown x3
  have k4 := cell_regrown x4
  have k5 := cell_regrown x5
  have k6 := cell_regrown x6
  have k7 := cell_regrown x7
  have CM := Lib.hid cM
  clear l1 x0 x1 x2 x3 x4 x5 x6 x7 hw1 cM CM0
  refine wp_region_quiet_below (by kernel_rfl) (by kernel_rfl) ?_
  repeat (go_big_quiet_step (with_reducible exact CM.out _ _))
  refine wpQuiet_nil ?_
  intro _ hw'
  obtain ⟨⟨dq, osq⟩, hw''⟩ := hw'
  subst hw''
  have BR := below_regrown w1 dq osq
  have B2 := Lib.hid (B1.out.trans (BR.mono B1.out.size))
  have L2 := Lib.hid (L1.out.below BR L1.out.lt)
  have X2 := Lib.hid (X1.out.below BR X1.out.lt)
  clear kl k0 k1 k2 k3 k4 k5 k6 k7 CM BR
  generalize Sort.grow (redrawn w1 dq) osq = w2 at *
  have HHS : Hid (h < w.heap.size) := Lib.hid HL.out.lt
  have hne : w.heap.size ≠ h := by have := HHS.out; omega
  have L3 : Hid (Lies (w2.setCell ⟨h, 1, none⟩ (.int .i64 i1)) h 76 #[.map mo, .int .i64 i1]) := Lib.hid (by simpa using L2.out.set_ 1 (.int .i64 i1))
  have X3 : Hid (Lies (w2.setCell ⟨h, 1, none⟩ (.int .i64 i1)) w.heap.size 50 #[.int .i64 i1, .int .i64 i2, .int .i64 i3, .int .i64 i4, .int .i64 i5, .int .i64 i6, .int .i64 i7, .slice p n c]) := Lib.hid (X2.out.like (Below.heap_setCell w2 ⟨h, 1, none⟩ _ _ hne))
  have T3 := Lib.hid ((Turn.of_below (S := fun k => k = h) B2.out).setCell (p := ⟨h, 1, none⟩) (.inl rfl) (.int .i64 i1))
  have x0 : w2.cell? ⟨w.heap.size, 0, none⟩ = some (.int .i64 i1) := X2.out.cell 0
  have l1 : w2.cell? ⟨h, 1, none⟩ = some (.int .i64 given) := L2.out.cell 1
  have g1 := L2.out.frozen 1
  go_upto_region 4 with fail
  generalize w2.setCell ⟨h, 1, none⟩ (.int .i64 i1) = w3 at *
  clear x0 l1 g1 X2 L2 X1 L1
  have x0 : w3.cell? ⟨w.heap.size, 0, none⟩ = some (.int .i64 i1) := X3.out.cell 0
  have x1 : w3.cell? ⟨w.heap.size, 1, none⟩ = some (.int .i64 i2) := X3.out.cell 1
  have x2 : w3.cell? ⟨w.heap.size, 2, none⟩ = some (.int .i64 i3) := X3.out.cell 2
  have x3 : w3.cell? ⟨w.heap.size, 3, none⟩ = some (.int .i64 i4) := X3.out.cell 3
  have x4 : w3.cell? ⟨w.heap.size, 4, none⟩ = some (.int .i64 i5) := X3.out.cell 4
  have x5 : w3.cell? ⟨w.heap.size, 5, none⟩ = some (.int .i64 i6) := X3.out.cell 5
  have x6 : w3.cell? ⟨w.heap.size, 6, none⟩ = some (.int .i64 i7) := X3.out.cell 6
  have x7 : w3.cell? ⟨w.heap.size, 7, none⟩ = some (.slice p n c) := X3.out.cell 7
  go_wp2_with fail
  refine (CA.out w3 T3.out).mono ?_
  intro e w4 he
  obtain ⟨⟨x2, p2, n2, c2⟩, hyx, rfl, hs, hk, hb⟩ := he
  simp only at hyx
  subst hyx
  have KK := Lib.hid (KP.out w3 w4 ⟨⟨i1, i2, i3, i4, i5, i6, i7, S⟩, p2, n2, c2⟩ HI.out L3.out T3.out hb hs hk)
  clear hs hk hb x0 x1 x2 x3 x4 x5 x6 x7 CA KP
  simp only [lval] at KK ⊢
  go_wp2_with fail
  refine KK.out.mono ?_
  rintro e w5 ⟨rfl, hl⟩
  go_wp2
  go_ret
  exact ⟨rfl, hl⟩
theorem pgiven_any (h : Nat) (mo : Option Nat) (given : Int) (w : World) (hl : Lies w h 76 #[.map mo, .int .i64 given]) :
    Calls Tryz.prog 14 #[.pointer (some ⟨h, 0, none⟩)] w fun e w' => e = .returned (.int .i64 given) ∧ Below w.heap.size w w' := by
  have l1 : w.cell? ⟨h, 1, none⟩ = some (.int .i64 given) := hl.cell 1
  go_enter Tryz.func14, Tryz.ntmps14
  go_wp2
  go_ret
  exact ⟨rfl, Below.refl _ _⟩
set_option maxRecDepth 100000 in
set_option maxHeartbeats 8000000 in
/-- The lot of a number, with stays of its own. -/
theorem plotO_any (a : Option Addr) (id : Int) (y : Lv) (cd : Nat) (w : World) (hc : ∀ W, Below w.heap.size w W → Calls Tryz.prog 38 #[.pointer a, .int .i64 id] W fun e w' => e = .returned (.tuple #[lval y, .int .i64 (cd : Nat)]) ∧ Below W.heap.size W w')
    (hs : ∀ W, Below w.heap.size w W → St W y) (hn : y.n ≤ 1000000) : Calls Tryz.prog 11 #[.pointer a, .int .i64 id] w (LotEnd y.x cd w) := by
  have C := Lib.hid hc
  have CA := Lib.hid (fun W (hW : Below w.heap.size w W) => papart_any y W (hs W hW) hn)
  clear hc hs
  obtain ⟨⟨i1, i2, i3, i4, i5, i6, i7, S⟩, p, n, c⟩ := y
  simp only [lval] at *
  have B1 := Lib.hid (alloc_below w (.cells #[.int .i64 0, .int .i64 0, .int .i64 0, .int .i64 0, .int .i64 0, .int .i64 0, .int .i64 0, .slice none 0 0] 50))
  have X1 := Lib.hid (Lies.new w 50 #[.int .i64 0, .int .i64 0, .int .i64 0, .int .i64 0, .int .i64 0, .int .i64 0, .int .i64 0, .slice none 0 0])
  obtain ⟨w1, hw1⟩ : ∃ w1, w.alloc (.cells #[.int .i64 0, .int .i64 0, .int .i64 0, .int .i64 0, .int .i64 0, .int .i64 0, .int .i64 0, .slice none 0 0] 50) = w1 := ⟨_, rfl⟩
  rw [hw1] at B1 X1
  go_enter Tryz.func11, Tryz.ntmps11
  go_wp2_with fail
  refine (C.out w1 B1.out).mono ?_
  rintro e w2 ⟨rfl, hb⟩
  have B2 := Lib.hid (B1.out.trans (hb.mono B1.out.size))
  have X2 := Lib.hid (X1.out.below hb X1.out.lt)
  have B3 := Lib.hid (B2.out.alloc B2.out.size (.cells #[.int .i64 i1, .int .i64 i2, .int .i64 i3, .int .i64 i4, .int .i64 i5, .int .i64 i6, .int .i64 i7, .slice p n c] 50))
  have X3 := Lib.hid (X2.out.alloc (.cells #[.int .i64 i1, .int .i64 i2, .int .i64 i3, .int .i64 i4, .int .i64 i5, .int .i64 i6, .int .i64 i7, .slice p n c] 50))
  have Y3 := Lib.hid (Lies.new w2 50 #[.int .i64 i1, .int .i64 i2, .int .i64 i3, .int .i64 i4, .int .i64 i5, .int .i64 i6, .int .i64 i7, .slice p n c])
  clear hb hw1 X1 X2 B1 B2
  go_upto_region 2 with fail
  generalize w2.alloc (.cells #[.int .i64 i1, .int .i64 i2, .int .i64 i3, .int .i64 i4, .int .i64 i5, .int .i64 i6, .int .i64 i7, .slice p n c] 50) = w3 at *
  have y0 : w3.cell? ⟨w2.heap.size, 0, none⟩ = some (.int .i64 i1) := Y3.out.cell 0
  have y1 : w3.cell? ⟨w2.heap.size, 1, none⟩ = some (.int .i64 i2) := Y3.out.cell 1
  have y2 : w3.cell? ⟨w2.heap.size, 2, none⟩ = some (.int .i64 i3) := Y3.out.cell 2
  have y3 : w3.cell? ⟨w2.heap.size, 3, none⟩ = some (.int .i64 i4) := Y3.out.cell 3
  have y4 : w3.cell? ⟨w2.heap.size, 4, none⟩ = some (.int .i64 i5) := Y3.out.cell 4
  have y5 : w3.cell? ⟨w2.heap.size, 5, none⟩ = some (.int .i64 i6) := Y3.out.cell 5
  have y6 : w3.cell? ⟨w2.heap.size, 6, none⟩ = some (.int .i64 i7) := Y3.out.cell 6
  have y7 : w3.cell? ⟨w2.heap.size, 7, none⟩ = some (.slice p n c) := Y3.out.cell 7
  go_wp2_with fail
  refine (CA.out w3 B3.out).mono ?_
  intro e w4 he
  obtain ⟨⟨x2, p2, n2, c2⟩, hyx, rfl, hs, hk, hb⟩ := he
  simp only at hyx
  subst hyx
  have B4 := Lib.hid (B3.out.trans (hb.mono B3.out.size))
  have X4 := Lib.hid (X3.out.below hb X3.out.lt)
  have HX := Lib.hid X3.out.lt
  have HF := Lib.hid (show ∀ W, Turn (fun k => k = w.heap.size) w4 W → St W ⟨⟨i1, i2, i3, i4, i5, i6, i7, S⟩, p2, n2, c2⟩ ∧ (∀ k, Bk ⟨⟨i1, i2, i3, i4, i5, i6, i7, S⟩, p2, n2, c2⟩ k → w.heap.size ≤ k) ∧ Below w.heap.size w W from fun W hW => by
    have hx := HX.out
    refine ⟨hs.turn hW (fun k hk' e => ?_), fun k hk' => ?_, hW.below B4.out B4.out.size (fun i hi => ?_)⟩
    · have := hk k hk'
      omega
    · have := hk k hk'
      omega
    · omega)
  clear hs hk hb y0 y1 y2 y3 y4 y5 y6 y7 Y3 X3 B3 CA C B4
  have x0 : w4.cell? ⟨w.heap.size, 0, none⟩ = some (.int .i64 0) := X4.out.cell 0
  have x1 : w4.cell? ⟨w.heap.size, 1, none⟩ = some (.int .i64 0) := X4.out.cell 1
  have x2 : w4.cell? ⟨w.heap.size, 2, none⟩ = some (.int .i64 0) := X4.out.cell 2
  have x3 : w4.cell? ⟨w.heap.size, 3, none⟩ = some (.int .i64 0) := X4.out.cell 3
  have x4 : w4.cell? ⟨w.heap.size, 4, none⟩ = some (.int .i64 0) := X4.out.cell 4
  have x5 : w4.cell? ⟨w.heap.size, 5, none⟩ = some (.int .i64 0) := X4.out.cell 5
  have x6 : w4.cell? ⟨w.heap.size, 6, none⟩ = some (.int .i64 0) := X4.out.cell 6
  have x7 : w4.cell? ⟨w.heap.size, 7, none⟩ = some (.slice none 0 0) := X4.out.cell 7
  have g0 := X4.out.frozen 0
  have g1 := X4.out.frozen 1
  have g2 := X4.out.frozen 2
  have g3 := X4.out.frozen 3
  have g4 := X4.out.frozen 4
  have g5 := X4.out.frozen 5
  have g6 := X4.out.frozen 6
  have g7 := X4.out.frozen 7
  clear X4
  simp only [lval]
  go_wp2
  refine bodyPost_ret (v := .tuple #[lval ⟨⟨i1, i2, i3, i4, i5, i6, i7, S⟩, p2, n2, c2⟩, .int .i64 cd]) (by simp [results, Tryz.results11, go_sem, lval, x0, x1, x2, x3, x4, x5, x6, x7]) rfl ?_
  refine ⟨⟨⟨i1, i2, i3, i4, i5, i6, i7, S⟩, p2, n2, c2⟩, rfl, rfl, HF.out _ ?_⟩
  iterate 8 refine Turn.setCell ?_ (by exact .inl rfl) _
  exact Turn.refl _ _
theorem plotL_any (B h : Nat) (mo : Option Nat) (given : Int) (L : List Lv) (id : Int) (w : World) (hp : PL w B h mo given L) (hG : Good (lts L, given)) (hm : I64 id) :
    Calls Tryz.prog 11 #[.pointer (some ⟨h, 0, none⟩), .int .i64 id] w (LotEnd (lotS (lts L, given) id).1 (lotS (lts L, given) id).2 w) := by
  cases ha : at_ id (lts L) with
  | none =>
    have e : lotS (lts L, given) id = (lt0, 5) := by unfold lotS; rw [ha]
    rw [e]
    exact plotO_any (some ⟨h, 0, none⟩) id ⟨lt0, none, 0, 0⟩ 5 w (fun W hW => plot_no (hp.keep hW) hm ha) (fun W _ => ⟨rw_zero W none, Nat.le_refl _⟩) (by decide)
  | some i =>
    obtain ⟨y, hy, hyx⟩ := at_of ha
    have e : lotS (lts L, given) id = (y.x, 0) := by unfold lotS; rw [ha]; simp only [hyx]
    rw [e]
    have H0 := lot_here hp hG hy
    exact plotO_any (some ⟨h, 0, none⟩) id y 0 w (fun W hW => plot_yes (hp.keep hW) hm ha hy) (fun W hW => H0.1.keep hW) H0.2.1
end Lo
end Go.Proofs.YtkfmkchonlajpaaGreat

namespace Go.Proofs
open Go.Shelf
def Tryz.keysA_ren : Go.Shelf.Ren := ⟨fun | 7 => 36 | 10 => 68 | n => n, fun | 23 => 74 | 26 => 3 | 3 => 50 | 28 => 83 | 0 => 0 | 27 => 82 | 33 => 101 | 4 => 4 | n => n, fun | n => n⟩
theorem Tryz.keysA : Go.Proofs.SlLaysZI.n7 Tryz.prog Tryz.keysA_ren := {
  mixed := by kernel_rfl
  f7 := ⟨Tryz.f36.name, by decide, Tryz.func36.trans (congrArg some (by kernel_rfl))⟩
  f10 := ⟨Tryz.f68.name, by decide, Tryz.func68.trans (congrArg some (by kernel_rfl))⟩
  t0 := Tryz.underlying0
  a0 := Tryz.isAgg0
  z0 := Tryz.sizeOf0
  v0 := Tryz.zeroValue0
  t4 := Tryz.underlying4
  a4 := Tryz.isAgg4
  z4 := Tryz.sizeOf4
  v4 := Tryz.zeroValue4
  t23 := Tryz.underlying74
  a23 := Tryz.isAgg74
  z23 := Tryz.sizeOf74
  v23 := Tryz.zeroValue74
  t26 := Tryz.underlying3
  a26 := Tryz.isAgg3
  z26 := Tryz.sizeOf3
  v26 := Tryz.zeroValue3
  t27 := Tryz.underlying82
  a27 := Tryz.isAgg82
  z27 := Tryz.sizeOf82
  v27 := Tryz.zeroValue82
  t28 := Tryz.underlying83
  a28 := Tryz.isAgg83
  z28 := Tryz.sizeOf83
  v28 := Tryz.zeroValue83
  t33 := Tryz.underlying101
  a33 := Tryz.isAgg101
  z33 := Tryz.sizeOf101
  v33 := Tryz.zeroValue101 }
def Tryz.sortedA_ren : Go.Shelf.Ren := ⟨fun | 6 => 35 | 8 => 66 | 9 => 67 | 11 => 84 | 13 => 86 | 12 => 85 | 23 => 99 | 24 => 100 | 14 => 90 | 15 => 91 | 16 => 92 | 17 => 93 | 18 => 94 | 19 => 95 | 20 => 96 | 21 => 97 | 22 => 98 | 25 => 101 | 26 => 102 | 27 => 103 | 28 => 104 | 29 => 105 | 30 => 106 | 31 => 107 | n => n, fun | 26 => 3 | 28 => 83 | 24 => 80 | 0 => 0 | 3 => 3 | 37 => 127 | 48 => 138 | 50 => 140 | 4 => 4 | 40 => 130 | 39 => 129 | 45 => 135 | 5 => 5 | 9 => 9 | 51 => 141 | 55 => 145 | 57 => 147 | 58 => 148 | 33 => 101 | n => n, fun | n => n⟩
theorem Tryz.sortedA : Go.Proofs.SlLaysZI.n6 Tryz.prog Tryz.sortedA_ren := {
  mixed := by kernel_rfl
  f6 := ⟨Tryz.f35.name, by decide, Tryz.func35.trans (congrArg some (by kernel_rfl))⟩
  f8 := ⟨Tryz.f66.name, by decide, Tryz.func66.trans (congrArg some (by kernel_rfl))⟩
  f11 := ⟨Tryz.f84.name, by decide, Tryz.func84.trans (congrArg some (by kernel_rfl))⟩
  t0 := Tryz.underlying0
  a0 := Tryz.isAgg0
  z0 := Tryz.sizeOf0
  v0 := Tryz.zeroValue0
  t24 := Tryz.underlying80
  a24 := Tryz.isAgg80
  z24 := Tryz.sizeOf80
  v24 := Tryz.zeroValue80
  t26 := Tryz.underlying3
  a26 := Tryz.isAgg3
  z26 := Tryz.sizeOf3
  v26 := Tryz.zeroValue3
  t28 := Tryz.underlying83
  a28 := Tryz.isAgg83
  z28 := Tryz.sizeOf83
  v28 := Tryz.zeroValue83
  i26 := by kernel_rfl }
def Tryz.sortA_ren : Go.Shelf.Ren := ⟨fun | 5 => 67 | 8 => 86 | 7 => 85 | 19 => 99 | 20 => 100 | 10 => 90 | 11 => 91 | 12 => 92 | 13 => 93 | 14 => 94 | 15 => 95 | 16 => 96 | 17 => 97 | 18 => 98 | 30 => 101 | 31 => 102 | 32 => 103 | 33 => 104 | 34 => 105 | 35 => 106 | 40 => 107 | n => n, fun | 23 => 80 | 25 => 3 | 3 => 3 | 32 => 127 | 22 => 80 | 0 => 0 | 44 => 138 | 46 => 140 | 4 => 4 | 36 => 130 | 35 => 129 | 41 => 135 | 5 => 5 | 9 => 9 | 53 => 141 | 57 => 145 | 63 => 147 | 64 => 148 | n => n, fun | n => n⟩
theorem Tryz.sortA : Go.Proofs.SlLaysM.n5 Tryz.prog Tryz.sortA_ren := {
  mixed := by kernel_rfl
  f5 := ⟨Tryz.f67.name, by decide, Tryz.func67.trans (congrArg some (by kernel_rfl))⟩
  f7 := ⟨Tryz.f85.name, by decide, Tryz.func85.trans (congrArg some (by kernel_rfl))⟩
  f8 := Tryz.func86.trans (congrArg some (by kernel_rfl))
  f10 := ⟨Tryz.f90.name, by decide, Tryz.func90.trans (congrArg some (by kernel_rfl))⟩
  f11 := ⟨Tryz.f91.name, by decide, Tryz.func91.trans (congrArg some (by kernel_rfl))⟩
  f12 := ⟨Tryz.f92.name, by decide, Tryz.func92.trans (congrArg some (by kernel_rfl))⟩
  f13 := ⟨Tryz.f93.name, by decide, Tryz.func93.trans (congrArg some (by kernel_rfl))⟩
  f14 := ⟨Tryz.f94.name, by decide, Tryz.func94.trans (congrArg some (by kernel_rfl))⟩
  f15 := ⟨Tryz.f95.name, by decide, Tryz.func95.trans (congrArg some (by kernel_rfl))⟩
  f16 := ⟨Tryz.f96.name, by decide, Tryz.func96.trans (congrArg some (by kernel_rfl))⟩
  f17 := ⟨Tryz.f97.name, by decide, Tryz.func97.trans (congrArg some (by kernel_rfl))⟩
  f18 := ⟨Tryz.f98.name, by decide, Tryz.func98.trans (congrArg some (by kernel_rfl))⟩
  f19 := Tryz.func99.trans (congrArg some (by kernel_rfl))
  f20 := Tryz.func100.trans (congrArg some (by kernel_rfl))
  f30 := ⟨Tryz.f101.name, by decide, Tryz.func101.trans (congrArg some (by kernel_rfl))⟩
  f31 := Tryz.func102.trans (congrArg some (by kernel_rfl))
  f32 := Tryz.func103.trans (congrArg some (by kernel_rfl))
  f33 := ⟨Tryz.f104.name, by decide, Tryz.func104.trans (congrArg some (by kernel_rfl))⟩
  f34 := ⟨Tryz.f105.name, by decide, Tryz.func105.trans (congrArg some (by kernel_rfl))⟩
  f35 := ⟨Tryz.f106.name, by decide, Tryz.func106.trans (congrArg some (by kernel_rfl))⟩
  f40 := ⟨Tryz.f107.name, by decide, Tryz.func107.trans (congrArg some (by kernel_rfl))⟩
  t0 := Tryz.underlying0
  a0 := Tryz.isAgg0
  z0 := Tryz.sizeOf0
  v0 := Tryz.zeroValue0
  t3 := Tryz.underlying3
  a3 := Tryz.isAgg3
  z3 := Tryz.sizeOf3
  v3 := Tryz.zeroValue3
  t4 := Tryz.underlying4
  a4 := Tryz.isAgg4
  z4 := Tryz.sizeOf4
  v4 := Tryz.zeroValue4
  t5 := Tryz.underlying5
  a5 := Tryz.isAgg5
  z5 := Tryz.sizeOf5
  v5 := Tryz.zeroValue5
  t9 := Tryz.underlying9
  a9 := Tryz.isAgg9
  z9 := Tryz.sizeOf9
  v9 := Tryz.zeroValue9
  t22 := Tryz.underlying80
  a22 := Tryz.isAgg80
  z22 := Tryz.sizeOf80
  v22 := Tryz.zeroValue80
  t23 := Tryz.underlying80
  a23 := Tryz.isAgg80
  z23 := Tryz.sizeOf80
  v23 := Tryz.zeroValue80
  t25 := Tryz.underlying3
  a25 := Tryz.isAgg3
  z25 := Tryz.sizeOf3
  v25 := Tryz.zeroValue3
  t32 := Tryz.underlying127
  a32 := Tryz.isAgg127
  z32 := Tryz.sizeOf127
  v32 := Tryz.zeroValue127
  t35 := Tryz.underlying129
  a35 := Tryz.isAgg129
  z35 := Tryz.sizeOf129
  v35 := Tryz.zeroValue129
  t36 := Tryz.underlying130
  a36 := Tryz.isAgg130
  z36 := Tryz.sizeOf130
  v36 := Tryz.zeroValue130
  t41 := Tryz.underlying135
  a41 := Tryz.isAgg135
  z41 := Tryz.sizeOf135
  v41 := Tryz.zeroValue135
  t44 := Tryz.underlying138
  a44 := Tryz.isAgg138
  z44 := Tryz.sizeOf138
  v44 := Tryz.zeroValue138
  t46 := Tryz.underlying140
  a46 := Tryz.isAgg140
  z46 := Tryz.sizeOf140
  v46 := Tryz.zeroValue140
  t53 := Tryz.underlying141
  a53 := Tryz.isAgg141
  z53 := Tryz.sizeOf141
  v53 := Tryz.zeroValue141
  t57 := Tryz.underlying145
  a57 := Tryz.isAgg145
  z57 := Tryz.sizeOf145
  v57 := Tryz.zeroValue145
  t63 := Tryz.underlying147
  a63 := Tryz.isAgg147
  z63 := Tryz.sizeOf147
  v63 := Tryz.zeroValue147
  t64 := Tryz.underlying148
  a64 := Tryz.isAgg148
  z64 := Tryz.sizeOf148
  v64 := Tryz.zeroValue148 }
end Go.Proofs

namespace Go.Proofs.YtkfmkchonlajpaaGreat
open Go.RowKit Go.Maps Go.Sort

namespace Ms
theorem sorts (m : Nat) : AnyZI.SortsIn Tryz.prog Tryz.sortedA_ren Fence.wide m :=
  ⟨fun blk off cap ss W hH hblk hsz => callsIn_wide.2 (AnyM.slices_Sort_int Tryz.sortA blk off cap ss W hH hblk hsz),
   fun p cap W => callsIn_wide.2 (AnyM.slices_Sort_int_none Tryz.sortA p cap W)⟩
theorem own_floor {w : World} {B B' : Nat} {e : TypeId} {k n : Nat} {v : Value} {xs : List Value} (h : w.ownsRow B e k v n xs) (hb : B' ≤ B) : w.ownsRow B' e k v n xs := by
  refine ⟨h.1, ?_⟩
  rcases h.2 with h0 | ⟨g, cap, cur, e1, h1, h2⟩
  · exact .inl h0
  · exact .inr ⟨g, cap, cur, e1, Nat.le_trans hb h1, h2⟩
def kcells {α : Type} (key : α → Int) (x : α) : List Value := [.int .i64 (key x)]
theorem kcells_len {α : Type} (key : α → Int) (x : α) : (kcells key x).length = 1 := rfl
theorem kflat {α : Type} (key : α → Int) (S : List α) : (S.map key).map encZ = S.flatMap (kcells key) := by
  induction S with
  | nil => rfl
  | cons x S ih => rw [List.map_cons, List.map_cons, ih, List.flatMap_cons]; rfl
/-- The numbers, in order: a new slice. -/
def NumsEnd {α : Type} (key : α → Int) (S : List α) (W : World) (e : Ending) (w' : World) : Prop := ∃ v, e = .returned v ∧ w'.ownsRow W.heap.size 3 1 v S.length (S.flatMap (kcells key)) ∧ Below W.heap.size W w'
end Ms
end Go.Proofs.YtkfmkchonlajpaaGreat

namespace Go.Proofs.YtkfmkchonlajpaaGreat
open Go.RowKit Go.Maps Go.Sort

namespace Lo
theorem keysL_any (mo : Option Nat) (w : World) : Calls Tryz.prog 36 #[.map mo] w fun e w' =>
    e = .returned (.func (.func 68) #[] #[.pointer (some ⟨w.heap.size, 0, none⟩)]) ∧ w' = w.alloc (.cells #[.map mo] 74) :=
  callsIn_wide.1 (AnyZI.keys_in Tryz.keysA Fence.wide 5 trivial rfl mo w)
set_option maxHeartbeats 1000000 in
theorem sortedL_any {w : World} {B : Nat} {mo : Option Nat} {S : List Lr} (ht : Ms.Tab Lf Lr.id w B mo S) (hS : Ms.Ord Lr.id S) (hL : S.length ≤ 1000) :
    Calls Tryz.prog 35 #[.func (.func 68) #[] #[.pointer (some ⟨w.heap.size, 0, none⟩)]] (w.alloc (.cells #[.map mo] 74)) (Ms.NumsEnd Lr.id S (w.alloc (.cells #[.map mo] 74))) := by
  refine (callsIn_wide (n := 5)).1 ?_
  rcases ht with ⟨rfl, rfl⟩ | ⟨b, D, rfl, _, hown, hM⟩
  · have hseq : SeqGives Fence.wide 2 Tryz.prog 68 #[.pointer (some ⟨w.heap.size, 0, none⟩)] encZ (fun ss : List Int => ss = []) 0 (w.alloc (.cells #[.map none] 74)) :=
      AnyZI.keys_gives_nil (ρ := Tryz.keysA_ren) { Tryz.keysA with } Fence.wide _ trivial rfl w.heap.size _ (by simp) (by simp)
    have cS := AnyZI.sorted_in Tryz.sortedA Fence.wide 5 trivial trivial trivial trivial rfl (by omega) (Ms.sorts _) (enters_of Tryz.func67 (by kernel_rfl) rfl) 68 #[.pointer (some ⟨w.heap.size, 0, none⟩)] trivial (enters_of Tryz.func68 (by kernel_rfl) rfl) _ 0 (Nat.zero_le _) (by omega) _ hseq
    refine cS.mono ?_
    rintro e w' ⟨v, ss, rfl, rfl, hrow, hnil, hb⟩
    rw [List.mergeSort_nil] at hrow
    exact ⟨v, rfl, hrow, hb⟩
  · have hbl := hown.lt
    have hseq : SeqGives Fence.wide 2 Tryz.prog 68 #[.pointer (some ⟨w.heap.size, 0, none⟩)] encZ (fun ss => ss.Perm (intKeys D)) (Maps.size D) (w.alloc (.cells #[.map (some b)] 74)) :=
      AnyZI.keys_gives (ρ := Tryz.keysA_ren) { Tryz.keysA with } Fence.wide _ trivial rfl (by omega) w.heap.size b S.length D _ (by simp) (by simp) (Ms.own_like hown (Below.heap_alloc _ _ b hbl))
    have cS := AnyZI.sorted_in Tryz.sortedA Fence.wide 5 trivial trivial trivial trivial rfl (by omega) (Ms.sorts _) (enters_of Tryz.func67 (by kernel_rfl) rfl) 68 #[.pointer (some ⟨w.heap.size, 0, none⟩)] trivial (enters_of Tryz.func68 (by kernel_rfl) rfl) _ _ (by rw [hM.size]; unfold maxLen; omega) (by rw [hM.size]; omega) _ hseq
    refine cS.mono ?_
    rintro e w' ⟨v, ss, rfl, hp, hrow, hnil, hb⟩
    obtain ⟨h1, h2⟩ := Ms.mp_keys hown hM hS hp
    rw [h1, h2, Ms.kflat] at hrow
    exact ⟨v, rfl, hrow, hb⟩
theorem infoS : (Tryz.prog.info? 50).map (fun i => (i.zero, i.size, i.bytes)) = some (some (.agg #[.int .i64 0, .int .i64 0, .int .i64 0, .int .i64 0, .int .i64 0, .int .i64 0, .int .i64 0, .slice none 0 0]), 8, 80) := by kernel_rfl
theorem plots_nil (w : World) : Calls Tryz.prog 10 #[.pointer none] w fun e w' => (∃ v : Value, e = .returned v ∧ ∃ q c, v = .slice q 0 c) ∧ Below w.heap.size w w' := by
  go_enter Tryz.func10, Tryz.ntmps10
  go_wp2
  go_ret
  exact ⟨⟨_, rfl, _, _, rfl⟩, Below.refl _ _⟩
theorem ord_raws {L : List Lv} {g : Int} (h : Good (lts L, g)) : Ms.Ord Lr.id (L.map raw) := by
  have := h.ids
  simp only [lts] at this
  have h2 : L.Pairwise (fun a b => a.x.id < b.x.id) := (List.pairwise_map.1 this).imp (fun h => h)
  exact List.pairwise_map.2 h2
theorem find_raw {L : List Lv} {g : Int} (h : Good (lts L, g)) {y : Lv} (hy : y ∈ L) : Ms.findK Lr.id y.x.id (L.map raw) = some (raw y) := Ms.find_mem (ord_raws h) (List.mem_map.2 ⟨y, hy, rfl⟩)
/-- A list, so far: its lots' stays lie at places of their own. -/
def Part (W : World) (B : Nat) (v : Value) (l : List Lt) (L : List Lv) : Prop := lts L = l ∧ ∀ y ∈ L, St W y ∧ ∀ j, Bk y j → B ≤ j ∧ v.ownBlock ≠ some j
theorem part_step {w0 wr w3 w5 : World} {B : Nat} {v v5 : Value} {l : List Lt} {L : List Lv} {y : Lv} {ob : Obj} {m : Nat} {xs : List Value} (hP : Part wr B v l L) (hB : B ≤ wr.heap.size) (hr : wr.ownsRow w0.heap.size 50 8 v m xs) (hb : Below wr.heap.size wr w3) (hs : St w3 y) (hk : ∀ j, Bk y j → wr.heap.size ≤ j)
    (hg : (w3.alloc ob).grownBy w5 v.ownBlock) (hat : v5.ownBlock = v.ownBlock ∨ v5.ownBlock = some (w3.alloc ob).heap.size) : Part w5 B v5 (l ++ [y.x]) (L ++ [y]) := by
  have hT : Turn (fun j => v.ownBlock = some j) w3 w5 := ((Turn.refl (fun j => v.ownBlock = some j) w3).alloc ob).grown hg (fun j hj => .inl hj)
  have hs3 := hb.size
  have hsz : (w3.alloc ob).heap.size = w3.heap.size + 1 := by simp
  refine ⟨by rw [lts, List.map_append, ← hP.1]; rfl, fun z hz => ?_⟩
  rcases List.mem_append.1 hz with hz | hz
  · obtain ⟨h1, h2⟩ := hP.2 z hz
    have h3 := h1.keep hb
    refine ⟨h3.turn hT (fun j hj e => (h2 j hj).2 e), fun j hj => ⟨(h2 j hj).1, fun e => ?_⟩⟩
    rcases hat with hat | hat
    · exact (h2 j hj).2 (hat ▸ e)
    · rw [hat] at e
      have := Option.some.inj e
      have := h3.lt hj
      omega
  · rw [List.mem_singleton.1 hz]
    refine ⟨hs.turn hT (fun j hj e => ?_), fun j hj => ⟨Nat.le_trans hB (hk j hj), fun e => ?_⟩⟩
    · have := hk j hj
      have := (own_lt hr e).2
      omega
    · have h1 := hk j hj
      rcases hat with hat | hat
      · have := (own_lt hr (hat ▸ e)).2
        omega
      · rw [hat] at e
        have := Option.some.inj e
        have := hs.lt hj
        omega
set_option maxRecDepth 100000 in
set_option maxHeartbeats 8000000 in
/-- All, in order. -/
theorem plots_any (B h : Nat) (mo : Option Nat) (given : Int) (L : List Lv) (w : World) (hp : PL w B h mo given L) (hG : Good (lts L, given)) :
    Calls Tryz.prog 10 #[.pointer (some ⟨h, 0, none⟩)] w (LotsEnd (lts L) w) := by
  obtain ⟨i0, hi, hz0, hz1, hz2⟩ := info_parts infoS
  have hL := lots_len hG
  have HG := Lib.hid hG
  have HP := Lib.hid hp
  have C1 := Lib.hid (keysL_any mo w)
  have C2 := Lib.hid (sortedL_any hp.tab (ord_raws hG) (by rw [List.length_map]; omega))
  have l0 : w.cell? ⟨h, 0, none⟩ = some (.map mo) := hp.blk.cell 0
  have HW : Hid (w.heap.size ≤ (w.alloc (.cells #[.map mo] 74)).heap.size) := Lib.hid (by simp)
  have BW : Hid (Below w.heap.size w (w.alloc (.cells #[.map mo] 74))) := Lib.hid (alloc_below w _)
  clear hp hG
  go_enter Tryz.func10, Tryz.ntmps10
  go_wp2_with fail
  refine C1.out.mono ?_
  rintro e w1 ⟨rfl, hw1⟩
  rw [← hw1] at C2 HW BW
  clear hw1 l0
  go_wp2_with fail
  refine C2.out.mono ?_
  intro e w2 he
  obtain ⟨v, rfl, ho, hb2⟩ := he
  obtain ⟨q, c, rfl⟩ := own_slice ho
  have KO := Lib.hid ho
  have B2 := Lib.hid (BW.out.trans (hb2.mono HW.out))
  have H2 : Hid (w.heap.size ≤ w2.heap.size) := Lib.hid (Nat.le_trans HW.out hb2.size)
  clear ho hb2 C1 C2 BW
  have hlen : (L.map raw).length = L.length := List.length_map ..
  obtain ⟨N, hN⟩ : ∃ N, L.length = N := ⟨_, rfl⟩
  rw [hlen, hN] at KO
  rw [hN] at hL hlen
  rw [hlen]
  have HN := Lib.hid hN
  have HN2 := Lib.hid hlen
  clear hN hlen
  have hL' : (N : Int) ≤ 256 := by omega
  go_wp2_with fail
  go_loopw [3, 15] (fun v i wr => ∃ (k : Nat) (Lk : List Lv), k ≤ N ∧ i = .int .i64 k ∧ (∃ q d, v = .slice q k d) ∧ Hid (Part wr w2.heap.size v ((lts L).take k) Lk) ∧ Hid (Lk.length = k) ∧ Hid (wr.ownsRow w2.heap.size 50 8 v k (Lk.flatMap lcells)) ∧ Hid (Below w2.heap.size w2 wr)) (fun _ i _ => N - (RowKit.intOf i).toNat)
  case atStart => exact ⟨0, [], Nat.zero_le _, rfl, ⟨none, 0, rfl⟩, Lib.hid ⟨rfl, fun y hy => by simp at hy⟩, Lib.hid rfl, Lib.hid (World.ownsRow_nil _ _ _ _), Lib.hid (Below.refl _ _)⟩
  case round =>
    obtain ⟨k, Lk, hk, rfl, ⟨q2, d2, rfl⟩, PA, LL, RO, BR⟩ := hrel
    have BA := Lib.hid (B2.out.trans (BR.out.mono H2.out))
    by_cases hlt : k < N
    · have hk3 : (k : Int) < (N : Int) := by omega
      obtain ⟨y, hy⟩ : ∃ y, L[k]? = some y := ⟨_, List.getElem?_eq_getElem (by rw [HN.out]; exact hlt)⟩
      obtain ⟨b, c2, e, hb1, hb2, _⟩ := own_some KO.out (by omega)
      cases e
      have hmem := List.mem_of_getElem? hy
      have hyr : (L.map raw)[k]? = some (raw y) := by rw [List.getElem?_map, hy]; rfl
      have d0 : w2.cell? ⟨b, k, none⟩ = some (.int .i64 y.x.id) := by
        have := row_cell (Ms.kcells_len Lr.id) KO.out HN2.out hyr (i := 0) (by decide)
        simpa [Ms.kcells, raw] using this
      have e0 : wr.cell? ⟨b, k, none⟩ = some (.int .i64 y.x.id) := (BR.out.cell (p := ⟨b, k, none⟩) hb2).trans d0
      have l0 : wr.cell? ⟨h, 0, none⟩ = some (.map mo) := (HP.out.blk.below BA.out HP.out.blk.lt).cell 0
      have H0 := lot_here HP.out HG.out hy
      have kk := tlook1L HP.out.tab H0.2.2.2.1 wr BA.out
      rw [find_raw HG.out hmem] at kk
      have CA := Lib.hid (papart_any y wr (H0.1.keep BA.out) H0.2.1)
      have TK : Hid ((lts L).take (k + 1) = (lts L).take k ++ [y.x]) := Lib.hid (by
        have h1 : (lts L)[k]? = some y.x := by rw [lts, List.getElem?_map, hy]; rfl
        rw [List.take_add_one, h1]
        rfl)
      have H2s := Lib.hid BR.out.size
      clear hy hmem d0 hb1 hb2 H0 hyr
      obtain ⟨⟨i1, i2, i3, i4, i5, i6, i7, S⟩, p, n, c⟩ := y
      simp only [Option.getD_some, raw, rval] at kk
      simp only at e0 TK
      simp only [lval] at CA
      go_wp2_with fail
      refine CA.out.mono ?_
      intro e w3 he
      obtain ⟨⟨x2, p2, n2, c3⟩, hyx, rfl, hs, hk2, hb⟩ := he
      simp only at hyx
      subst hyx
      have BR3 := Lib.hid (BR.out.trans (hb.mono BR.out.size))
      have RO3 := Lib.hid (own_turn RO.out (Turn.of_below (S := fun _ => False) hb) (fun _ _ hf => hf))
      have PS := Lib.hid (fun ob w5 v5 hg hat => part_step (ob := ob) (w5 := w5) (v5 := v5) (w0 := w2) PA.out H2s.out RO.out hb hs hk2 hg hat)
      clear e0 l0 kk CA hs hk2 hb
      simp only [lval]
      have hsz := BR3.out.size
      go_wp2_with (at_builtin; refine wpList_append_own_at _ rfl _ _ 35 rfl w2.heap.size 50 i0 _ 8 80 Tryz.underlying35 hi hz0 hz1 hz2 rfl (by decide) _ _ _ rfl (RO3.out.alloc _) ⟨w3.heap.size, 0, none⟩ 1 1 [.int .i64 i1, .int .i64 i2, .int .i64 i3, .int .i64 i4, .int .i64 i5, .int .i64 i6, .int .i64 i7, .slice p2 n2 c3] rfl rfl (World.news_of_block (cs := #[.int .i64 i1, .int .i64 i2, .int .i64 i3, .int .i64 i4, .int .i64 i5, .int .i64 i6, .int .i64 i7, .slice p2 n2 c3]) (t := 50) (fr := (0, 0)) (heap_alloc_new w3 _)) (by simp [Value.oneCell']) (by unfold maxLen; omega) (by omega) (by simp; omega) ?_; intro v5 w5 hown5 hg5 _ hat5; have B5 := Lib.hid ((BR3.out.alloc hsz (.cells #[.int .i64 i1, .int .i64 i2, .int .i64 i3, .int .i64 i4, .int .i64 i5, .int .i64 i6, .int .i64 i7, .slice p2 n2 c3] 50)).grown hg5 (Nat.le_trans hsz (size_alloc _ _)) (fun i hi => (own_lt RO3.out hi).1)))
      have P5 := Lib.hid (PS.out _ w5 v5 hg5 hat5)
      obtain ⟨q3, d3, rfl⟩ := own_slice hown5
      have O5 := Lib.hid hown5
      have LK := Lib.hid (show (Lk ++ [(⟨⟨i1, i2, i3, i4, i5, i6, i7, S⟩, p2, n2, c3⟩ : Lv)]).length = k + 1 by rw [List.length_append, LL.out]; rfl)
      clear hown5 hg5 hat5 PS
      go_roundw
      case rel => exact ⟨k + 1, _, by omega, by go_num, ⟨_, _, rfl⟩, Lib.hid (by
        rw [TK.out]
        exact P5.out), LK, Lib.hid (by
        rw [← flat_snoc]
        exact O5.out), B5⟩
      case measure => simp [RowKit.intOf]; omega
    · obtain rfl : k = N := by omega
      go_wp2
      go_ret
      have hlt : (lts L).length = k := by rw [lts, List.length_map]; exact HN.out
      have h1 := PA.out
      rw [List.take_of_length_le (by rw [hlt]; exact Nat.le_refl _)] at h1
      refine ⟨.slice q2 k d2, Lk, h1.1, rfl, ?_, fun y hy => ⟨(h1.2 y hy).1, fun j hj => Nat.le_trans H2.out ((h1.2 y hy).2 j hj).1⟩, BA.out⟩
      rw [LL.out]
      exact Ms.own_floor RO.out H2.out
end Lo
end Go.Proofs.YtkfmkchonlajpaaGreat
