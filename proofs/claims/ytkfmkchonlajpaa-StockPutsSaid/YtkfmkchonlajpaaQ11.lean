/- Walks over package stock: Move. No condition but those written. Walks over package stock: Put, Give, Given, Lot. No condition but those written. slices.Sorted, slices.Sort and maps.Keys over this program: the shelf's laying, by its own tool; no condition but those written. slices.Sorted(maps.Keys(m)) at package master's maps: the numbers of what there is, in order. No condition but those written. -/
import Derived.Test.YtkfmkchonlajpaaQ10
import Derived.Shelf.SlIterI.Nil
import Derived.Shelf.SortM.Plain
import Derived.Shelf.SortM.SortNone
import Derived.Ground.GgzProg
import Derived.Ground.SlgmProg
import Derived.Test.YtkfmkchonlajpaaProg
import Derived.Test.YtkfmkchonlajpaaQ03
namespace Go.Proofs.Ytkfmkchonlajpaa
open Go.RowKit Go.Maps

namespace Lo
set_option maxRecDepth 100000 in
set_option maxHeartbeats 8000000 in
theorem pmove_none (B h Bm hm : Nat) (Fm : Nat → Prop) (M : Ms.Face) (mo : Option Nat) (given : Int) (L : List Lv) (Z : List Ms.Zn) (P : List Ms.Pd) (id zone now : Int) (w : World) (hp : PL w B h mo given L) (hM : M.DB w Bm hm Fm Z P) (hG : Good (lts L, given)) (hi1 : I64 id) (hz1 : I64 zone) (hno : at_ id (lts L) = none ∨ Ms.findK Ms.Zn.id zone Z = none) :
    Calls Try.prog 20 #[.pointer (some ⟨h, 0, none⟩), .pointer (some ⟨hm, 0, none⟩), .int .i64 id, .int .i64 zone, .int .i64 now] w fun e w' => e = .returned (.int .i64 5) ∧ LeftL w B h mo L (lts L, given) w' := by
  have HE := Lib.hid (fun W (hW : Below w.heap.size w W) => leftL_same hp hW)
  cases ha : at_ id (lts L) with
  | none =>
    have C := Lib.hid (plot_no hp hi1 ha)
    clear ha hp hG hno hM
    simp only [rval, lr0] at C
    go_enter Try.func20, Try.ntmps20
    go_wp2_with fail
    refine C.out.mono ?_
    rintro e w1 ⟨rfl, hb⟩
    have B2 := Lib.hid (hb.alloc hb.size (.cells #[.int .i64 0, .int .i64 0, .int .i64 0, .int .i64 0, .int .i64 0, .int .i64 0, .int .i64 0, .slice none 0 0] 32))
    clear hb
    go_wp2
    go_ret
    exact ⟨rfl, HE.out _ B2.out⟩
  | some i =>
    have hz : Ms.findK Ms.Zn.id zone Z = none := hno.resolve_left (by rw [ha]; simp)
    obtain ⟨y, hy, hyx⟩ := at_of ha
    have C1 := Lib.hid (fun W (hW : Below w.heap.size w W) => plot_yes (hp.keep hW) hi1 ha hy)
    have CF := Lib.hid (fun W (hW : Below w.heap.size w W) => pfind_any M Bm hm Fm Z P zone W (M.keep hM hW) hz1)
    have H0 := lot_here hp hG hy
    have CW := Lib.hid (fun W (hW : Below w.heap.size w W) => pwhere_any y W (H0.1.keep hW) H0.2.1)
    rw [hz] at CF
    clear ha hp hG hno hM hz hy hyx H0
    simp only [Option.getD_none, Option.isSome_none, Ms.zval, Ms.zn0] at CF
    generalize inL y.x = zi at *
    obtain ⟨⟨i1, i2, i3, i4, i5, i6, i7, S⟩, p, n, c⟩ := y
    simp only [lval] at C1 CW
    go_enter Try.func20, Try.ntmps20
    go_wp2_with fail
    refine (C1.out _ (Below.refl _ _)).mono ?_
    rintro e w1 ⟨rfl, hb⟩
    have B2 := Lib.hid (hb.alloc hb.size (.cells #[.int .i64 i1, .int .i64 i2, .int .i64 i3, .int .i64 i4, .int .i64 i5, .int .i64 i6, .int .i64 i7, .slice p n c] 32))
    have X2 := Lib.hid (Lies.new w1 32 #[.int .i64 i1, .int .i64 i2, .int .i64 i3, .int .i64 i4, .int .i64 i5, .int .i64 i6, .int .i64 i7, .slice p n c])
    clear hb
    go_upto_region 4 with fail
    generalize w1.alloc (.cells #[.int .i64 i1, .int .i64 i2, .int .i64 i3, .int .i64 i4, .int .i64 i5, .int .i64 i6, .int .i64 i7, .slice p n c] 32) = w2 at *
    go_wp2_with fail
    refine (CF.out _ B2.out).mono ?_
    rintro e w3 ⟨rfl, hb⟩
    have B3 := Lib.hid (B2.out.trans (hb.mono B2.out.size))
    have X3 := Lib.hid (X2.out.below hb X2.out.lt)
    have B4 := Lib.hid (B3.out.alloc B3.out.size (.cells #[.int .i64 0, .int .i64 0, .int .i64 0, .int .i64 0, .bool false, .int .i64 0] 45))
    have X4 := Lib.hid (X3.out.alloc (.cells #[.int .i64 0, .int .i64 0, .int .i64 0, .int .i64 0, .bool false, .int .i64 0] 45))
    clear hb X2 X3
    go_upto_region 5 with fail
    generalize w3.alloc (.cells #[.int .i64 0, .int .i64 0, .int .i64 0, .int .i64 0, .bool false, .int .i64 0] 45) = w4 at *
    have x0 : w4.cell? ⟨w1.heap.size, 0, none⟩ = some (.int .i64 i1) := X4.out.cell 0
    have x1 : w4.cell? ⟨w1.heap.size, 1, none⟩ = some (.int .i64 i2) := X4.out.cell 1
    have x2 : w4.cell? ⟨w1.heap.size, 2, none⟩ = some (.int .i64 i3) := X4.out.cell 2
    have x3 : w4.cell? ⟨w1.heap.size, 3, none⟩ = some (.int .i64 i4) := X4.out.cell 3
    have x4 : w4.cell? ⟨w1.heap.size, 4, none⟩ = some (.int .i64 i5) := X4.out.cell 4
    have x5 : w4.cell? ⟨w1.heap.size, 5, none⟩ = some (.int .i64 i6) := X4.out.cell 5
    have x6 : w4.cell? ⟨w1.heap.size, 6, none⟩ = some (.int .i64 i7) := X4.out.cell 6
    have x7 : w4.cell? ⟨w1.heap.size, 7, none⟩ = some (.slice p n c) := X4.out.cell 7
    go_wp2_with fail
    refine (CW.out _ B4.out).mono ?_
    rintro e w5 ⟨rfl, hb⟩
    have B5 := Lib.hid (B4.out.trans (hb.mono B4.out.size))
    go_wp2
    go_ret
    exact ⟨rfl, HE.out _ B5.out⟩
set_option maxRecDepth 100000 in
set_option maxHeartbeats 16000000 in
theorem pmove_some (B h Bm hm : Nat) (Fm : Nat → Prop) (M : Ms.Face) (mo : Option Nat) (given : Int) (L : List Lv) (Z : List Ms.Zn) (P : List Ms.Pd) (id zone now : Int) (w : World) (hp : PL w B h mo given L) (hM : M.DB w Bm hm Fm Z P) (hG : Good (lts L, given)) (hi1 : I64 id) (hz1 : I64 zone) (hZ : Ms.GoodZ Z) (i : Nat) (y : Lv) (zz : Ms.Zn) (ha : at_ id (lts L) = some i) (hy : L[i]? = some y) (hyx : (lts L)[i]? = some y.x) (hz : Ms.findK Ms.Zn.id zone Z = some zz) :
    Calls Try.prog 20 #[.pointer (some ⟨h, 0, none⟩), .pointer (some ⟨hm, 0, none⟩), .int .i64 id, .int .i64 zone, .int .i64 now] w fun e w' => e = .returned (.int .i64 ((moveS Z (lts L, given) id zone now).1 : Nat)) ∧ LeftL w B h mo L (moveS Z (lts L, given) id zone now).2 w' := by
  have HE := Lib.hid (fun W (hW : Below w.heap.size w W) => leftL_same hp hW)
  rw [move_some (s := (lts L, given)) ha hyx hz]
  have C1 := Lib.hid (fun W (hW : Below w.heap.size w W) => plot_yes (hp.keep hW) hi1 ha hy)
  have CF := Lib.hid (fun W (hW : Below w.heap.size w W) => pfind_any M Bm hm Fm Z P zone W (M.keep hM hW) hz1)
  have H0 := lot_here hp hG hy
  have CW := Lib.hid (fun W (hW : Below w.heap.size w W) => pwhere_any y W (H0.1.keep hW) H0.2.1)
  have hzid := (Ms.find_some hz).2
  have hzr := Ms.rightZ_id (hZ.right zz (Ms.find_some hz).1)
  rw [hzid] at hzr
  have CR := Lib.hid (fun W (hW : Below w.heap.size w W) => proom_any B h mo given L zz y.x.units W (hp.keep hW) hG (by have := H0.2.2.2.2; omega))
  have KP := Lib.hid (fun w1 y' s' => pkeep_at (y' := y') (s' := s') (w1 := w1) hp hG hy)
  rw [hz] at CF
  rw [hzid] at CR
  simp only [Option.getD_some, Option.isSome_some] at CF
  by_cases h1 : inL y.x = 0
  · rw [if_pos h1]
    rw [h1] at CW
    clear ha hp hG hM hz hy hyx H0 hzid hzr hZ CR KP h1
    obtain ⟨za, zb, zc, zd, ze, zf⟩ := zz
    obtain ⟨⟨i1, i2, i3, i4, i5, i6, i7, S⟩, p, n, c⟩ := y
    simp only [lval, Ms.zval] at C1 CW CF
    go_enter Try.func20, Try.ntmps20
    go_wp2_with fail
    refine (C1.out _ (Below.refl _ _)).mono ?_
    rintro e w1 ⟨rfl, hb⟩
    have B2 := Lib.hid (hb.alloc hb.size (.cells #[.int .i64 i1, .int .i64 i2, .int .i64 i3, .int .i64 i4, .int .i64 i5, .int .i64 i6, .int .i64 i7, .slice p n c] 32))
    have X2 := Lib.hid (Lies.new w1 32 #[.int .i64 i1, .int .i64 i2, .int .i64 i3, .int .i64 i4, .int .i64 i5, .int .i64 i6, .int .i64 i7, .slice p n c])
    clear hb
    go_upto_region 4 with fail
    generalize w1.alloc (.cells #[.int .i64 i1, .int .i64 i2, .int .i64 i3, .int .i64 i4, .int .i64 i5, .int .i64 i6, .int .i64 i7, .slice p n c] 32) = w2 at *
    go_wp2_with fail
    refine (CF.out _ B2.out).mono ?_
    rintro e w3 ⟨rfl, hb⟩
    have B3 := Lib.hid (B2.out.trans (hb.mono B2.out.size))
    have X3 := Lib.hid (X2.out.below hb X2.out.lt)
    have B4 := Lib.hid (B3.out.alloc B3.out.size (.cells #[.int .i64 za, .int .i64 zb, .int .i64 zc, .int .i64 zd, .bool ze, .int .i64 zf] 45))
    have X4 := Lib.hid (X3.out.alloc (.cells #[.int .i64 za, .int .i64 zb, .int .i64 zc, .int .i64 zd, .bool ze, .int .i64 zf] 45))
    clear hb X2 X3
    go_upto_region 5 with fail
    generalize w3.alloc (.cells #[.int .i64 za, .int .i64 zb, .int .i64 zc, .int .i64 zd, .bool ze, .int .i64 zf] 45) = w4 at *
    have x0 : w4.cell? ⟨w1.heap.size, 0, none⟩ = some (.int .i64 i1) := X4.out.cell 0
    have x1 : w4.cell? ⟨w1.heap.size, 1, none⟩ = some (.int .i64 i2) := X4.out.cell 1
    have x2 : w4.cell? ⟨w1.heap.size, 2, none⟩ = some (.int .i64 i3) := X4.out.cell 2
    have x3 : w4.cell? ⟨w1.heap.size, 3, none⟩ = some (.int .i64 i4) := X4.out.cell 3
    have x4 : w4.cell? ⟨w1.heap.size, 4, none⟩ = some (.int .i64 i5) := X4.out.cell 4
    have x5 : w4.cell? ⟨w1.heap.size, 5, none⟩ = some (.int .i64 i6) := X4.out.cell 5
    have x6 : w4.cell? ⟨w1.heap.size, 6, none⟩ = some (.int .i64 i7) := X4.out.cell 6
    have x7 : w4.cell? ⟨w1.heap.size, 7, none⟩ = some (.slice p n c) := X4.out.cell 7
    go_wp2_with fail
    refine (CW.out _ B4.out).mono ?_
    rintro e w5 ⟨rfl, hb⟩
    have B5 := Lib.hid (B4.out.trans (hb.mono B4.out.size))
    go_wp2
    go_ret
    exact ⟨rfl, HE.out _ B5.out⟩
  rw [if_neg h1]
  have h1' : (inL y.x == 0) = false := by simp [h1]
  by_cases h2 : inL y.x = zone
  · rw [if_pos h2]
    have h2' : (inL y.x == zone) = true := by simp [h2]
    generalize inL y.x = zi at *
    clear ha hp hG hM hz hy hyx H0 hzid hzr hZ CR KP h1 h2
    obtain ⟨za, zb, zc, zd, ze, zf⟩ := zz
    obtain ⟨⟨i1, i2, i3, i4, i5, i6, i7, S⟩, p, n, c⟩ := y
    simp only [lval, Ms.zval] at C1 CW CF
    go_enter Try.func20, Try.ntmps20
    go_wp2_with fail
    refine (C1.out _ (Below.refl _ _)).mono ?_
    rintro e w1 ⟨rfl, hb⟩
    have B2 := Lib.hid (hb.alloc hb.size (.cells #[.int .i64 i1, .int .i64 i2, .int .i64 i3, .int .i64 i4, .int .i64 i5, .int .i64 i6, .int .i64 i7, .slice p n c] 32))
    have X2 := Lib.hid (Lies.new w1 32 #[.int .i64 i1, .int .i64 i2, .int .i64 i3, .int .i64 i4, .int .i64 i5, .int .i64 i6, .int .i64 i7, .slice p n c])
    clear hb
    go_upto_region 4 with fail
    generalize w1.alloc (.cells #[.int .i64 i1, .int .i64 i2, .int .i64 i3, .int .i64 i4, .int .i64 i5, .int .i64 i6, .int .i64 i7, .slice p n c] 32) = w2 at *
    go_wp2_with fail
    refine (CF.out _ B2.out).mono ?_
    rintro e w3 ⟨rfl, hb⟩
    have B3 := Lib.hid (B2.out.trans (hb.mono B2.out.size))
    have X3 := Lib.hid (X2.out.below hb X2.out.lt)
    have B4 := Lib.hid (B3.out.alloc B3.out.size (.cells #[.int .i64 za, .int .i64 zb, .int .i64 zc, .int .i64 zd, .bool ze, .int .i64 zf] 45))
    have X4 := Lib.hid (X3.out.alloc (.cells #[.int .i64 za, .int .i64 zb, .int .i64 zc, .int .i64 zd, .bool ze, .int .i64 zf] 45))
    clear hb X2 X3
    go_upto_region 5 with fail
    generalize w3.alloc (.cells #[.int .i64 za, .int .i64 zb, .int .i64 zc, .int .i64 zd, .bool ze, .int .i64 zf] 45) = w4 at *
    have x0 : w4.cell? ⟨w1.heap.size, 0, none⟩ = some (.int .i64 i1) := X4.out.cell 0
    have x1 : w4.cell? ⟨w1.heap.size, 1, none⟩ = some (.int .i64 i2) := X4.out.cell 1
    have x2 : w4.cell? ⟨w1.heap.size, 2, none⟩ = some (.int .i64 i3) := X4.out.cell 2
    have x3 : w4.cell? ⟨w1.heap.size, 3, none⟩ = some (.int .i64 i4) := X4.out.cell 3
    have x4 : w4.cell? ⟨w1.heap.size, 4, none⟩ = some (.int .i64 i5) := X4.out.cell 4
    have x5 : w4.cell? ⟨w1.heap.size, 5, none⟩ = some (.int .i64 i6) := X4.out.cell 5
    have x6 : w4.cell? ⟨w1.heap.size, 6, none⟩ = some (.int .i64 i7) := X4.out.cell 6
    have x7 : w4.cell? ⟨w1.heap.size, 7, none⟩ = some (.slice p n c) := X4.out.cell 7
    go_wp2_with fail
    refine (CW.out _ B4.out).mono ?_
    rintro e w5 ⟨rfl, hb⟩
    have B5 := Lib.hid (B4.out.trans (hb.mono B4.out.size))
    go_wp2
    go_ret
    exact ⟨rfl, HE.out _ B5.out⟩
  rw [if_neg h2]
  have h2' : (inL y.x == zone) = false := by simp [h2]
  generalize inL y.x = zi at *
  simp only at CR ⊢
  generalize loadL (lts L) zone = ld at *
  by_cases h3 : zz.room < ld + y.x.units
  · rw [if_pos h3]
    have h3' : decide (ld + y.x.units ≤ zz.room) = false := by simp; omega
    rw [h3'] at CR
    clear ha hp hG hM hz hy hyx H0 hzid hzr hZ KP h1 h2 h3 h3'
    obtain ⟨za, zb, zc, zd, ze, zf⟩ := zz
    obtain ⟨⟨i1, i2, i3, i4, i5, i6, i7, S⟩, p, n, c⟩ := y
    simp only [lval, Ms.zval] at C1 CW CF CR
    go_enter Try.func20, Try.ntmps20
    go_wp2_with fail
    refine (C1.out _ (Below.refl _ _)).mono ?_
    rintro e w1 ⟨rfl, hb⟩
    have B2 := Lib.hid (hb.alloc hb.size (.cells #[.int .i64 i1, .int .i64 i2, .int .i64 i3, .int .i64 i4, .int .i64 i5, .int .i64 i6, .int .i64 i7, .slice p n c] 32))
    have X2 := Lib.hid (Lies.new w1 32 #[.int .i64 i1, .int .i64 i2, .int .i64 i3, .int .i64 i4, .int .i64 i5, .int .i64 i6, .int .i64 i7, .slice p n c])
    have HW := Lib.hid hb.size
    clear hb
    go_upto_region 4 with fail
    generalize w1.alloc (.cells #[.int .i64 i1, .int .i64 i2, .int .i64 i3, .int .i64 i4, .int .i64 i5, .int .i64 i6, .int .i64 i7, .slice p n c] 32) = w2 at *
    go_wp2_with fail
    refine (CF.out _ B2.out).mono ?_
    rintro e w3 ⟨rfl, hb⟩
    have B3 := Lib.hid (B2.out.trans (hb.mono B2.out.size))
    have X3 := Lib.hid (X2.out.below hb X2.out.lt)
    have B4 := Lib.hid (B3.out.alloc B3.out.size (.cells #[.int .i64 za, .int .i64 zb, .int .i64 zc, .int .i64 zd, .bool ze, .int .i64 zf] 45))
    have X4 := Lib.hid (X3.out.alloc (.cells #[.int .i64 za, .int .i64 zb, .int .i64 zc, .int .i64 zd, .bool ze, .int .i64 zf] 45))
    have Y4 := Lib.hid (Lies.new w3 45 #[.int .i64 za, .int .i64 zb, .int .i64 zc, .int .i64 zd, .bool ze, .int .i64 zf])
    clear hb X2 X3
    go_upto_region 5 with fail
    generalize w3.alloc (.cells #[.int .i64 za, .int .i64 zb, .int .i64 zc, .int .i64 zd, .bool ze, .int .i64 zf] 45) = w4 at *
    have x0 : w4.cell? ⟨w1.heap.size, 0, none⟩ = some (.int .i64 i1) := X4.out.cell 0
    have x1 : w4.cell? ⟨w1.heap.size, 1, none⟩ = some (.int .i64 i2) := X4.out.cell 1
    have x2 : w4.cell? ⟨w1.heap.size, 2, none⟩ = some (.int .i64 i3) := X4.out.cell 2
    have x3 : w4.cell? ⟨w1.heap.size, 3, none⟩ = some (.int .i64 i4) := X4.out.cell 3
    have x4 : w4.cell? ⟨w1.heap.size, 4, none⟩ = some (.int .i64 i5) := X4.out.cell 4
    have x5 : w4.cell? ⟨w1.heap.size, 5, none⟩ = some (.int .i64 i6) := X4.out.cell 5
    have x6 : w4.cell? ⟨w1.heap.size, 6, none⟩ = some (.int .i64 i7) := X4.out.cell 6
    have x7 : w4.cell? ⟨w1.heap.size, 7, none⟩ = some (.slice p n c) := X4.out.cell 7
    go_wp2_with fail
    refine (CW.out _ B4.out).mono ?_
    rintro e w5 ⟨rfl, hb⟩
    have B5 := Lib.hid (B4.out.trans (hb.mono B4.out.size))
    have X5 := Lib.hid (X4.out.below hb X4.out.lt)
    have Y5 := Lib.hid (Y4.out.below hb Y4.out.lt)
    clear hb x0 x1 x2 x3 x4 x5 x6 x7 X4 Y4
    have x2 : w5.cell? ⟨w1.heap.size, 2, none⟩ = some (.int .i64 i3) := X5.out.cell 2
    have y0 : w5.cell? ⟨w3.heap.size, 0, none⟩ = some (.int .i64 za) := Y5.out.cell 0
    have y1 : w5.cell? ⟨w3.heap.size, 1, none⟩ = some (.int .i64 zb) := Y5.out.cell 1
    have y2 : w5.cell? ⟨w3.heap.size, 2, none⟩ = some (.int .i64 zc) := Y5.out.cell 2
    have y3 : w5.cell? ⟨w3.heap.size, 3, none⟩ = some (.int .i64 zd) := Y5.out.cell 3
    have y4 : w5.cell? ⟨w3.heap.size, 4, none⟩ = some (.bool ze) := Y5.out.cell 4
    have y5 : w5.cell? ⟨w3.heap.size, 5, none⟩ = some (.int .i64 zf) := Y5.out.cell 5
    go_wp2_with fail
    refine (CR.out _ B5.out).mono ?_
    rintro e w6 ⟨rfl, hb⟩
    have B6 := Lib.hid (B5.out.trans (hb.mono B5.out.size))
    clear hb
    go_wp2
    go_ret
    exact ⟨rfl, HE.out _ B6.out⟩
  rw [if_neg h3]
  have h3' : decide (ld + y.x.units ≤ zz.room) = true := by simp; omega
  rw [h3'] at CR
  have ST := Lib.hid H0.1
  by_cases h4 : Sy.May y.x.stays now
  case neg =>
    rw [if_neg (fun h => h4 h.1)]
    have CT := Lib.hid (fun W (hW : Below w.heap.size w W) => Sy.sface.enter_no y.p y.n y.c y.x.stays zone now W (ST.out.keep hW).1 H0.2.1 (fun h => h4 h.1))
    clear ha hp hG hM hz hy hyx H0 hzid hzr hZ KP h1 h2 h3 h3' h4
    obtain ⟨za, zb, zc, zd, ze, zf⟩ := zz
    obtain ⟨⟨i1, i2, i3, i4, i5, i6, i7, S⟩, p, n, c⟩ := y
    simp only [lval, Ms.zval] at C1 CW CF CR
    go_enter Try.func20, Try.ntmps20
    go_wp2_with fail
    refine (C1.out _ (Below.refl _ _)).mono ?_
    rintro e w1 ⟨rfl, hb⟩
    have B2 := Lib.hid (hb.alloc hb.size (.cells #[.int .i64 i1, .int .i64 i2, .int .i64 i3, .int .i64 i4, .int .i64 i5, .int .i64 i6, .int .i64 i7, .slice p n c] 32))
    have X2 := Lib.hid (Lies.new w1 32 #[.int .i64 i1, .int .i64 i2, .int .i64 i3, .int .i64 i4, .int .i64 i5, .int .i64 i6, .int .i64 i7, .slice p n c])
    have HW := Lib.hid hb.size
    clear hb
    go_upto_region 4 with fail
    generalize w1.alloc (.cells #[.int .i64 i1, .int .i64 i2, .int .i64 i3, .int .i64 i4, .int .i64 i5, .int .i64 i6, .int .i64 i7, .slice p n c] 32) = w2 at *
    go_wp2_with fail
    refine (CF.out _ B2.out).mono ?_
    rintro e w3 ⟨rfl, hb⟩
    have B3 := Lib.hid (B2.out.trans (hb.mono B2.out.size))
    have X3 := Lib.hid (X2.out.below hb X2.out.lt)
    have B4 := Lib.hid (B3.out.alloc B3.out.size (.cells #[.int .i64 za, .int .i64 zb, .int .i64 zc, .int .i64 zd, .bool ze, .int .i64 zf] 45))
    have X4 := Lib.hid (X3.out.alloc (.cells #[.int .i64 za, .int .i64 zb, .int .i64 zc, .int .i64 zd, .bool ze, .int .i64 zf] 45))
    have Y4 := Lib.hid (Lies.new w3 45 #[.int .i64 za, .int .i64 zb, .int .i64 zc, .int .i64 zd, .bool ze, .int .i64 zf])
    clear hb X2 X3
    go_upto_region 5 with fail
    generalize w3.alloc (.cells #[.int .i64 za, .int .i64 zb, .int .i64 zc, .int .i64 zd, .bool ze, .int .i64 zf] 45) = w4 at *
    have x0 : w4.cell? ⟨w1.heap.size, 0, none⟩ = some (.int .i64 i1) := X4.out.cell 0
    have x1 : w4.cell? ⟨w1.heap.size, 1, none⟩ = some (.int .i64 i2) := X4.out.cell 1
    have x2 : w4.cell? ⟨w1.heap.size, 2, none⟩ = some (.int .i64 i3) := X4.out.cell 2
    have x3 : w4.cell? ⟨w1.heap.size, 3, none⟩ = some (.int .i64 i4) := X4.out.cell 3
    have x4 : w4.cell? ⟨w1.heap.size, 4, none⟩ = some (.int .i64 i5) := X4.out.cell 4
    have x5 : w4.cell? ⟨w1.heap.size, 5, none⟩ = some (.int .i64 i6) := X4.out.cell 5
    have x6 : w4.cell? ⟨w1.heap.size, 6, none⟩ = some (.int .i64 i7) := X4.out.cell 6
    have x7 : w4.cell? ⟨w1.heap.size, 7, none⟩ = some (.slice p n c) := X4.out.cell 7
    go_wp2_with fail
    refine (CW.out _ B4.out).mono ?_
    rintro e w5 ⟨rfl, hb⟩
    have B5 := Lib.hid (B4.out.trans (hb.mono B4.out.size))
    have X5 := Lib.hid (X4.out.below hb X4.out.lt)
    have Y5 := Lib.hid (Y4.out.below hb Y4.out.lt)
    clear hb x0 x1 x2 x3 x4 x5 x6 x7 X4 Y4
    have x2 : w5.cell? ⟨w1.heap.size, 2, none⟩ = some (.int .i64 i3) := X5.out.cell 2
    have y0 : w5.cell? ⟨w3.heap.size, 0, none⟩ = some (.int .i64 za) := Y5.out.cell 0
    have y1 : w5.cell? ⟨w3.heap.size, 1, none⟩ = some (.int .i64 zb) := Y5.out.cell 1
    have y2 : w5.cell? ⟨w3.heap.size, 2, none⟩ = some (.int .i64 zc) := Y5.out.cell 2
    have y3 : w5.cell? ⟨w3.heap.size, 3, none⟩ = some (.int .i64 zd) := Y5.out.cell 3
    have y4 : w5.cell? ⟨w3.heap.size, 4, none⟩ = some (.bool ze) := Y5.out.cell 4
    have y5 : w5.cell? ⟨w3.heap.size, 5, none⟩ = some (.int .i64 zf) := Y5.out.cell 5
    go_wp2_with fail
    refine (CR.out _ B5.out).mono ?_
    rintro e w6 ⟨rfl, hb⟩
    have B6 := Lib.hid (B5.out.trans (hb.mono B5.out.size))
    have X6 := Lib.hid (X5.out.below hb X5.out.lt)
    clear hb x2 y0 y1 y2 y3 y4 y5 X5 Y5
    have x7 : w6.cell? ⟨w1.heap.size, 7, none⟩ = some (.slice p n c) := X6.out.cell 7
    go_wp2_with fail
    refine (CT.out _ B6.out).mono ?_
    rintro e w7 ⟨rfl, hb⟩
    have B7 := Lib.hid (B6.out.trans (hb.mono B6.out.size))
    have X7 := Lib.hid (X6.out.below hb X6.out.lt)
    clear hb x7
    have x7 : w7.cell? ⟨w1.heap.size, 7, none⟩ = some (.slice p n c) := X7.out.cell 7
    have g7 := X7.out.frozen 7
    have B8 := Lib.hid (B7.out.setCell (p := ⟨w1.heap.size, 7, none⟩) HW.out (.slice none 0 0))
    go_wp2
    go_ret
    exact ⟨rfl, HE.out _ B8.out⟩
  rw [if_pos ⟨h4, hzr.1⟩]
  have CT := Lib.hid (fun W (hW : Below w.heap.size w W) => Sy.sface.enter y.p y.n y.c y.x.stays zone now W (ST.out.keep hW).1 H0.2.1 H0.1.2 h4 hzr.1)
  clear ha hp hG hM hz hy hyx H0 hzid hzr hZ h1 h2 h3 h3' h4
  obtain ⟨za, zb, zc, zd, ze, zf⟩ := zz
  obtain ⟨⟨i1, i2, i3, i4, i5, i6, i7, S⟩, p, n, c⟩ := y
  simp only [lval, Ms.zval] at C1 CW CF CR
  generalize hU : Sy.goS (Sy.untilS S now) zone now = U at *
  simp only at CT
  go_enter Try.func20, Try.ntmps20
  go_wp2_with fail
  refine (C1.out _ (Below.refl _ _)).mono ?_
  rintro e w1 ⟨rfl, hb⟩
  have B2 := Lib.hid (hb.alloc hb.size (.cells #[.int .i64 i1, .int .i64 i2, .int .i64 i3, .int .i64 i4, .int .i64 i5, .int .i64 i6, .int .i64 i7, .slice p n c] 32))
  have X2 := Lib.hid (Lies.new w1 32 #[.int .i64 i1, .int .i64 i2, .int .i64 i3, .int .i64 i4, .int .i64 i5, .int .i64 i6, .int .i64 i7, .slice p n c])
  have HW := Lib.hid hb.size
  clear hb
  go_upto_region 4 with fail
  generalize w1.alloc (.cells #[.int .i64 i1, .int .i64 i2, .int .i64 i3, .int .i64 i4, .int .i64 i5, .int .i64 i6, .int .i64 i7, .slice p n c] 32) = w2 at *
  go_wp2_with fail
  refine (CF.out _ B2.out).mono ?_
  rintro e w3 ⟨rfl, hb⟩
  have B3 := Lib.hid (B2.out.trans (hb.mono B2.out.size))
  have X3 := Lib.hid (X2.out.below hb X2.out.lt)
  have B4 := Lib.hid (B3.out.alloc B3.out.size (.cells #[.int .i64 za, .int .i64 zb, .int .i64 zc, .int .i64 zd, .bool ze, .int .i64 zf] 45))
  have X4 := Lib.hid (X3.out.alloc (.cells #[.int .i64 za, .int .i64 zb, .int .i64 zc, .int .i64 zd, .bool ze, .int .i64 zf] 45))
  have Y4 := Lib.hid (Lies.new w3 45 #[.int .i64 za, .int .i64 zb, .int .i64 zc, .int .i64 zd, .bool ze, .int .i64 zf])
  clear hb X2 X3
  go_upto_region 5 with fail
  generalize w3.alloc (.cells #[.int .i64 za, .int .i64 zb, .int .i64 zc, .int .i64 zd, .bool ze, .int .i64 zf] 45) = w4 at *
  have x0 : w4.cell? ⟨w1.heap.size, 0, none⟩ = some (.int .i64 i1) := X4.out.cell 0
  have x1 : w4.cell? ⟨w1.heap.size, 1, none⟩ = some (.int .i64 i2) := X4.out.cell 1
  have x2 : w4.cell? ⟨w1.heap.size, 2, none⟩ = some (.int .i64 i3) := X4.out.cell 2
  have x3 : w4.cell? ⟨w1.heap.size, 3, none⟩ = some (.int .i64 i4) := X4.out.cell 3
  have x4 : w4.cell? ⟨w1.heap.size, 4, none⟩ = some (.int .i64 i5) := X4.out.cell 4
  have x5 : w4.cell? ⟨w1.heap.size, 5, none⟩ = some (.int .i64 i6) := X4.out.cell 5
  have x6 : w4.cell? ⟨w1.heap.size, 6, none⟩ = some (.int .i64 i7) := X4.out.cell 6
  have x7 : w4.cell? ⟨w1.heap.size, 7, none⟩ = some (.slice p n c) := X4.out.cell 7
  go_wp2_with fail
  refine (CW.out _ B4.out).mono ?_
  rintro e w5 ⟨rfl, hb⟩
  have B5 := Lib.hid (B4.out.trans (hb.mono B4.out.size))
  have X5 := Lib.hid (X4.out.below hb X4.out.lt)
  have Y5 := Lib.hid (Y4.out.below hb Y4.out.lt)
  clear hb x0 x1 x2 x3 x4 x5 x6 x7 X4 Y4
  have x2 : w5.cell? ⟨w1.heap.size, 2, none⟩ = some (.int .i64 i3) := X5.out.cell 2
  have y0 : w5.cell? ⟨w3.heap.size, 0, none⟩ = some (.int .i64 za) := Y5.out.cell 0
  have y1 : w5.cell? ⟨w3.heap.size, 1, none⟩ = some (.int .i64 zb) := Y5.out.cell 1
  have y2 : w5.cell? ⟨w3.heap.size, 2, none⟩ = some (.int .i64 zc) := Y5.out.cell 2
  have y3 : w5.cell? ⟨w3.heap.size, 3, none⟩ = some (.int .i64 zd) := Y5.out.cell 3
  have y4 : w5.cell? ⟨w3.heap.size, 4, none⟩ = some (.bool ze) := Y5.out.cell 4
  have y5 : w5.cell? ⟨w3.heap.size, 5, none⟩ = some (.int .i64 zf) := Y5.out.cell 5
  go_wp2_with fail
  refine (CR.out _ B5.out).mono ?_
  rintro e w6 ⟨rfl, hb⟩
  have B6 := Lib.hid (B5.out.trans (hb.mono B5.out.size))
  have X6 := Lib.hid (X5.out.below hb X5.out.lt)
  clear hb x2 y0 y1 y2 y3 y4 y5 X5 Y5
  have x7 : w6.cell? ⟨w1.heap.size, 7, none⟩ = some (.slice p n c) := X6.out.cell 7
  go_wp2_with fail
  refine ((CT.out _ B6.out).mono (fun e w7 hh => ok_new hh)).mono ?_
  intro e w7 he
  obtain ⟨q, m, cc, rfl, hcm, hr, hk, hb⟩ := he
  have B7 := Lib.hid (B6.out.trans (hb.mono B6.out.size))
  have X7 := Lib.hid (X6.out.below hb X6.out.lt)
  have S7 := Lib.hid (show St w7 ⟨⟨i1, i2, i3, i4, i5, i6, i7, U⟩, q, m, cc⟩ from ⟨hr, hcm⟩)
  have K7 := Lib.hid (show ∀ k, Bk ⟨⟨i1, i2, i3, i4, i5, i6, i7, U⟩, q, m, cc⟩ k → w6.heap.size ≤ k from hk)
  have hx6 := Lib.hid X6.out.lt
  have hs6 := Lib.hid B6.out.size
  clear hb hk hr hcm x7
  have x7 : w7.cell? ⟨w1.heap.size, 7, none⟩ = some (.slice p n c) := X7.out.cell 7
  have g7 := X7.out.frozen 7
  have X8 : Hid (Lies (w7.setCell ⟨w1.heap.size, 7, none⟩ (.slice q m cc)) w1.heap.size 32 #[.int .i64 i1, .int .i64 i2, .int .i64 i3, .int .i64 i4, .int .i64 i5, .int .i64 i6, .int .i64 i7, .slice q m cc]) := Lib.hid (by simpa using X7.out.set_ 7 (.slice q m cc))
  have B8 := Lib.hid (B7.out.setCell (p := ⟨w1.heap.size, 7, none⟩) HW.out (.slice q m cc))
  have S8 := Lib.hid (S7.out.turn ((Turn.refl (fun k => k = w1.heap.size) w7).setCell (p := ⟨w1.heap.size, 7, none⟩) (.inl rfl) (.slice q m cc)) (fun k hk e => by have := K7.out k hk; have := hx6.out; omega))
  go_upto_region 15 with fail
  generalize w7.setCell ⟨w1.heap.size, 7, none⟩ (.slice q m cc) = w8 at *
  clear x7 g7
  have x0 : w8.cell? ⟨w1.heap.size, 0, none⟩ = some (.int .i64 i1) := X8.out.cell 0
  have x1 : w8.cell? ⟨w1.heap.size, 1, none⟩ = some (.int .i64 i2) := X8.out.cell 1
  have x2 : w8.cell? ⟨w1.heap.size, 2, none⟩ = some (.int .i64 i3) := X8.out.cell 2
  have x3 : w8.cell? ⟨w1.heap.size, 3, none⟩ = some (.int .i64 i4) := X8.out.cell 3
  have x4 : w8.cell? ⟨w1.heap.size, 4, none⟩ = some (.int .i64 i5) := X8.out.cell 4
  have x5 : w8.cell? ⟨w1.heap.size, 5, none⟩ = some (.int .i64 i6) := X8.out.cell 5
  have x6 : w8.cell? ⟨w1.heap.size, 6, none⟩ = some (.int .i64 i7) := X8.out.cell 6
  have x7 : w8.cell? ⟨w1.heap.size, 7, none⟩ = some (.slice q m cc) := X8.out.cell 7
  have hsz := hs6.out
  have KK := Lib.hid (KP.out w8 ⟨⟨i1, i2, i3, i4, i5, i6, i7, U⟩, q, m, cc⟩ ((lts L).set i ⟨i1, i2, i3, i4, i5, i6, i7, U⟩, given) B8.out rfl S8.out (fun k hk => .inr (by have := K7.out k hk; omega)) rfl)
  clear hsz
  simp only [lval] at KK
  go_wp2_with fail
  refine KK.out.mono ?_
  rintro e w9 ⟨rfl, hl⟩
  go_wp2
  go_ret
  exact ⟨rfl, hl⟩
theorem pmove_any (B h Bm hm : Nat) (Fm : Nat → Prop) (M : Ms.Face) (mo : Option Nat) (given : Int) (L : List Lv) (Z : List Ms.Zn) (P : List Ms.Pd) (id zone now : Int) (w : World) (hp : PL w B h mo given L) (hM : M.DB w Bm hm Fm Z P) (hG : Good (lts L, given)) (hi1 : I64 id) (hz1 : I64 zone) (hZ : Ms.GoodZ Z) :
    Calls Try.prog 20 #[.pointer (some ⟨h, 0, none⟩), .pointer (some ⟨hm, 0, none⟩), .int .i64 id, .int .i64 zone, .int .i64 now] w fun e w' => e = .returned (.int .i64 ((moveS Z (lts L, given) id zone now).1 : Nat)) ∧ LeftL w B h mo L (moveS Z (lts L, given) id zone now).2 w' := by
  cases ha : at_ id (lts L) with
  | none =>
    rw [move_none (.inl ha)]
    exact pmove_none B h Bm hm Fm M mo given L Z P id zone now w hp hM hG hi1 hz1 (.inl ha)
  | some i =>
    cases hz : Ms.findK Ms.Zn.id zone Z with
    | none =>
      rw [move_none (.inr hz)]
      exact pmove_none B h Bm hm Fm M mo given L Z P id zone now w hp hM hG hi1 hz1 (.inr hz)
    | some zz =>
      obtain ⟨y, hy, hyx⟩ := at_of ha
      exact pmove_some B h Bm hm Fm M mo given L Z P id zone now w hp hM hG hi1 hz1 hZ i y zz ha hy hyx hz
end Lo
end Go.Proofs.Ytkfmkchonlajpaa

namespace Go.Proofs.Ytkfmkchonlajpaa
open Go.RowKit Go.Maps

namespace Lo
theorem put_may {g : Int} {x : Lt} (h1 : g < x.id) (h2 : x.id ≤ 256) : (g < x.id ∧ x.id ≤ 256 ∧ 1 ≤ x.units ∧ x.units ≤ 1048576 ∧ 0 ≤ x.status ∧ x.status ≤ 4 ∧ Sy.Right x.stays ∧ 0 ≤ x.product ∧ 0 ≤ x.expiry ∧ 0 ≤ x.grant ∧ 0 ≤ x.order) ↔ mayB x = true := by
  unfold mayB
  simp only [Bool.and_eq_true, decide_eq_true_eq, Sy.right_B]
  constructor
  · rintro ⟨_, _, a, b, c, d, e, f⟩
    exact ⟨⟨a, b⟩, ⟨c, d⟩, e, f⟩
  · rintro ⟨⟨a, b⟩, ⟨c, d⟩, e, f⟩
    exact ⟨h1, h2, a, b, c, d, e, f⟩
/-- The lot that is put: kept with stays of its own. -/
theorem put_keep {B h : Nat} {mo : Option Nat} {given : Int} {L : List Lv} {w w2 w3 : World} {y : Lv} (hp : PL w B h mo given L) (hG : Good (lts L, given)) (hi : given < y.x.id ∧ y.x.id ≤ 256) (hl : Lies w2 h 60 #[.map mo, .int .i64 y.x.id]) (ht : Turn (fun k => k = h) w w2) (hb : Below w2.heap.size w2 w3) (hs : St w3 y) (hk : ∀ k, Bk y k → w2.heap.size ≤ k) :
    Calls Try.prog 24 #[.pointer (some ⟨h, 0, none⟩), lval y] w3 fun e w4 => e = .returned (.tuple #[]) ∧ LeftL w B h mo L (lts L ++ [y.x], y.x.id) w4 := by
  have hL := lots_len hG
  have hlt := hp.blk.lt
  have hbase := hp.base
  have hs1 := ht.size
  have hs2 := hb.size
  have hgv := hG.given
  simp only at hgv
  refine (pkeep_any B h mo y.x.id L (L ++ [y]) y w3 ((hp.regiven hl ht).keep hb) (nx_app (fun z hz => ?_)) hs (Ms.in64_of (by omega) (by omega)) (by omega) (fun k hk' => ?_) (by omega)).mono ?_
  · have := (hG.low z.x (List.mem_map.2 ⟨z, hz, rfl⟩)).2
    simp only at this
    omega
  · have := hk k hk'
    exact ⟨by omega, by omega, fun e => by have := (Ms.tab_lt hp.tab e).2; omega⟩
  · rintro e w4 ⟨rfl, q, hq, hP, hT⟩
    refine ⟨rfl, some q, _, ?_, hP, ?_, fun k e => ?_, fun k hk' => ?_⟩
    · rw [lts, List.map_append]
      rfl
    · exact ((ht.mono (fun _ _ hi => .inl hi)).trans (S' := fun k => k = h ∨ mo = some k) (Turn.of_below hb) (fun i hi => .inl hi)).trans hT (fun i hi => .inl hi)
    · rw [← Option.some.inj e]
      exact hq.imp id (fun h => by omega)
    · exact (bks_app hk').imp id (fun h => by have := hk k h; omega)
set_option maxRecDepth 100000 in
set_option maxHeartbeats 16000000 in
theorem pput_any (B h : Nat) (mo : Option Nat) (given : Int) (L : List Lv) (y : Lv) (w : World) (hp : PL w B h mo given L) (hG : Good (lts L, given)) (hy : St w y) (hn : y.n ≤ 1000000) (hah : ∀ k, Bk y k → k ≠ h) :
    Calls Try.prog 6 #[.pointer (some ⟨h, 0, none⟩), lval y] w fun e w' =>
      e = .returned (.int .i64 ((putS (lts L, given) y.x).1 : Nat)) ∧ LeftL w B h mo L (putS (lts L, given) y.x).2 w' := by
  have HE := Lib.hid (fun W (hW : Below w.heap.size w W) => leftL_same hp hW)
  have CM0 := Lib.hid (fun W (hW : Below w.heap.size w W) => pmaybe_any y W (hy.keep hW) hn)
  have CA := Lib.hid (fun W (hW : Turn (fun k => k = h) w W) => papart_any y W (hy.turn hW (fun k hk e => hah k hk e)) hn)
  have KP := Lib.hid (fun w2 w3 y2 => put_keep (w2 := w2) (w3 := w3) (y := y2) hp hG)
  have HL := Lib.hid hp.blk
  have hgv := hG.given
  simp only at hgv
  by_cases h1 : y.x.id ≤ given
  · rw [put_bad (s := (lts L, given)) (fun h => by simp only at h; omega)]
    have d1 : decide (y.x.id ≤ given) = true := decide_eq_true h1
    clear hp hG hy hn hah CM0 CA KP h1 hgv
    obtain ⟨⟨i1, i2, i3, i4, i5, i6, i7, S⟩, p, n, c⟩ := y
    simp only [lval] at *
    have B1 := Lib.hid (alloc_below w (.cells #[.int .i64 i1, .int .i64 i2, .int .i64 i3, .int .i64 i4, .int .i64 i5, .int .i64 i6, .int .i64 i7, .slice p n c] 32))
    have L1 := Lib.hid (HL.out.alloc (.cells #[.int .i64 i1, .int .i64 i2, .int .i64 i3, .int .i64 i4, .int .i64 i5, .int .i64 i6, .int .i64 i7, .slice p n c] 32))
    have X1 := Lib.hid (Lies.new w 32 #[.int .i64 i1, .int .i64 i2, .int .i64 i3, .int .i64 i4, .int .i64 i5, .int .i64 i6, .int .i64 i7, .slice p n c])
    obtain ⟨w1, hw1⟩ : ∃ w1, w.alloc (.cells #[.int .i64 i1, .int .i64 i2, .int .i64 i3, .int .i64 i4, .int .i64 i5, .int .i64 i6, .int .i64 i7, .slice p n c] 32) = w1 := ⟨_, rfl⟩
    rw [hw1] at B1 L1 X1
    have l1 : w1.cell? ⟨h, 1, none⟩ = some (.int .i64 given) := L1.out.cell 1
    have x0 : w1.cell? ⟨w.heap.size, 0, none⟩ = some (.int .i64 i1) := X1.out.cell 0
    go_enter Try.func6, Try.ntmps6
    go_wp2_with fail
    have kl := cell_regrown l1
    have k0 := cell_regrown x0
    clear l1 x0 hw1
    refine wp_region_quiet_below (by kernel_rfl) (by kernel_rfl) ?_
    repeat (go_big_quiet_step (fail))
    refine wpQuiet_nil ?_
    intro _ hw'
    obtain ⟨⟨dq, osq⟩, hw''⟩ := hw'
    subst hw''
    go_wp2
    go_ret
    exact ⟨rfl, HE.out _ (B1.out.trans ((below_regrown w1 dq osq).mono B1.out.size))⟩
  have d1 : decide (y.x.id ≤ given) = false := decide_eq_false h1
  by_cases h2 : 256 < y.x.id
  · rw [put_bad (s := (lts L, given)) (fun h => by simp only at h; omega)]
    have d2 : decide (y.x.id > 256) = true := decide_eq_true h2
    clear hp hG hy hn hah CM0 CA KP h1 h2 hgv
    obtain ⟨⟨i1, i2, i3, i4, i5, i6, i7, S⟩, p, n, c⟩ := y
    simp only [lval] at *
    have B1 := Lib.hid (alloc_below w (.cells #[.int .i64 i1, .int .i64 i2, .int .i64 i3, .int .i64 i4, .int .i64 i5, .int .i64 i6, .int .i64 i7, .slice p n c] 32))
    have L1 := Lib.hid (HL.out.alloc (.cells #[.int .i64 i1, .int .i64 i2, .int .i64 i3, .int .i64 i4, .int .i64 i5, .int .i64 i6, .int .i64 i7, .slice p n c] 32))
    have X1 := Lib.hid (Lies.new w 32 #[.int .i64 i1, .int .i64 i2, .int .i64 i3, .int .i64 i4, .int .i64 i5, .int .i64 i6, .int .i64 i7, .slice p n c])
    obtain ⟨w1, hw1⟩ : ∃ w1, w.alloc (.cells #[.int .i64 i1, .int .i64 i2, .int .i64 i3, .int .i64 i4, .int .i64 i5, .int .i64 i6, .int .i64 i7, .slice p n c] 32) = w1 := ⟨_, rfl⟩
    rw [hw1] at B1 L1 X1
    have l1 : w1.cell? ⟨h, 1, none⟩ = some (.int .i64 given) := L1.out.cell 1
    have x0 : w1.cell? ⟨w.heap.size, 0, none⟩ = some (.int .i64 i1) := X1.out.cell 0
    go_enter Try.func6, Try.ntmps6
    go_wp2_with fail
    have kl := cell_regrown l1
    have k0 := cell_regrown x0
    clear l1 x0 hw1
    refine wp_region_quiet_below (by kernel_rfl) (by kernel_rfl) ?_
    repeat (go_big_quiet_step (fail))
    refine wpQuiet_nil ?_
    intro _ hw'
    obtain ⟨⟨dq, osq⟩, hw''⟩ := hw'
    subst hw''
    go_wp2
    go_ret
    exact ⟨rfl, HE.out _ (B1.out.trans ((below_regrown w1 dq osq).mono B1.out.size))⟩
  have d2 : decide (y.x.id > 256) = false := decide_eq_false h2
  have hmay := put_may (g := given) (x := y.x) (by omega) (by omega)
  by_cases h3 : mayB y.x = true
  case neg =>
    have h3' : mayB y.x = false := by simpa using h3
    rw [put_bad (s := (lts L, given)) (fun h => h3 (hmay.1 h))]
    rw [h3'] at CM0
    clear hp hG hy hn hah CA KP h1 h2 h3 h3' hmay hgv
    obtain ⟨⟨i1, i2, i3, i4, i5, i6, i7, S⟩, p, n, c⟩ := y
    simp only [lval] at *
    have B1 := Lib.hid (alloc_below w (.cells #[.int .i64 i1, .int .i64 i2, .int .i64 i3, .int .i64 i4, .int .i64 i5, .int .i64 i6, .int .i64 i7, .slice p n c] 32))
    have L1 := Lib.hid (HL.out.alloc (.cells #[.int .i64 i1, .int .i64 i2, .int .i64 i3, .int .i64 i4, .int .i64 i5, .int .i64 i6, .int .i64 i7, .slice p n c] 32))
    have X1 := Lib.hid (Lies.new w 32 #[.int .i64 i1, .int .i64 i2, .int .i64 i3, .int .i64 i4, .int .i64 i5, .int .i64 i6, .int .i64 i7, .slice p n c])
    obtain ⟨w1, hw1⟩ : ∃ w1, w.alloc (.cells #[.int .i64 i1, .int .i64 i2, .int .i64 i3, .int .i64 i4, .int .i64 i5, .int .i64 i6, .int .i64 i7, .slice p n c] 32) = w1 := ⟨_, rfl⟩
    rw [hw1] at B1 L1 X1
    have l1 : w1.cell? ⟨h, 1, none⟩ = some (.int .i64 given) := L1.out.cell 1
    have x0 : w1.cell? ⟨w.heap.size, 0, none⟩ = some (.int .i64 i1) := X1.out.cell 0
    have x1 : w1.cell? ⟨w.heap.size, 1, none⟩ = some (.int .i64 i2) := X1.out.cell 1
    have x2 : w1.cell? ⟨w.heap.size, 2, none⟩ = some (.int .i64 i3) := X1.out.cell 2
    have x3 : w1.cell? ⟨w.heap.size, 3, none⟩ = some (.int .i64 i4) := X1.out.cell 3
    have x4 : w1.cell? ⟨w.heap.size, 4, none⟩ = some (.int .i64 i5) := X1.out.cell 4
    have x5 : w1.cell? ⟨w.heap.size, 5, none⟩ = some (.int .i64 i6) := X1.out.cell 5
    have x6 : w1.cell? ⟨w.heap.size, 6, none⟩ = some (.int .i64 i7) := X1.out.cell 6
    have x7 : w1.cell? ⟨w.heap.size, 7, none⟩ = some (.slice p n c) := X1.out.cell 7
    have cM : ∀ d os, Calls Try.prog 23 #[.agg #[.int .i64 i1, .int .i64 i2, .int .i64 i3, .int .i64 i4, .int .i64 i5, .int .i64 i6, .int .i64 i7, .slice p n c]] (Sort.grow (redrawn w1 d) os) fun e w'' => e = .returned (.bool false) ∧ ∃ q : Regrown, w'' = Sort.grow (redrawn w1 q.d) q.os :=
      fun d os => Calls.regrown_of (CM0.out _ (B1.out.trans ((below_regrown w1 d os).mono B1.out.size)))
    go_enter Try.func6, Try.ntmps6
    go_wp2_with fail
    have kl := cell_regrown l1
    have k0 := cell_regrown x0
    have k1 := cell_regrown x1
    have k2 := cell_regrown x2
    have k3 := cell_regrown x3
    have k4 := cell_regrown x4
    have k5 := cell_regrown x5
    have k6 := cell_regrown x6
    have k7 := cell_regrown x7
    have CM := Lib.hid cM
    clear l1 x0 x1 x2 x3 x4 x5 x6 x7 hw1 cM CM0
    refine wp_region_quiet_below (by kernel_rfl) (by kernel_rfl) ?_
    repeat (go_big_quiet_step (with_reducible exact CM.out _ _))
    refine wpQuiet_nil ?_
    intro _ hw'
    obtain ⟨⟨dq, osq⟩, hw''⟩ := hw'
    subst hw''
    go_wp2
    go_ret
    exact ⟨rfl, HE.out _ (B1.out.trans ((below_regrown w1 dq osq).mono B1.out.size))⟩
  rw [put_ok (s := (lts L, given)) (hmay.2 h3)]
  rw [h3] at CM0
  have HI := Lib.hid (show given < y.x.id ∧ y.x.id ≤ 256 by omega)
  clear hp hG hy hn hah h1 h2 h3 hmay hgv
  obtain ⟨⟨i1, i2, i3, i4, i5, i6, i7, S⟩, p, n, c⟩ := y
  simp only [lval] at *
  have B1 := Lib.hid (alloc_below w (.cells #[.int .i64 i1, .int .i64 i2, .int .i64 i3, .int .i64 i4, .int .i64 i5, .int .i64 i6, .int .i64 i7, .slice p n c] 32))
  have L1 := Lib.hid (HL.out.alloc (.cells #[.int .i64 i1, .int .i64 i2, .int .i64 i3, .int .i64 i4, .int .i64 i5, .int .i64 i6, .int .i64 i7, .slice p n c] 32))
  have X1 := Lib.hid (Lies.new w 32 #[.int .i64 i1, .int .i64 i2, .int .i64 i3, .int .i64 i4, .int .i64 i5, .int .i64 i6, .int .i64 i7, .slice p n c])
  obtain ⟨w1, hw1⟩ : ∃ w1, w.alloc (.cells #[.int .i64 i1, .int .i64 i2, .int .i64 i3, .int .i64 i4, .int .i64 i5, .int .i64 i6, .int .i64 i7, .slice p n c] 32) = w1 := ⟨_, rfl⟩
  rw [hw1] at B1 L1 X1
  have l1 : w1.cell? ⟨h, 1, none⟩ = some (.int .i64 given) := L1.out.cell 1
  have x0 : w1.cell? ⟨w.heap.size, 0, none⟩ = some (.int .i64 i1) := X1.out.cell 0
  have x1 : w1.cell? ⟨w.heap.size, 1, none⟩ = some (.int .i64 i2) := X1.out.cell 1
  have x2 : w1.cell? ⟨w.heap.size, 2, none⟩ = some (.int .i64 i3) := X1.out.cell 2
  have x3 : w1.cell? ⟨w.heap.size, 3, none⟩ = some (.int .i64 i4) := X1.out.cell 3
  have x4 : w1.cell? ⟨w.heap.size, 4, none⟩ = some (.int .i64 i5) := X1.out.cell 4
  have x5 : w1.cell? ⟨w.heap.size, 5, none⟩ = some (.int .i64 i6) := X1.out.cell 5
  have x6 : w1.cell? ⟨w.heap.size, 6, none⟩ = some (.int .i64 i7) := X1.out.cell 6
  have x7 : w1.cell? ⟨w.heap.size, 7, none⟩ = some (.slice p n c) := X1.out.cell 7
  have cM : ∀ d os, Calls Try.prog 23 #[.agg #[.int .i64 i1, .int .i64 i2, .int .i64 i3, .int .i64 i4, .int .i64 i5, .int .i64 i6, .int .i64 i7, .slice p n c]] (Sort.grow (redrawn w1 d) os) fun e w'' => e = .returned (.bool true) ∧ ∃ q : Regrown, w'' = Sort.grow (redrawn w1 q.d) q.os :=
    fun d os => Calls.regrown_of (CM0.out _ (B1.out.trans ((below_regrown w1 d os).mono B1.out.size)))
  go_enter Try.func6, Try.ntmps6
  go_wp2_with fail
  have kl := cell_regrown l1
  have k0 := cell_regrown x0
  have k1 := cell_regrown x1
  have k2 := cell_regrown x2
  have k3 := cell_regrown x3
  have k4 := cell_regrown x4
  have k5 := cell_regrown x5
  have k6 := cell_regrown x6
  have k7 := cell_regrown x7
  have CM := Lib.hid cM
  clear l1 x0 x1 x2 x3 x4 x5 x6 x7 hw1 cM CM0
  refine wp_region_quiet_below (by kernel_rfl) (by kernel_rfl) ?_
  repeat (go_big_quiet_step (with_reducible exact CM.out _ _))
  refine wpQuiet_nil ?_
  intro _ hw'
  obtain ⟨⟨dq, osq⟩, hw''⟩ := hw'
  subst hw''
  have BR := below_regrown w1 dq osq
  have B2 := Lib.hid (B1.out.trans (BR.mono B1.out.size))
  have L2 := Lib.hid (L1.out.below BR L1.out.lt)
  have X2 := Lib.hid (X1.out.below BR X1.out.lt)
  clear kl k0 k1 k2 k3 k4 k5 k6 k7 CM BR
  generalize Sort.grow (redrawn w1 dq) osq = w2 at *
  have HHS : Hid (h < w.heap.size) := Lib.hid HL.out.lt
  have hne : w.heap.size ≠ h := by have := HHS.out; omega
  have L3 : Hid (Lies (w2.setCell ⟨h, 1, none⟩ (.int .i64 i1)) h 60 #[.map mo, .int .i64 i1]) := Lib.hid (by simpa using L2.out.set_ 1 (.int .i64 i1))
  have X3 : Hid (Lies (w2.setCell ⟨h, 1, none⟩ (.int .i64 i1)) w.heap.size 32 #[.int .i64 i1, .int .i64 i2, .int .i64 i3, .int .i64 i4, .int .i64 i5, .int .i64 i6, .int .i64 i7, .slice p n c]) := Lib.hid (X2.out.like (Below.heap_setCell w2 ⟨h, 1, none⟩ _ _ hne))
  have T3 := Lib.hid ((Turn.of_below (S := fun k => k = h) B2.out).setCell (p := ⟨h, 1, none⟩) (.inl rfl) (.int .i64 i1))
  have x0 : w2.cell? ⟨w.heap.size, 0, none⟩ = some (.int .i64 i1) := X2.out.cell 0
  have l1 : w2.cell? ⟨h, 1, none⟩ = some (.int .i64 given) := L2.out.cell 1
  have g1 := L2.out.frozen 1
  go_upto_region 4 with fail
  generalize w2.setCell ⟨h, 1, none⟩ (.int .i64 i1) = w3 at *
  clear x0 l1 g1 X2 L2 X1 L1
  have x0 : w3.cell? ⟨w.heap.size, 0, none⟩ = some (.int .i64 i1) := X3.out.cell 0
  have x1 : w3.cell? ⟨w.heap.size, 1, none⟩ = some (.int .i64 i2) := X3.out.cell 1
  have x2 : w3.cell? ⟨w.heap.size, 2, none⟩ = some (.int .i64 i3) := X3.out.cell 2
  have x3 : w3.cell? ⟨w.heap.size, 3, none⟩ = some (.int .i64 i4) := X3.out.cell 3
  have x4 : w3.cell? ⟨w.heap.size, 4, none⟩ = some (.int .i64 i5) := X3.out.cell 4
  have x5 : w3.cell? ⟨w.heap.size, 5, none⟩ = some (.int .i64 i6) := X3.out.cell 5
  have x6 : w3.cell? ⟨w.heap.size, 6, none⟩ = some (.int .i64 i7) := X3.out.cell 6
  have x7 : w3.cell? ⟨w.heap.size, 7, none⟩ = some (.slice p n c) := X3.out.cell 7
  go_wp2_with fail
  refine (CA.out w3 T3.out).mono ?_
  intro e w4 he
  obtain ⟨⟨x2, p2, n2, c2⟩, hyx, rfl, hs, hk, hb⟩ := he
  simp only at hyx
  subst hyx
  have KK := Lib.hid (KP.out w3 w4 ⟨⟨i1, i2, i3, i4, i5, i6, i7, S⟩, p2, n2, c2⟩ HI.out L3.out T3.out hb hs hk)
  clear hs hk hb x0 x1 x2 x3 x4 x5 x6 x7 CA KP
  simp only [lval] at KK ⊢
  go_wp2_with fail
  refine KK.out.mono ?_
  rintro e w5 ⟨rfl, hl⟩
  go_wp2
  go_ret
  exact ⟨rfl, hl⟩
set_option maxRecDepth 100000 in
theorem pgive_any (B h : Nat) (mo : Option Nat) (given : Int) (L : List Lv) (id : Int) (w : World) (hp : PL w B h mo given L) :
    Calls Try.prog 13 #[.pointer (some ⟨h, 0, none⟩), .int .i64 id] w fun e w' =>
      e = .returned (.int .i64 ((giveS (lts L, given) id).1 : Nat)) ∧ LeftL w B h mo L (giveS (lts L, given) id).2 w' := by
  have l1 : w.cell? ⟨h, 1, none⟩ = some (.int .i64 given) := hp.blk.cell 1
  have g1 := hp.blk.frozen 1
  have HE := Lib.hid (leftL_same hp (Below.refl _ _))
  by_cases h1 : id < given
  · rw [give_bad (s := (lts L, given)) (.inl h1)]
    clear hp
    go_enter Try.func13, Try.ntmps13
    go_wp2
    go_ret
    exact ⟨rfl, HE.out⟩
  by_cases h2 : 256 < id
  · rw [give_bad (s := (lts L, given)) (.inr h2)]
    have h2' : decide (id > 256) = true := decide_eq_true h2
    clear hp
    go_enter Try.func13, Try.ntmps13
    go_wp2
    go_ret
    exact ⟨rfl, HE.out⟩
  rw [give_ok (s := (lts L, given)) (fun h => h.elim h1 h2)]
  have h2' : decide (id > 256) = false := decide_eq_false h2
  have HF : Hid (LeftL w B h mo L (lts L, id) (w.setCell ⟨h, 1, none⟩ (.int .i64 id))) := Lib.hid (by
    have hT : Turn (fun k => k = h) w (w.setCell ⟨h, 1, none⟩ (.int .i64 id)) := (Turn.refl (fun k => k = h) w).setCell (p := ⟨h, 1, none⟩) (.inl rfl) _
    exact ⟨mo, L, rfl, hp.regiven (by simpa using hp.blk.set_ 1 (.int .i64 id)) hT, hT.mono (fun _ _ hi => .inl hi), fun _ hk => .inl hk, fun _ hk => .inl hk⟩)
  clear hp HE
  go_enter Try.func13, Try.ntmps13
  go_wp2
  go_ret
  exact ⟨rfl, HF.out⟩
theorem pgiven_any (h : Nat) (mo : Option Nat) (given : Int) (w : World) (hl : Lies w h 60 #[.map mo, .int .i64 given]) :
    Calls Try.prog 8 #[.pointer (some ⟨h, 0, none⟩)] w fun e w' => e = .returned (.int .i64 given) ∧ Below w.heap.size w w' := by
  have l1 : w.cell? ⟨h, 1, none⟩ = some (.int .i64 given) := hl.cell 1
  go_enter Try.func8, Try.ntmps8
  go_wp2
  go_ret
  exact ⟨rfl, Below.refl _ _⟩
set_option maxRecDepth 100000 in
set_option maxHeartbeats 8000000 in
/-- The lot of a number, with stays of its own. -/
theorem plotO_any (a : Option Addr) (id : Int) (y : Lv) (cd : Nat) (w : World) (hc : ∀ W, Below w.heap.size w W → Calls Try.prog 44 #[.pointer a, .int .i64 id] W fun e w' => e = .returned (.tuple #[lval y, .int .i64 (cd : Nat)]) ∧ Below W.heap.size W w')
    (hs : ∀ W, Below w.heap.size w W → St W y) (hn : y.n ≤ 1000000) : Calls Try.prog 22 #[.pointer a, .int .i64 id] w (LotEnd y.x cd w) := by
  have C := Lib.hid hc
  have CA := Lib.hid (fun W (hW : Below w.heap.size w W) => papart_any y W (hs W hW) hn)
  clear hc hs
  obtain ⟨⟨i1, i2, i3, i4, i5, i6, i7, S⟩, p, n, c⟩ := y
  simp only [lval] at *
  have B1 := Lib.hid (alloc_below w (.cells #[.int .i64 0, .int .i64 0, .int .i64 0, .int .i64 0, .int .i64 0, .int .i64 0, .int .i64 0, .slice none 0 0] 32))
  have X1 := Lib.hid (Lies.new w 32 #[.int .i64 0, .int .i64 0, .int .i64 0, .int .i64 0, .int .i64 0, .int .i64 0, .int .i64 0, .slice none 0 0])
  obtain ⟨w1, hw1⟩ : ∃ w1, w.alloc (.cells #[.int .i64 0, .int .i64 0, .int .i64 0, .int .i64 0, .int .i64 0, .int .i64 0, .int .i64 0, .slice none 0 0] 32) = w1 := ⟨_, rfl⟩
  rw [hw1] at B1 X1
  go_enter Try.func22, Try.ntmps22
  go_wp2_with fail
  refine (C.out w1 B1.out).mono ?_
  rintro e w2 ⟨rfl, hb⟩
  have B2 := Lib.hid (B1.out.trans (hb.mono B1.out.size))
  have X2 := Lib.hid (X1.out.below hb X1.out.lt)
  have B3 := Lib.hid (B2.out.alloc B2.out.size (.cells #[.int .i64 i1, .int .i64 i2, .int .i64 i3, .int .i64 i4, .int .i64 i5, .int .i64 i6, .int .i64 i7, .slice p n c] 32))
  have X3 := Lib.hid (X2.out.alloc (.cells #[.int .i64 i1, .int .i64 i2, .int .i64 i3, .int .i64 i4, .int .i64 i5, .int .i64 i6, .int .i64 i7, .slice p n c] 32))
  have Y3 := Lib.hid (Lies.new w2 32 #[.int .i64 i1, .int .i64 i2, .int .i64 i3, .int .i64 i4, .int .i64 i5, .int .i64 i6, .int .i64 i7, .slice p n c])
  clear hb hw1 X1 X2 B1 B2
  go_upto_region 2 with fail
  generalize w2.alloc (.cells #[.int .i64 i1, .int .i64 i2, .int .i64 i3, .int .i64 i4, .int .i64 i5, .int .i64 i6, .int .i64 i7, .slice p n c] 32) = w3 at *
  have y0 : w3.cell? ⟨w2.heap.size, 0, none⟩ = some (.int .i64 i1) := Y3.out.cell 0
  have y1 : w3.cell? ⟨w2.heap.size, 1, none⟩ = some (.int .i64 i2) := Y3.out.cell 1
  have y2 : w3.cell? ⟨w2.heap.size, 2, none⟩ = some (.int .i64 i3) := Y3.out.cell 2
  have y3 : w3.cell? ⟨w2.heap.size, 3, none⟩ = some (.int .i64 i4) := Y3.out.cell 3
  have y4 : w3.cell? ⟨w2.heap.size, 4, none⟩ = some (.int .i64 i5) := Y3.out.cell 4
  have y5 : w3.cell? ⟨w2.heap.size, 5, none⟩ = some (.int .i64 i6) := Y3.out.cell 5
  have y6 : w3.cell? ⟨w2.heap.size, 6, none⟩ = some (.int .i64 i7) := Y3.out.cell 6
  have y7 : w3.cell? ⟨w2.heap.size, 7, none⟩ = some (.slice p n c) := Y3.out.cell 7
  go_wp2_with fail
  refine (CA.out w3 B3.out).mono ?_
  intro e w4 he
  obtain ⟨⟨x2, p2, n2, c2⟩, hyx, rfl, hs, hk, hb⟩ := he
  simp only at hyx
  subst hyx
  have B4 := Lib.hid (B3.out.trans (hb.mono B3.out.size))
  have X4 := Lib.hid (X3.out.below hb X3.out.lt)
  have HX := Lib.hid X3.out.lt
  have HF := Lib.hid (show ∀ W, Turn (fun k => k = w.heap.size) w4 W → St W ⟨⟨i1, i2, i3, i4, i5, i6, i7, S⟩, p2, n2, c2⟩ ∧ (∀ k, Bk ⟨⟨i1, i2, i3, i4, i5, i6, i7, S⟩, p2, n2, c2⟩ k → w.heap.size ≤ k) ∧ Below w.heap.size w W from fun W hW => by
    have hx := HX.out
    refine ⟨hs.turn hW (fun k hk' e => ?_), fun k hk' => ?_, hW.below B4.out B4.out.size (fun i hi => ?_)⟩
    · have := hk k hk'
      omega
    · have := hk k hk'
      omega
    · omega)
  clear hs hk hb y0 y1 y2 y3 y4 y5 y6 y7 Y3 X3 B3 CA C B4
  have x0 : w4.cell? ⟨w.heap.size, 0, none⟩ = some (.int .i64 0) := X4.out.cell 0
  have x1 : w4.cell? ⟨w.heap.size, 1, none⟩ = some (.int .i64 0) := X4.out.cell 1
  have x2 : w4.cell? ⟨w.heap.size, 2, none⟩ = some (.int .i64 0) := X4.out.cell 2
  have x3 : w4.cell? ⟨w.heap.size, 3, none⟩ = some (.int .i64 0) := X4.out.cell 3
  have x4 : w4.cell? ⟨w.heap.size, 4, none⟩ = some (.int .i64 0) := X4.out.cell 4
  have x5 : w4.cell? ⟨w.heap.size, 5, none⟩ = some (.int .i64 0) := X4.out.cell 5
  have x6 : w4.cell? ⟨w.heap.size, 6, none⟩ = some (.int .i64 0) := X4.out.cell 6
  have x7 : w4.cell? ⟨w.heap.size, 7, none⟩ = some (.slice none 0 0) := X4.out.cell 7
  have g0 := X4.out.frozen 0
  have g1 := X4.out.frozen 1
  have g2 := X4.out.frozen 2
  have g3 := X4.out.frozen 3
  have g4 := X4.out.frozen 4
  have g5 := X4.out.frozen 5
  have g6 := X4.out.frozen 6
  have g7 := X4.out.frozen 7
  clear X4
  simp only [lval]
  go_wp2
  refine bodyPost_ret (v := .tuple #[lval ⟨⟨i1, i2, i3, i4, i5, i6, i7, S⟩, p2, n2, c2⟩, .int .i64 cd]) (by simp [results, Try.results22, go_sem, lval, x0, x1, x2, x3, x4, x5, x6, x7]) rfl ?_
  refine ⟨⟨⟨i1, i2, i3, i4, i5, i6, i7, S⟩, p2, n2, c2⟩, rfl, rfl, HF.out _ ?_⟩
  iterate 8 refine Turn.setCell ?_ (by exact .inl rfl) _
  exact Turn.refl _ _
theorem plotL_any (B h : Nat) (mo : Option Nat) (given : Int) (L : List Lv) (id : Int) (w : World) (hp : PL w B h mo given L) (hG : Good (lts L, given)) (hm : I64 id) :
    Calls Try.prog 22 #[.pointer (some ⟨h, 0, none⟩), .int .i64 id] w (LotEnd (lotS (lts L, given) id).1 (lotS (lts L, given) id).2 w) := by
  cases ha : at_ id (lts L) with
  | none =>
    have e : lotS (lts L, given) id = (lt0, 5) := by unfold lotS; rw [ha]
    rw [e]
    exact plotO_any (some ⟨h, 0, none⟩) id ⟨lt0, none, 0, 0⟩ 5 w (fun W hW => plot_no (hp.keep hW) hm ha) (fun W _ => ⟨rw_zero W none, Nat.le_refl _⟩) (by decide)
  | some i =>
    obtain ⟨y, hy, hyx⟩ := at_of ha
    have e : lotS (lts L, given) id = (y.x, 0) := by unfold lotS; rw [ha]; simp only [hyx]
    rw [e]
    have H0 := lot_here hp hG hy
    exact plotO_any (some ⟨h, 0, none⟩) id y 0 w (fun W hW => plot_yes (hp.keep hW) hm ha hy) (fun W hW => H0.1.keep hW) H0.2.1
end Lo
end Go.Proofs.Ytkfmkchonlajpaa

namespace Go.Proofs
open Go.Shelf
def Try.keysA_ren : Go.Shelf.Ren := ⟨fun | 7 => 29 | 10 => 52 | n => n, fun | 23 => 58 | 26 => 3 | 3 => 32 | 28 => 69 | 0 => 0 | 27 => 68 | 33 => 84 | 4 => 4 | n => n, fun | n => n⟩
theorem Try.keysA : Go.Proofs.SlLaysZI.n7 Try.prog Try.keysA_ren := {
  mixed := by kernel_rfl
  f7 := ⟨Try.f29.name, by decide, Try.func29.trans (congrArg some (by kernel_rfl))⟩
  f10 := ⟨Try.f52.name, by decide, Try.func52.trans (congrArg some (by kernel_rfl))⟩
  t0 := Try.underlying0
  a0 := Try.isAgg0
  z0 := Try.sizeOf0
  v0 := Try.zeroValue0
  t4 := Try.underlying4
  a4 := Try.isAgg4
  z4 := Try.sizeOf4
  v4 := Try.zeroValue4
  t23 := Try.underlying58
  a23 := Try.isAgg58
  z23 := Try.sizeOf58
  v23 := Try.zeroValue58
  t26 := Try.underlying3
  a26 := Try.isAgg3
  z26 := Try.sizeOf3
  v26 := Try.zeroValue3
  t27 := Try.underlying68
  a27 := Try.isAgg68
  z27 := Try.sizeOf68
  v27 := Try.zeroValue68
  t28 := Try.underlying69
  a28 := Try.isAgg69
  z28 := Try.sizeOf69
  v28 := Try.zeroValue69
  t33 := Try.underlying84
  a33 := Try.isAgg84
  z33 := Try.sizeOf84
  v33 := Try.zeroValue84 }
def Try.sortedA_ren : Go.Shelf.Ren := ⟨fun | 6 => 28 | 8 => 50 | 9 => 51 | 11 => 62 | 13 => 64 | 12 => 63 | 23 => 77 | 24 => 78 | 14 => 68 | 15 => 69 | 16 => 70 | 17 => 71 | 18 => 72 | 19 => 73 | 20 => 74 | 21 => 75 | 22 => 76 | 25 => 79 | 26 => 80 | 27 => 81 | 28 => 82 | 29 => 83 | 30 => 84 | 31 => 85 | n => n, fun | 26 => 3 | 28 => 69 | 24 => 66 | 0 => 0 | 3 => 3 | 37 => 108 | 48 => 119 | 50 => 121 | 4 => 4 | 40 => 111 | 39 => 110 | 45 => 116 | 5 => 5 | 9 => 9 | 51 => 122 | 55 => 126 | 57 => 128 | 58 => 129 | 33 => 84 | n => n, fun | n => n⟩
theorem Try.sortedA : Go.Proofs.SlLaysZI.n6 Try.prog Try.sortedA_ren := {
  mixed := by kernel_rfl
  f6 := ⟨Try.f28.name, by decide, Try.func28.trans (congrArg some (by kernel_rfl))⟩
  f8 := ⟨Try.f50.name, by decide, Try.func50.trans (congrArg some (by kernel_rfl))⟩
  f11 := ⟨Try.f62.name, by decide, Try.func62.trans (congrArg some (by kernel_rfl))⟩
  t0 := Try.underlying0
  a0 := Try.isAgg0
  z0 := Try.sizeOf0
  v0 := Try.zeroValue0
  t24 := Try.underlying66
  a24 := Try.isAgg66
  z24 := Try.sizeOf66
  v24 := Try.zeroValue66
  t26 := Try.underlying3
  a26 := Try.isAgg3
  z26 := Try.sizeOf3
  v26 := Try.zeroValue3
  t28 := Try.underlying69
  a28 := Try.isAgg69
  z28 := Try.sizeOf69
  v28 := Try.zeroValue69
  i26 := by kernel_rfl }
def Try.sortA_ren : Go.Shelf.Ren := ⟨fun | 5 => 51 | 8 => 64 | 7 => 63 | 19 => 77 | 20 => 78 | 10 => 68 | 11 => 69 | 12 => 70 | 13 => 71 | 14 => 72 | 15 => 73 | 16 => 74 | 17 => 75 | 18 => 76 | 30 => 79 | 31 => 80 | 32 => 81 | 33 => 82 | 34 => 83 | 35 => 84 | 40 => 85 | n => n, fun | 23 => 66 | 25 => 3 | 3 => 3 | 32 => 108 | 22 => 66 | 0 => 0 | 44 => 119 | 46 => 121 | 4 => 4 | 36 => 111 | 35 => 110 | 41 => 116 | 5 => 5 | 9 => 9 | 53 => 122 | 57 => 126 | 63 => 128 | 64 => 129 | n => n, fun | n => n⟩
theorem Try.sortA : Go.Proofs.SlLaysM.n5 Try.prog Try.sortA_ren := {
  mixed := by kernel_rfl
  f5 := ⟨Try.f51.name, by decide, Try.func51.trans (congrArg some (by kernel_rfl))⟩
  f7 := ⟨Try.f63.name, by decide, Try.func63.trans (congrArg some (by kernel_rfl))⟩
  f8 := Try.func64.trans (congrArg some (by kernel_rfl))
  f10 := ⟨Try.f68.name, by decide, Try.func68.trans (congrArg some (by kernel_rfl))⟩
  f11 := ⟨Try.f69.name, by decide, Try.func69.trans (congrArg some (by kernel_rfl))⟩
  f12 := ⟨Try.f70.name, by decide, Try.func70.trans (congrArg some (by kernel_rfl))⟩
  f13 := ⟨Try.f71.name, by decide, Try.func71.trans (congrArg some (by kernel_rfl))⟩
  f14 := ⟨Try.f72.name, by decide, Try.func72.trans (congrArg some (by kernel_rfl))⟩
  f15 := ⟨Try.f73.name, by decide, Try.func73.trans (congrArg some (by kernel_rfl))⟩
  f16 := ⟨Try.f74.name, by decide, Try.func74.trans (congrArg some (by kernel_rfl))⟩
  f17 := ⟨Try.f75.name, by decide, Try.func75.trans (congrArg some (by kernel_rfl))⟩
  f18 := ⟨Try.f76.name, by decide, Try.func76.trans (congrArg some (by kernel_rfl))⟩
  f19 := Try.func77.trans (congrArg some (by kernel_rfl))
  f20 := Try.func78.trans (congrArg some (by kernel_rfl))
  f30 := ⟨Try.f79.name, by decide, Try.func79.trans (congrArg some (by kernel_rfl))⟩
  f31 := Try.func80.trans (congrArg some (by kernel_rfl))
  f32 := Try.func81.trans (congrArg some (by kernel_rfl))
  f33 := ⟨Try.f82.name, by decide, Try.func82.trans (congrArg some (by kernel_rfl))⟩
  f34 := ⟨Try.f83.name, by decide, Try.func83.trans (congrArg some (by kernel_rfl))⟩
  f35 := ⟨Try.f84.name, by decide, Try.func84.trans (congrArg some (by kernel_rfl))⟩
  f40 := ⟨Try.f85.name, by decide, Try.func85.trans (congrArg some (by kernel_rfl))⟩
  t0 := Try.underlying0
  a0 := Try.isAgg0
  z0 := Try.sizeOf0
  v0 := Try.zeroValue0
  t3 := Try.underlying3
  a3 := Try.isAgg3
  z3 := Try.sizeOf3
  v3 := Try.zeroValue3
  t4 := Try.underlying4
  a4 := Try.isAgg4
  z4 := Try.sizeOf4
  v4 := Try.zeroValue4
  t5 := Try.underlying5
  a5 := Try.isAgg5
  z5 := Try.sizeOf5
  v5 := Try.zeroValue5
  t9 := Try.underlying9
  a9 := Try.isAgg9
  z9 := Try.sizeOf9
  v9 := Try.zeroValue9
  t22 := Try.underlying66
  a22 := Try.isAgg66
  z22 := Try.sizeOf66
  v22 := Try.zeroValue66
  t23 := Try.underlying66
  a23 := Try.isAgg66
  z23 := Try.sizeOf66
  v23 := Try.zeroValue66
  t25 := Try.underlying3
  a25 := Try.isAgg3
  z25 := Try.sizeOf3
  v25 := Try.zeroValue3
  t32 := Try.underlying108
  a32 := Try.isAgg108
  z32 := Try.sizeOf108
  v32 := Try.zeroValue108
  t35 := Try.underlying110
  a35 := Try.isAgg110
  z35 := Try.sizeOf110
  v35 := Try.zeroValue110
  t36 := Try.underlying111
  a36 := Try.isAgg111
  z36 := Try.sizeOf111
  v36 := Try.zeroValue111
  t41 := Try.underlying116
  a41 := Try.isAgg116
  z41 := Try.sizeOf116
  v41 := Try.zeroValue116
  t44 := Try.underlying119
  a44 := Try.isAgg119
  z44 := Try.sizeOf119
  v44 := Try.zeroValue119
  t46 := Try.underlying121
  a46 := Try.isAgg121
  z46 := Try.sizeOf121
  v46 := Try.zeroValue121
  t53 := Try.underlying122
  a53 := Try.isAgg122
  z53 := Try.sizeOf122
  v53 := Try.zeroValue122
  t57 := Try.underlying126
  a57 := Try.isAgg126
  z57 := Try.sizeOf126
  v57 := Try.zeroValue126
  t63 := Try.underlying128
  a63 := Try.isAgg128
  z63 := Try.sizeOf128
  v63 := Try.zeroValue128
  t64 := Try.underlying129
  a64 := Try.isAgg129
  z64 := Try.sizeOf129
  v64 := Try.zeroValue129 }
end Go.Proofs

namespace Go.Proofs.Ytkfmkchonlajpaa
open Go.RowKit Go.Maps Go.Sort

namespace Ms
theorem sorts (m : Nat) : AnyZI.SortsIn Try.prog Try.sortedA_ren Fence.wide m :=
  ⟨fun blk off cap ss W hH hblk hsz => callsIn_wide.2 (AnyM.slices_Sort_int Try.sortA blk off cap ss W hH hblk hsz),
   fun p cap W => callsIn_wide.2 (AnyM.slices_Sort_int_none Try.sortA p cap W)⟩
theorem own_floor {w : World} {B B' : Nat} {e : TypeId} {k n : Nat} {v : Value} {xs : List Value} (h : w.ownsRow B e k v n xs) (hb : B' ≤ B) : w.ownsRow B' e k v n xs := by
  refine ⟨h.1, ?_⟩
  rcases h.2 with h0 | ⟨g, cap, cur, e1, h1, h2⟩
  · exact .inl h0
  · exact .inr ⟨g, cap, cur, e1, Nat.le_trans hb h1, h2⟩
def kcells {α : Type} (key : α → Int) (x : α) : List Value := [.int .i64 (key x)]
theorem kcells_len {α : Type} (key : α → Int) (x : α) : (kcells key x).length = 1 := rfl
theorem kflat {α : Type} (key : α → Int) (S : List α) : (S.map key).map encZ = S.flatMap (kcells key) := by
  induction S with
  | nil => rfl
  | cons x S ih => rw [List.map_cons, List.map_cons, ih, List.flatMap_cons]; rfl
/-- The numbers, in order: a new slice. -/
def NumsEnd {α : Type} (key : α → Int) (S : List α) (W : World) (e : Ending) (w' : World) : Prop := ∃ v, e = .returned v ∧ w'.ownsRow W.heap.size 3 1 v S.length (S.flatMap (kcells key)) ∧ Below W.heap.size W w'
end Ms
end Go.Proofs.Ytkfmkchonlajpaa
