/- Walks over the document's answer of layer 5: the frame of bytes that are good. No condition but those written. -/
import Derived.Test.YtbnnijcjlafcpaaFr3
import Derived.Deep.RegionHeld3
namespace Go.Proofs.Ytbnnijcjlafcpaa
open Go.RowKit

namespace Fr
set_option maxRecDepth 100000 in
set_option maxHeartbeats 2000000 in
theorem rdec_door (p : Option Addr) (c : Nat) (b : List Nat) (w : World) (hnc : 10 ≤ c) (hA : At w p 10 b) (hg : Ck.goodB b = true) :
    Calls Try.prog 12 #[.slice p 10 c] w fun e w' => e = .returned (.tuple #[val (dec b).1, .int .i64 ((dec b).2 : Int)]) ∧ Below w.heap.size w w' := by
  have hl := hA.1
  have G := Lib.hid (fun W (hb : Below w.heap.size w W) => Ck.rgood_any p 10 c b W (by decide) hnc (hA.keep hb))
  rw [hg] at G
  obtain ⟨bk, o, rfl, hA2⟩ := At.part hA 2 2 (by decide) (by decide)
  obtain ⟨_, _, e, hA4⟩ := At.part hA 4 3 (by decide) (by decide)
  injection e with e
  injection e with e1 e2
  subst e1 e2
  have V2 := Lib.hid (fun W (hb : Below w.heap.size w W) d => Ob.value_any _ 2 d _ W (by decide) (hA2.keep hb))
  have V4 := Lib.hid (fun W (hb : Below w.heap.size w W) d => Ob.value_any _ 3 d _ W (by decide) (hA4.keep hb))
  have b2 := Oc.val_lt hA2.2.1
  have b4 := Oc.val_lt hA4.2.1
  rw [hA2.1] at b2
  rw [hA4.1] at b4
  obtain ⟨_, _, e, hj⟩ := hA.2.2 (by decide)
  injection e with e
  injection e with e1 e2
  subst e1 e2
  have c0 : w.cell? ⟨bk, o, none⟩ = some (.int .u8 ((b.getD 0 0 : Nat) : Int)) := hj 0 (by decide)
  have c1 : w.cell? ⟨bk, o + 1, none⟩ = some (.int .u8 ((b.getD 1 0 : Nat) : Int)) := hj 1 (by decide)
  have c7 : w.cell? ⟨bk, o + 7, none⟩ = some (.int .u8 ((b.getD 7 0 : Nat) : Int)) := hj 7 (by decide)
  have l0 := getD_lt hA.2.1 0
  have l1 := getD_lt hA.2.1 1
  have l7 := getD_lt hA.2.1 7
  have bl := World.block_lt_of_cell? w _ c0
  have C := Lib.hid (fun W (hb : Below w.heap.size w W) => (⟨(hb.cell (p := ⟨bk, o, none⟩) bl).trans c0, (hb.cell (p := ⟨bk, o + 1, none⟩) bl).trans c1, (hb.cell (p := ⟨bk, o + 7, none⟩) bl).trans c7⟩ : W.cell? ⟨bk, o, none⟩ = _ ∧ W.cell? ⟨bk, o + 1, none⟩ = _ ∧ W.cell? ⟨bk, o + 7, none⟩ = _))
  have B0 := Lib.hid (alloc_below w (.cells #[.int .i64 0, .int .i64 0, .int .i64 0, .bool false, .bool false, .int .u64 0] 24))
  have SD : Hid (said b = ⟨(b.getD 1 0 : Nat), (Oc.val ((b.drop 2).take 2) : Nat), (Oc.val ((b.drop 4).take 3) : Nat), true, decide (b.getD 7 0 = 1), 0⟩) := Lib.hid (by simp [said, hl])
  have HD : Hid (dec b = if okB (said b) && decide (b.getD 0 0 = 1 ∧ b.getD 7 0 ≤ 1) then (said b, 0) else (zero, 2)) := Lib.hid (by
    unfold dec bytesB
    rw [if_neg (by simp [hl]), if_neg (by simp [hg]), if_pos hl])
  clear hA hj hA2 hA4 hg c0 c1 c7 hl
  generalize Oc.val ((b.drop 2).take 2) = v2 at *
  generalize Oc.val ((b.drop 4).take 3) = v4 at *
  generalize b.getD 0 0 = x0 at *
  generalize b.getD 1 0 = x1 at *
  generalize b.getD 7 0 = x7 at *
  have v2' : (v2 : Int) < 65536 := by omega
  have v4' : (v4 : Int) < 16777216 := by omega
  have hc' : (10 : Int) ≤ (c : Int) := by omega
  have k2 : ¬ c = 2 := by omega
  have k4 : ¬ c = 4 := by omega
  have k4' : (4 : Int) ≤ (c : Int) := by omega
  have k7' : (7 : Int) ≤ (c : Int) := by omega
  clear b2 b4
  go_enter Try.func12, Try.ntmps12
  go_wp2_with fail
  refine (G.out _ B0.out).mono ?_
  rintro e w1 ⟨rfl, m, hw1⟩
  have B1 := Lib.hid (show Below w.heap.size w w1 by rw [hw1]; exact below_drewN B0.out m)
  have L1 := Lib.hid (show Lies w1 w.heap.size 24 #[.int .i64 0, .int .i64 0, .int .i64 0, .bool false, .bool false, .int .u64 0] by rw [hw1]; exact (Lies.new w 24 _).drewN m)
  obtain ⟨d0, d1, d7⟩ := C.out _ B1.out
  clear B0 hw1
  have hz1 : w.heap.size < w1.heap.size := L1.out.lt
  have e1 := World.new_ne w1 ⟨bk, o + 1, none⟩ d1
  have BD := Lib.hid B1.out.drew
  have RZ := Lib.hid (fun W => rright_any zero W (by decide))
  have wx1 : IntKind.i64.wrap (x1 : Int) = (x1 : Int) := IntWalk.i64_in _ (by omega)
  have wv2 : IntKind.i64.wrap (v2 : Int) = (v2 : Int) := IntWalk.i64_in _ (by omega)
  have wv4 : IntKind.i64.wrap (v4 : Int) = (v4 : Int) := IntWalk.i64_in _ (by omega)
  go_wp2_with fail
  go_region_held3 (fun w' => w'.cell? ⟨bk, o + 1, none⟩ = some (.int .u8 (x1 : Int)))
    (first | go_keep | assumption)
    (first
      | (go_at_call 28; ((with_reducible refine (V2.out _ (by first | exact BD.out | exact (B1.out.alloc B1.out.size _).drew) _).mono ?_); rintro E w3 ⟨rfl, rfl⟩))
      | (go_at_call 28; ((with_reducible refine (V4.out _ (by first | exact BD.out | exact (B1.out.alloc B1.out.size _).drew) _).mono ?_); rintro E w4 ⟨rfl, rfl⟩)))
  all_goals
    clear wx1 wv2 wv4 e1 V2 V4 G RZ k2 k4 k4' k7'
    have LX := Lib.hid ((Lies.new w1 24 #[.int .i64 (x1 : Int), .int .i64 (v2 : Int), .int .i64 (v4 : Int), .bool true, .bool false, .int .u64 0]).drewN 1)
    have L0 := Lib.hid ((L1.out.alloc (.cells #[.int .i64 (x1 : Int), .int .i64 (v2 : Int), .int .i64 (v4 : Int), .bool true, .bool false, .int .u64 0] 24)).drewN 1)
    have BX := Lib.hid (B1.out.alloc B1.out.size (.cells #[.int .i64 (x1 : Int), .int .i64 (v2 : Int), .int .i64 (v4 : Int), .bool true, .bool false, .int .u64 0] 24)).drew
    have hne : w.heap.size ≠ w1.heap.size := Nat.ne_of_lt hz1
    have HX : ∃ X, (w1.alloc (.cells #[.int .i64 (x1 : Int), .int .i64 (v2 : Int), .int .i64 (v4 : Int), .bool true, .bool false, .int .u64 0] 24)).drew = X := ⟨_, rfl⟩
    obtain ⟨X, hX⟩ := HX
    have LX' := Lib.hid (show Lies X w1.heap.size 24 #[.int .i64 (x1 : Int), .int .i64 (v2 : Int), .int .i64 (v4 : Int), .bool true, .bool false, .int .u64 0] by rw [← hX]; exact LX.out)
    have L0' := Lib.hid (show Lies X w.heap.size 24 #[.int .i64 0, .int .i64 0, .int .i64 0, .bool false, .bool false, .int .u64 0] by rw [← hX]; exact L0.out)
    have BX' := Lib.hid (show Below w.heap.size w X by rw [← hX]; exact BX.out)
    rw [hX]
    clear LX L0 BX hX L1 B1 BD d0 d1 d7
    obtain ⟨d0, _, d7⟩ := C.out X BX'.out
    have hbx : bk ≠ w1.heap.size := by omega
    have c3 : X.cell? ⟨w1.heap.size, 3, none⟩ = some (.bool true) := LX'.out.cell 3
    have c4 : X.cell? ⟨w1.heap.size, 4, none⟩ = some (.bool false) := LX'.out.cell 4
    have f4 := LX'.out.frozen 4
    have k0 : X.cell? ⟨w1.heap.size, 0, none⟩ = some (.int .i64 (x1 : Int)) := LX'.out.cell 0
    have k1 : X.cell? ⟨w1.heap.size, 1, none⟩ = some (.int .i64 (v2 : Int)) := LX'.out.cell 1
    have k2 : X.cell? ⟨w1.heap.size, 2, none⟩ = some (.int .i64 (v4 : Int)) := LX'.out.cell 2
    have k5 : X.cell? ⟨w1.heap.size, 5, none⟩ = some (.int .u64 0) := LX'.out.cell 5
    obtain ⟨y, hy⟩ : ∃ y, decide (x7 = 1) = y := ⟨_, rfl⟩
    have hy1 : ((x7 : Int) == 1) = y := by rw [← hy]; exact eq_nat x7 1
    rw [hy] at SD
    have R := Lib.hid (fun W => show Calls Try.prog 6 #[.agg #[.int .i64 (x1 : Int), .int .i64 (v2 : Int), .int .i64 (v4 : Int), .bool true, .bool y, .int .u64 0]] W (fun e w' => e = .returned (.bool (okB ⟨x1, v2, v4, true, y, 0⟩)) ∧ Below W.heap.size W w') from rright_any ⟨x1, v2, v4, true, y, 0⟩ W (Nat.zero_lt_succ _))
    have LY := Lib.hid (show Lies (X.setCell ⟨w1.heap.size, 4, none⟩ (.bool y)) w1.heap.size 24 #[.int .i64 (x1 : Int), .int .i64 (v2 : Int), .int .i64 (v4 : Int), .bool true, .bool y, .int .u64 0] from LX'.out.set_ 4 (.bool y))
    have LZ := Lib.hid (show Lies (X.setCell ⟨w1.heap.size, 4, none⟩ (.bool y)) w.heap.size 24 #[.int .i64 0, .int .i64 0, .int .i64 0, .bool false, .bool false, .int .u64 0] from L0'.out.turn (S := fun k => k = w1.heap.size) ((Turn.refl (fun k => k = w1.heap.size) X).setCell (p := ⟨w1.heap.size, 4, none⟩) (.inl rfl) _) hne)
    have BY := Lib.hid (BX'.out.setCell (p := ⟨w1.heap.size, 4, none⟩) (Nat.le_of_lt hz1) (.bool y))
    clear LX' L0' BX'
    clear hne hz1 hbx bl l0 l1 l7 v2' v4' hc' hnc
    go_wp2_with fail
    refine (R.out _).mono ?_
    rintro e w5 ⟨rfl, hb⟩
    have B5 := Lib.hid (BY.out.trans (hb.mono BY.out.size))
    have LY5 := Lib.hid (LY.out.below hb LY.out.lt)
    have LZ5 := Lib.hid (LZ.out.below hb LZ.out.lt)
    obtain ⟨p0, _, p7⟩ := C.out w5 B5.out
    clear hb d0 d7 c3 c4 f4 k0 k1 k2 k5 R LY LZ BY C
    have c3 : w5.cell? ⟨w1.heap.size, 3, none⟩ = some (.bool true) := LY5.out.cell 3
    have r0 : w5.cell? ⟨w.heap.size, 0, none⟩ = some (.int .i64 0) := LZ5.out.cell 0
    have r1 : w5.cell? ⟨w.heap.size, 1, none⟩ = some (.int .i64 0) := LZ5.out.cell 1
    have r2 : w5.cell? ⟨w.heap.size, 2, none⟩ = some (.int .i64 0) := LZ5.out.cell 2
    have r3 : w5.cell? ⟨w.heap.size, 3, none⟩ = some (.bool false) := LZ5.out.cell 3
    have r4 : w5.cell? ⟨w.heap.size, 4, none⟩ = some (.bool false) := LZ5.out.cell 4
    have r5 : w5.cell? ⟨w.heap.size, 5, none⟩ = some (.int .u64 0) := LZ5.out.cell 5
    have g0 := LZ5.out.frozen 0
    have g1 := LZ5.out.frozen 1
    have g2 := LZ5.out.frozen 2
    have g3 := LZ5.out.frozen 3
    have g4 := LZ5.out.frozen 4
    have g5 := LZ5.out.frozen 5
    by_cases hok : okB ⟨x1, v2, v4, true, y, 0⟩ = true
    · by_cases h0 : x0 = 1
      · by_cases h7 : x7 ≤ 1
        · have E : Hid (dec b = (⟨x1, v2, v4, true, y, 0⟩, 0)) := Lib.hid (by rw [HD.out, SD.out, hok]; simp [h0, h7])
          have s0 : w5.cell? ⟨w1.heap.size, 0, none⟩ = some (.int .i64 (x1 : Int)) := LY5.out.cell 0
          have s1 : w5.cell? ⟨w1.heap.size, 1, none⟩ = some (.int .i64 (v2 : Int)) := LY5.out.cell 1
          have s2 : w5.cell? ⟨w1.heap.size, 2, none⟩ = some (.int .i64 (v4 : Int)) := LY5.out.cell 2
          have s4 : w5.cell? ⟨w1.heap.size, 4, none⟩ = some (.bool y) := LY5.out.cell 4
          have s5 : w5.cell? ⟨w1.heap.size, 5, none⟩ = some (.int .u64 0) := LY5.out.cell 5
          have t0 : ((x0 : Int) != 1) = false := by rw [bne_eq_false_iff_eq]; omega
          have t7 : (x7 : Int) ≤ 1 := by omega
          rw [hok]
          clear hok h0 h7
          go_wp2
          refine bodyPost_ret (v := .tuple #[val ⟨x1, v2, v4, true, y, 0⟩, .int .i64 0]) (by simp [results, Try.results12, go_sem, val, r0, r1, r2, r3, r4, r5]) rfl ⟨by rw [E.out]; rfl, ?_⟩
          iterate 6 refine Below.setCell ?_ (show w.heap.size ≤ _ from Nat.le_refl _) _
          exact B5.out
        · have t7 : (1 : Int) < (x7 : Int) := by omega
          have t0 : ((x0 : Int) != 1) = false := by rw [bne_eq_false_iff_eq]; omega
          rw [hok]
          have E : Hid (dec b = (zero, 2)) := Lib.hid (by rw [HD.out, SD.out]; simp [h7])
          clear hok
          go_wp2
          refine bodyPost_ret (v := .tuple #[val zero, .int .i64 2]) (by simp [results, Try.results12, go_sem, val, zero, r0, r1, r2, r3, r4, r5]) rfl ⟨by rw [E.out]; rfl, ?_⟩
          iterate 6 refine Below.setCell ?_ (show w.heap.size ≤ _ from Nat.le_refl _) _
          exact B5.out
      · have t0 : ((x0 : Int) != 1) = true := by rw [bne_iff_ne]; omega
        rw [hok]
        have E : Hid (dec b = (zero, 2)) := Lib.hid (by rw [HD.out, SD.out]; simp [h0])
        clear hok
        go_wp2
        refine bodyPost_ret (v := .tuple #[val zero, .int .i64 2]) (by simp [results, Try.results12, go_sem, val, zero, r0, r1, r2, r3, r4, r5]) rfl ⟨by rw [E.out]; rfl, ?_⟩
        iterate 6 refine Below.setCell ?_ (show w.heap.size ≤ _ from Nat.le_refl _) _
        exact B5.out
    · have hok' : okB ⟨x1, v2, v4, true, y, 0⟩ = false := by simpa using hok
      rw [hok']
      have E : Hid (dec b = (zero, 2)) := Lib.hid (by rw [HD.out, SD.out]; rw [hok']; rfl)
      clear hok hok'
      go_wp2
      refine bodyPost_ret (v := .tuple #[val zero, .int .i64 2]) (by simp [results, Try.results12, go_sem, val, zero, r0, r1, r2, r3, r4, r5]) rfl ⟨by rw [E.out]; rfl, ?_⟩
      iterate 6 refine Below.setCell ?_ (show w.heap.size ≤ _ from Nat.le_refl _) _
      exact B5.out
set_option maxRecDepth 100000 in
set_option maxHeartbeats 2000000 in
theorem rdec_air (p : Option Addr) (c : Nat) (b : List Nat) (w : World) (hnc : 17 ≤ c) (hA : At w p 17 b) (hg : Ck.goodB b = true) :
    Calls Try.prog 12 #[.slice p 17 c] w fun e w' => e = .returned (.tuple #[val (dec b).1, .int .i64 ((dec b).2 : Int)]) ∧ Below w.heap.size w w' := by
  have hl := hA.1
  have G := Lib.hid (fun W (hb : Below w.heap.size w W) => Ck.rgood_any p 17 c b W (by decide) hnc (hA.keep hb))
  rw [hg] at G
  obtain ⟨bk, o, rfl, hA2⟩ := At.part hA 2 2 (by decide) (by decide)
  obtain ⟨_, _, e, hA4⟩ := At.part hA 4 3 (by decide) (by decide)
  injection e with e
  injection e with e1 e2
  subst e1 e2
  obtain ⟨_, _, e, hA7⟩ := At.part hA 7 8 (by decide) (by decide)
  injection e with e
  injection e with e1 e2
  subst e1 e2
  have V7 := Lib.hid (fun W (hb : Below w.heap.size w W) d => Ob.value_any _ 8 d _ W (by decide) (hA7.keep hb))
  have b7 := Oc.val_lt hA7.2.1
  rw [hA7.1] at b7
  have V2 := Lib.hid (fun W (hb : Below w.heap.size w W) d => Ob.value_any _ 2 d _ W (by decide) (hA2.keep hb))
  have V4 := Lib.hid (fun W (hb : Below w.heap.size w W) d => Ob.value_any _ 3 d _ W (by decide) (hA4.keep hb))
  have b2 := Oc.val_lt hA2.2.1
  have b4 := Oc.val_lt hA4.2.1
  rw [hA2.1] at b2
  rw [hA4.1] at b4
  obtain ⟨_, _, e, hj⟩ := hA.2.2 (by decide)
  injection e with e
  injection e with e1 e2
  subst e1 e2
  have c0 : w.cell? ⟨bk, o, none⟩ = some (.int .u8 ((b.getD 0 0 : Nat) : Int)) := hj 0 (by decide)
  have c1 : w.cell? ⟨bk, o + 1, none⟩ = some (.int .u8 ((b.getD 1 0 : Nat) : Int)) := hj 1 (by decide)
  have l0 := getD_lt hA.2.1 0
  have l1 := getD_lt hA.2.1 1
  have bl := World.block_lt_of_cell? w _ c0
  have C := Lib.hid (fun W (hb : Below w.heap.size w W) => (⟨(hb.cell (p := ⟨bk, o, none⟩) bl).trans c0, (hb.cell (p := ⟨bk, o + 1, none⟩) bl).trans c1⟩ : W.cell? ⟨bk, o, none⟩ = _ ∧ W.cell? ⟨bk, o + 1, none⟩ = _))
  have B0 := Lib.hid (alloc_below w (.cells #[.int .i64 0, .int .i64 0, .int .i64 0, .bool false, .bool false, .int .u64 0] 24))
  have SD : Hid (said b = ⟨(b.getD 1 0 : Nat), (Oc.val ((b.drop 2).take 2) : Nat), (Oc.val ((b.drop 4).take 3) : Nat), false, false, Oc.val ((b.drop 7).take 8)⟩) := Lib.hid (by simp [said, hl])
  have HD : Hid (dec b = if okB (said b) && decide (b.getD 0 0 = 0) then (said b, 0) else (zero, 2)) := Lib.hid (by
    unfold dec bytesB
    rw [if_neg (by simp [hl]), if_neg (by simp [hg]), if_neg (show ¬ b.length = 10 by omega)])
  clear hA hj hA2 hA4 hA7 hg c0 c1 hl
  generalize Oc.val ((b.drop 2).take 2) = v2 at *
  generalize Oc.val ((b.drop 4).take 3) = v4 at *
  generalize b.getD 0 0 = x0 at *
  generalize b.getD 1 0 = x1 at *
  generalize Oc.val ((b.drop 7).take 8) = v7 at *
  have v2' : (v2 : Int) < 65536 := by omega
  have v4' : (v4 : Int) < 16777216 := by omega
  have hc' : (17 : Int) ≤ (c : Int) := by omega
  have k15' : (15 : Int) ≤ (c : Int) := by omega
  have k7 : ¬ c = 7 := by omega
  have k2 : ¬ c = 2 := by omega
  have k4 : ¬ c = 4 := by omega
  have k4' : (4 : Int) ≤ (c : Int) := by omega
  have k7' : (7 : Int) ≤ (c : Int) := by omega
  have v7' := Lib.hid b7
  clear b2 b4 b7
  go_enter Try.func12, Try.ntmps12
  go_wp2_with fail
  refine (G.out _ B0.out).mono ?_
  rintro e w1 ⟨rfl, m, hw1⟩
  have B1 := Lib.hid (show Below w.heap.size w w1 by rw [hw1]; exact below_drewN B0.out m)
  have L1 := Lib.hid (show Lies w1 w.heap.size 24 #[.int .i64 0, .int .i64 0, .int .i64 0, .bool false, .bool false, .int .u64 0] by rw [hw1]; exact (Lies.new w 24 _).drewN m)
  obtain ⟨d0, d1⟩ := C.out _ B1.out
  clear B0 hw1
  have hz1 : w.heap.size < w1.heap.size := L1.out.lt
  have e1 := World.new_ne w1 ⟨bk, o + 1, none⟩ d1
  have BD := Lib.hid B1.out.drew
  have RZ := Lib.hid (fun W => rright_any zero W (by decide))
  have wx1 : IntKind.i64.wrap (x1 : Int) = (x1 : Int) := IntWalk.i64_in _ (by omega)
  have wv2 : IntKind.i64.wrap (v2 : Int) = (v2 : Int) := IntWalk.i64_in _ (by omega)
  have wv4 : IntKind.i64.wrap (v4 : Int) = (v4 : Int) := IntWalk.i64_in _ (by omega)
  go_wp2_with fail
  go_region_held3 (fun w' => w'.cell? ⟨bk, o + 1, none⟩ = some (.int .u8 (x1 : Int)))
    (first | go_keep | assumption)
    (first
      | (go_at_call 28; ((with_reducible refine (V2.out _ (by first | exact BD.out | exact (B1.out.alloc B1.out.size _).drew) _).mono ?_); rintro E w3 ⟨rfl, rfl⟩))
      | (go_at_call 28; ((with_reducible refine (V4.out _ (by first | exact BD.out | exact (B1.out.alloc B1.out.size _).drew) _).mono ?_); rintro E w4 ⟨rfl, rfl⟩)))
  all_goals
    clear wx1 wv2 wv4 e1 V2 V4 G RZ k2 k4 k4'
    have LX := Lib.hid ((Lies.new w1 24 #[.int .i64 (x1 : Int), .int .i64 (v2 : Int), .int .i64 (v4 : Int), .bool false, .bool false, .int .u64 0]).drewN 1)
    have L0 := Lib.hid ((L1.out.alloc (.cells #[.int .i64 (x1 : Int), .int .i64 (v2 : Int), .int .i64 (v4 : Int), .bool false, .bool false, .int .u64 0] 24)).drewN 1)
    have BX := Lib.hid (B1.out.alloc B1.out.size (.cells #[.int .i64 (x1 : Int), .int .i64 (v2 : Int), .int .i64 (v4 : Int), .bool false, .bool false, .int .u64 0] 24)).drew
    have hne : w.heap.size ≠ w1.heap.size := Nat.ne_of_lt hz1
    have HX : ∃ X, (w1.alloc (.cells #[.int .i64 (x1 : Int), .int .i64 (v2 : Int), .int .i64 (v4 : Int), .bool false, .bool false, .int .u64 0] 24)).drew = X := ⟨_, rfl⟩
    obtain ⟨X, hX⟩ := HX
    have LX' := Lib.hid (show Lies X w1.heap.size 24 #[.int .i64 (x1 : Int), .int .i64 (v2 : Int), .int .i64 (v4 : Int), .bool false, .bool false, .int .u64 0] by rw [← hX]; exact LX.out)
    have L0' := Lib.hid (show Lies X w.heap.size 24 #[.int .i64 0, .int .i64 0, .int .i64 0, .bool false, .bool false, .int .u64 0] by rw [← hX]; exact L0.out)
    have BX' := Lib.hid (show Below w.heap.size w X by rw [← hX]; exact BX.out)
    rw [hX]
    clear LX L0 BX hX L1 B1 BD d0 d1
    obtain ⟨d0, _⟩ := C.out X BX'.out
    have VX := Lib.hid (V7.out X BX'.out)
    have hbx : bk ≠ w1.heap.size := by omega
    have c3 : X.cell? ⟨w1.heap.size, 3, none⟩ = some (.bool false) := LX'.out.cell 3
    have c5 : X.cell? ⟨w1.heap.size, 5, none⟩ = some (.int .u64 0) := LX'.out.cell 5
    have f5 := LX'.out.frozen 5
    have k0 : X.cell? ⟨w1.heap.size, 0, none⟩ = some (.int .i64 (x1 : Int)) := LX'.out.cell 0
    have k1 : X.cell? ⟨w1.heap.size, 1, none⟩ = some (.int .i64 (v2 : Int)) := LX'.out.cell 1
    have k2 : X.cell? ⟨w1.heap.size, 2, none⟩ = some (.int .i64 (v4 : Int)) := LX'.out.cell 2
    have k4 : X.cell? ⟨w1.heap.size, 4, none⟩ = some (.bool false) := LX'.out.cell 4
    have R := Lib.hid (fun W => rright_any ⟨x1, v2, v4, false, false, v7⟩ W v7'.out)
    unfold val at R
    simp only at R
    have LY := Lib.hid (show Lies (X.setCell ⟨w1.heap.size, 5, none⟩ (.int .u64 (v7 : Int))) w1.heap.size 24 #[.int .i64 (x1 : Int), .int .i64 (v2 : Int), .int .i64 (v4 : Int), .bool false, .bool false, .int .u64 (v7 : Int)] from LX'.out.set_ 5 (.int .u64 (v7 : Int)))
    have LZ := Lib.hid (show Lies (X.setCell ⟨w1.heap.size, 5, none⟩ (.int .u64 (v7 : Int))) w.heap.size 24 #[.int .i64 0, .int .i64 0, .int .i64 0, .bool false, .bool false, .int .u64 0] from L0'.out.turn (S := fun k => k = w1.heap.size) ((Turn.refl (fun k => k = w1.heap.size) X).setCell (p := ⟨w1.heap.size, 5, none⟩) (.inl rfl) _) hne)
    have BY := Lib.hid (BX'.out.setCell (p := ⟨w1.heap.size, 5, none⟩) (Nat.le_of_lt hz1) (.int .u64 (v7 : Int)))
    clear LX' L0' BX'
    clear hne hz1 hbx bl l0 l1 v2' v4' hnc
    go_wp2_with fail
    refine (VX.out _).mono ?_
    rintro e w' ⟨rfl, rfl⟩
    go_wp2_with fail
    refine (R.out _).mono ?_
    rintro e w5 ⟨rfl, hb⟩
    have B5 := Lib.hid (BY.out.trans (hb.mono BY.out.size))
    have LY5 := Lib.hid (LY.out.below hb LY.out.lt)
    have LZ5 := Lib.hid (LZ.out.below hb LZ.out.lt)
    obtain ⟨p0, _⟩ := C.out w5 B5.out
    clear hb d0 c3 c5 f5 k0 k1 k2 k4 R LY LZ BY C VX V7
    have c3 : w5.cell? ⟨w1.heap.size, 3, none⟩ = some (.bool false) := LY5.out.cell 3
    have r0 : w5.cell? ⟨w.heap.size, 0, none⟩ = some (.int .i64 0) := LZ5.out.cell 0
    have r1 : w5.cell? ⟨w.heap.size, 1, none⟩ = some (.int .i64 0) := LZ5.out.cell 1
    have r2 : w5.cell? ⟨w.heap.size, 2, none⟩ = some (.int .i64 0) := LZ5.out.cell 2
    have r3 : w5.cell? ⟨w.heap.size, 3, none⟩ = some (.bool false) := LZ5.out.cell 3
    have r4 : w5.cell? ⟨w.heap.size, 4, none⟩ = some (.bool false) := LZ5.out.cell 4
    have r5 : w5.cell? ⟨w.heap.size, 5, none⟩ = some (.int .u64 0) := LZ5.out.cell 5
    have g0 := LZ5.out.frozen 0
    have g1 := LZ5.out.frozen 1
    have g2 := LZ5.out.frozen 2
    have g3 := LZ5.out.frozen 3
    have g4 := LZ5.out.frozen 4
    have g5 := LZ5.out.frozen 5
    by_cases hok : okB ⟨x1, v2, v4, false, false, v7⟩ = true
    · by_cases h0 : x0 = 0
      · have E : Hid (dec b = (⟨x1, v2, v4, false, false, v7⟩, 0)) := Lib.hid (by rw [HD.out, SD.out, hok]; simp [h0])
        have s0 : w5.cell? ⟨w1.heap.size, 0, none⟩ = some (.int .i64 (x1 : Int)) := LY5.out.cell 0
        have s1 : w5.cell? ⟨w1.heap.size, 1, none⟩ = some (.int .i64 (v2 : Int)) := LY5.out.cell 1
        have s2 : w5.cell? ⟨w1.heap.size, 2, none⟩ = some (.int .i64 (v4 : Int)) := LY5.out.cell 2
        have s4 : w5.cell? ⟨w1.heap.size, 4, none⟩ = some (.bool false) := LY5.out.cell 4
        have s5 : w5.cell? ⟨w1.heap.size, 5, none⟩ = some (.int .u64 (v7 : Int)) := LY5.out.cell 5
        have t0 : ((x0 : Int) != 0) = false := by rw [bne_eq_false_iff_eq]; omega
        rw [hok]
        clear hok h0
        go_wp2
        refine bodyPost_ret (v := .tuple #[val ⟨x1, v2, v4, false, false, v7⟩, .int .i64 0]) (by simp [results, Try.results12, go_sem, val, r0, r1, r2, r3, r4, r5]) rfl ⟨by rw [E.out]; rfl, ?_⟩
        iterate 6 refine Below.setCell ?_ (show w.heap.size ≤ _ from Nat.le_refl _) _
        exact B5.out
      · have t0 : ((x0 : Int) != 0) = true := by rw [bne_iff_ne]; omega
        rw [hok]
        have E : Hid (dec b = (zero, 2)) := Lib.hid (by rw [HD.out, SD.out]; simp [h0])
        clear hok
        go_wp2
        refine bodyPost_ret (v := .tuple #[val zero, .int .i64 2]) (by simp [results, Try.results12, go_sem, val, zero, r0, r1, r2, r3, r4, r5]) rfl ⟨by rw [E.out]; rfl, ?_⟩
        iterate 6 refine Below.setCell ?_ (show w.heap.size ≤ _ from Nat.le_refl _) _
        exact B5.out
    · have hok' : okB ⟨x1, v2, v4, false, false, v7⟩ = false := by simpa using hok
      rw [hok']
      have E : Hid (dec b = (zero, 2)) := Lib.hid (by rw [HD.out, SD.out]; rw [hok']; rfl)
      clear hok hok'
      go_wp2
      refine bodyPost_ret (v := .tuple #[val zero, .int .i64 2]) (by simp [results, Try.results12, go_sem, val, zero, r0, r1, r2, r3, r4, r5]) rfl ⟨by rw [E.out]; rfl, ?_⟩
      iterate 6 refine Below.setCell ?_ (show w.heap.size ≤ _ from Nat.le_refl _) _
      exact B5.out
/-- The frame of bytes: the document's answer. -/
theorem rdec_any (p : Option Addr) (n c : Nat) (b : List Nat) (w : World) (hnc : n ≤ c) (hA : At w p n b) :
    Calls Try.prog 12 #[.slice p n c] w fun e w' => e = .returned (.tuple #[val (dec b).1, .int .i64 ((dec b).2 : Int)]) ∧ Below w.heap.size w w' := by
  by_cases h : n = 10 ∨ n = 17
  · by_cases hg : Ck.goodB b = true
    · rcases h with rfl | rfl
      · exact rdec_door p c b w hnc hA hg
      · exact rdec_air p c b w hnc hA hg
    · exact rdec_sum p n c b w hnc hA h (by simpa using hg)
  · exact rdec_len p n c b w hA h
end Fr
end Go.Proofs.Ytbnnijcjlafcpaa
