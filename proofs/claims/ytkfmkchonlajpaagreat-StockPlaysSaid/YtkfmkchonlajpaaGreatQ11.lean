/- An act of layer 12's law on no stock. Condition: the contracts of package stock. StockPlays' walk: any acts on a stock, over any zones and products. Condition: the contracts of packages master and stock. A package stock and the document's one, alone. Condition: the contracts of package stock. -/
import Derived.Test.YtkfmkchonlajpaaGreatQ10
import Derived.Lib.QuietBelow
import Derived.Deep.RegionHeld3
namespace Go.Proofs.YtkfmkchonlajpaaGreat
open Go.RowKit

namespace Lo
section
variable {M : Ms.Face}
set_option maxRecDepth 100000 in
set_option maxHeartbeats 16000000 in
theorem donil_0 (I : Face M) (m : Value) (W : World) :
    Calls Tryz.prog 7 #[.pointer none, m, .agg #[.int .u8 0, .int .i64 1, .int .i64 1, .int .i64 1, .int .i64 0, .int .u8 0], .int .i64 0] W fun e w' => e = .returned (.agg #[.int .i64 0, .int .i64 1]) ∧ Below W.heap.size W w' := by
  obtain ⟨W1, hW1⟩ : ∃ W1, W.alloc (.cells #[.int .u8 0, .int .i64 1, .int .i64 1, .int .i64 1, .int .i64 0, .int .u8 0] 39) = W1 := ⟨_, rfl⟩
  have b1 : Below W.heap.size W W1 := by rw [← hW1]; exact alloc_below W _
  have X6 : Lies W1 W.heap.size 39 #[.int .u8 0, .int .i64 1, .int .i64 1, .int .i64 1, .int .i64 0, .int .u8 0] := by rw [← hW1]; exact Lies.new W _ _
  obtain ⟨W2, hW2⟩ : ∃ W2, W1.alloc (.cells #[.int .i64 0, .int .i64 0] 42) = W2 := ⟨_, rfl⟩
  have b2 : Below W1.heap.size W1 W2 := by rw [← hW2]; exact alloc_below W1 _
  have X7 := Lib.hid (X6.below b2 X6.lt)
  have X8 : Hid (Lies W2 W1.heap.size 42 #[.int .i64 0, .int .i64 0]) := Lib.hid (by rw [← hW2]; exact Lies.new W1 _ _)
  have B1 := Lib.hid b1
  have B2 := Lib.hid (b1.trans (b2.mono b1.size))
  have k0 : W2.cell? ⟨W.heap.size, 0, none⟩ = some (.int .u8 0) := X7.out.cell 0
  have k1 : W2.cell? ⟨W.heap.size, 1, none⟩ = some (.int .i64 1) := X7.out.cell 1
  have k2 : W2.cell? ⟨W.heap.size, 2, none⟩ = some (.int .i64 1) := X7.out.cell 2
  have k3 : W2.cell? ⟨W.heap.size, 3, none⟩ = some (.int .i64 1) := X7.out.cell 3
  have k4 : W2.cell? ⟨W.heap.size, 4, none⟩ = some (.int .i64 0) := X7.out.cell 4
  clear b1 b2 X6
  go_enter Tryz.func7, Tryz.ntmps7
  go_wp2_with fail
  refine (I.nil_recv m 1 1 1 0 0 _).mono ?_
  rintro e W3 ⟨rfl, hb⟩
  have x8 := X8.out.below hb X8.out.lt
  have HB := Lib.hid (B2.out.trans (hb.mono B2.out.size))
  clear k0 k1 k2 k3 k4 hb
  have f0 : W3.frozen? ⟨W1.heap.size, 0, none⟩ = false := x8.frozen 0
  have f1 : W3.frozen? ⟨W1.heap.size, 1, none⟩ = false := x8.frozen 1
  have c0 : W3.cell? ⟨W1.heap.size, 0, none⟩ = some (.int .i64 0) := x8.cell 0
  have c1 : W3.cell? ⟨W1.heap.size, 1, none⟩ = some (.int .i64 0) := x8.cell 1
  have x9 : Hid (Lies ((W3.setCell ⟨W1.heap.size, 0, none⟩ (.int .i64 0)).setCell ⟨W1.heap.size, 1, none⟩ (.int .i64 1)) W1.heap.size 42 #[.int .i64 0, .int .i64 1]) := Lib.hid (by simpa using (x8.set_ 0 (.int .i64 0)).set_ 1 (.int .i64 1))
  have s4 : Hid (Below W.heap.size W ((W3.setCell ⟨W1.heap.size, 0, none⟩ (.int .i64 0)).setCell ⟨W1.heap.size, 1, none⟩ (.int .i64 1))) := Lib.hid ((HB.out.setCell (p := ⟨W1.heap.size, 0, none⟩) (by have := B1.out.size; exact this) _).setCell (p := ⟨W1.heap.size, 1, none⟩) (by have := B1.out.size; exact this) _)
  clear x8
  go_wp2
  obtain ⟨W4, hW4⟩ : ∃ W4, (W3.setCell ⟨W1.heap.size, 0, none⟩ (.int .i64 0)).setCell ⟨W1.heap.size, 1, none⟩ (.int .i64 1) = W4 := ⟨_, rfl⟩
  rw [hW4] at s4 x9 ⊢
  clear hW4 f0 f1 c0 c1
  have r0 : W4.cell? ⟨W1.heap.size, 0, none⟩ = some (.int .i64 0) := x9.out.cell 0
  have r1 : W4.cell? ⟨W1.heap.size, 1, none⟩ = some (.int .i64 1) := x9.out.cell 1
  exact bodyPost_ret (v := .agg #[.int .i64 0, .int .i64 1]) (by simp [results, Tryz.results7, go_sem, r0, r1]) rfl ⟨rfl, s4.out⟩
set_option maxRecDepth 100000 in
set_option maxHeartbeats 16000000 in
theorem donil_1 (I : Face M) (m : Value) (W : World) :
    Calls Tryz.prog 7 #[.pointer none, m, .agg #[.int .u8 1, .int .i64 1, .int .i64 1, .int .i64 1, .int .i64 0, .int .u8 0], .int .i64 0] W fun e w' => e = .returned (.agg #[.int .i64 0, .int .i64 1]) ∧ Below W.heap.size W w' := by
  obtain ⟨W1, hW1⟩ : ∃ W1, W.alloc (.cells #[.int .u8 1, .int .i64 1, .int .i64 1, .int .i64 1, .int .i64 0, .int .u8 0] 39) = W1 := ⟨_, rfl⟩
  have b1 : Below W.heap.size W W1 := by rw [← hW1]; exact alloc_below W _
  have X6 : Lies W1 W.heap.size 39 #[.int .u8 1, .int .i64 1, .int .i64 1, .int .i64 1, .int .i64 0, .int .u8 0] := by rw [← hW1]; exact Lies.new W _ _
  obtain ⟨W2, hW2⟩ : ∃ W2, W1.alloc (.cells #[.int .i64 0, .int .i64 0] 42) = W2 := ⟨_, rfl⟩
  have b2 : Below W1.heap.size W1 W2 := by rw [← hW2]; exact alloc_below W1 _
  have X7 := Lib.hid (X6.below b2 X6.lt)
  have X8 : Hid (Lies W2 W1.heap.size 42 #[.int .i64 0, .int .i64 0]) := Lib.hid (by rw [← hW2]; exact Lies.new W1 _ _)
  have B1 := Lib.hid b1
  have B2 := Lib.hid (b1.trans (b2.mono b1.size))
  have k0 : W2.cell? ⟨W.heap.size, 0, none⟩ = some (.int .u8 1) := X7.out.cell 0
  have k1 : W2.cell? ⟨W.heap.size, 1, none⟩ = some (.int .i64 1) := X7.out.cell 1
  have k2 : W2.cell? ⟨W.heap.size, 2, none⟩ = some (.int .i64 1) := X7.out.cell 2
  have k3 : W2.cell? ⟨W.heap.size, 3, none⟩ = some (.int .i64 1) := X7.out.cell 3
  have k4 : W2.cell? ⟨W.heap.size, 4, none⟩ = some (.int .i64 0) := X7.out.cell 4
  clear b1 b2 X6
  go_enter Tryz.func7, Tryz.ntmps7
  go_wp2_with fail
  refine (I.nil_recv m 1 1 1 0 0 _).mono ?_
  rintro e W3 ⟨rfl, hb⟩
  have x8 := X8.out.below hb X8.out.lt
  have HB := Lib.hid (B2.out.trans (hb.mono B2.out.size))
  clear k0 k1 k2 k3 k4 hb
  have f0 : W3.frozen? ⟨W1.heap.size, 0, none⟩ = false := x8.frozen 0
  have f1 : W3.frozen? ⟨W1.heap.size, 1, none⟩ = false := x8.frozen 1
  have c0 : W3.cell? ⟨W1.heap.size, 0, none⟩ = some (.int .i64 0) := x8.cell 0
  have c1 : W3.cell? ⟨W1.heap.size, 1, none⟩ = some (.int .i64 0) := x8.cell 1
  have x9 : Hid (Lies ((W3.setCell ⟨W1.heap.size, 0, none⟩ (.int .i64 0)).setCell ⟨W1.heap.size, 1, none⟩ (.int .i64 1)) W1.heap.size 42 #[.int .i64 0, .int .i64 1]) := Lib.hid (by simpa using (x8.set_ 0 (.int .i64 0)).set_ 1 (.int .i64 1))
  have s4 : Hid (Below W.heap.size W ((W3.setCell ⟨W1.heap.size, 0, none⟩ (.int .i64 0)).setCell ⟨W1.heap.size, 1, none⟩ (.int .i64 1))) := Lib.hid ((HB.out.setCell (p := ⟨W1.heap.size, 0, none⟩) (by have := B1.out.size; exact this) _).setCell (p := ⟨W1.heap.size, 1, none⟩) (by have := B1.out.size; exact this) _)
  clear x8
  go_wp2
  obtain ⟨W4, hW4⟩ : ∃ W4, (W3.setCell ⟨W1.heap.size, 0, none⟩ (.int .i64 0)).setCell ⟨W1.heap.size, 1, none⟩ (.int .i64 1) = W4 := ⟨_, rfl⟩
  rw [hW4] at s4 x9 ⊢
  clear hW4 f0 f1 c0 c1
  have r0 : W4.cell? ⟨W1.heap.size, 0, none⟩ = some (.int .i64 0) := x9.out.cell 0
  have r1 : W4.cell? ⟨W1.heap.size, 1, none⟩ = some (.int .i64 1) := x9.out.cell 1
  exact bodyPost_ret (v := .agg #[.int .i64 0, .int .i64 1]) (by simp [results, Tryz.results7, go_sem, r0, r1]) rfl ⟨rfl, s4.out⟩
set_option maxRecDepth 100000 in
set_option maxHeartbeats 16000000 in
theorem donil_2 (I : Face M) (m : Value) (W : World) :
    Calls Tryz.prog 7 #[.pointer none, m, .agg #[.int .u8 2, .int .i64 1, .int .i64 1, .int .i64 1, .int .i64 0, .int .u8 0], .int .i64 0] W fun e w' => e = .returned (.agg #[.int .i64 0, .int .i64 1]) ∧ Below W.heap.size W w' := by
  obtain ⟨W1, hW1⟩ : ∃ W1, W.alloc (.cells #[.int .u8 2, .int .i64 1, .int .i64 1, .int .i64 1, .int .i64 0, .int .u8 0] 39) = W1 := ⟨_, rfl⟩
  have b1 : Below W.heap.size W W1 := by rw [← hW1]; exact alloc_below W _
  have X6 : Lies W1 W.heap.size 39 #[.int .u8 2, .int .i64 1, .int .i64 1, .int .i64 1, .int .i64 0, .int .u8 0] := by rw [← hW1]; exact Lies.new W _ _
  obtain ⟨W2, hW2⟩ : ∃ W2, W1.alloc (.cells #[.int .i64 0, .int .i64 0] 42) = W2 := ⟨_, rfl⟩
  have b2 : Below W1.heap.size W1 W2 := by rw [← hW2]; exact alloc_below W1 _
  have X7 := Lib.hid (X6.below b2 X6.lt)
  have X8 : Hid (Lies W2 W1.heap.size 42 #[.int .i64 0, .int .i64 0]) := Lib.hid (by rw [← hW2]; exact Lies.new W1 _ _)
  have B1 := Lib.hid b1
  have B2 := Lib.hid (b1.trans (b2.mono b1.size))
  have k0 : W2.cell? ⟨W.heap.size, 0, none⟩ = some (.int .u8 2) := X7.out.cell 0
  have k1 : W2.cell? ⟨W.heap.size, 1, none⟩ = some (.int .i64 1) := X7.out.cell 1
  have k2 : W2.cell? ⟨W.heap.size, 2, none⟩ = some (.int .i64 1) := X7.out.cell 2
  have k3 : W2.cell? ⟨W.heap.size, 3, none⟩ = some (.int .i64 1) := X7.out.cell 3
  have k4 : W2.cell? ⟨W.heap.size, 4, none⟩ = some (.int .i64 0) := X7.out.cell 4
  clear b1 b2 X6
  go_enter Tryz.func7, Tryz.ntmps7
  go_wp2_with fail
  refine (I.nil_move m 1 1 0 _).mono ?_
  rintro e W3 ⟨rfl, hb⟩
  have x8 := X8.out.below hb X8.out.lt
  have HB := Lib.hid (B2.out.trans (hb.mono B2.out.size))
  clear k0 k1 k2 k3 k4 hb
  have f0 : W3.frozen? ⟨W1.heap.size, 0, none⟩ = false := x8.frozen 0
  have f1 : W3.frozen? ⟨W1.heap.size, 1, none⟩ = false := x8.frozen 1
  have c0 : W3.cell? ⟨W1.heap.size, 0, none⟩ = some (.int .i64 0) := x8.cell 0
  have c1 : W3.cell? ⟨W1.heap.size, 1, none⟩ = some (.int .i64 0) := x8.cell 1
  have x9 : Hid (Lies ((W3.setCell ⟨W1.heap.size, 0, none⟩ (.int .i64 0)).setCell ⟨W1.heap.size, 1, none⟩ (.int .i64 1)) W1.heap.size 42 #[.int .i64 0, .int .i64 1]) := Lib.hid (by simpa using (x8.set_ 0 (.int .i64 0)).set_ 1 (.int .i64 1))
  have s4 : Hid (Below W.heap.size W ((W3.setCell ⟨W1.heap.size, 0, none⟩ (.int .i64 0)).setCell ⟨W1.heap.size, 1, none⟩ (.int .i64 1))) := Lib.hid ((HB.out.setCell (p := ⟨W1.heap.size, 0, none⟩) (by have := B1.out.size; exact this) _).setCell (p := ⟨W1.heap.size, 1, none⟩) (by have := B1.out.size; exact this) _)
  clear x8
  go_wp2
  obtain ⟨W4, hW4⟩ : ∃ W4, (W3.setCell ⟨W1.heap.size, 0, none⟩ (.int .i64 0)).setCell ⟨W1.heap.size, 1, none⟩ (.int .i64 1) = W4 := ⟨_, rfl⟩
  rw [hW4] at s4 x9 ⊢
  clear hW4 f0 f1 c0 c1
  have r0 : W4.cell? ⟨W1.heap.size, 0, none⟩ = some (.int .i64 0) := x9.out.cell 0
  have r1 : W4.cell? ⟨W1.heap.size, 1, none⟩ = some (.int .i64 1) := x9.out.cell 1
  exact bodyPost_ret (v := .agg #[.int .i64 0, .int .i64 1]) (by simp [results, Tryz.results7, go_sem, r0, r1]) rfl ⟨rfl, s4.out⟩
set_option maxRecDepth 100000 in
set_option maxHeartbeats 16000000 in
theorem donil_3 (I : Face M) (m : Value) (W : World) :
    Calls Tryz.prog 7 #[.pointer none, m, .agg #[.int .u8 3, .int .i64 1, .int .i64 1, .int .i64 1, .int .i64 0, .int .u8 0], .int .i64 0] W fun e w' => e = .returned (.agg #[.int .i64 0, .int .i64 1]) ∧ Below W.heap.size W w' := by
  obtain ⟨W1, hW1⟩ : ∃ W1, W.alloc (.cells #[.int .u8 3, .int .i64 1, .int .i64 1, .int .i64 1, .int .i64 0, .int .u8 0] 39) = W1 := ⟨_, rfl⟩
  have b1 : Below W.heap.size W W1 := by rw [← hW1]; exact alloc_below W _
  have X6 : Lies W1 W.heap.size 39 #[.int .u8 3, .int .i64 1, .int .i64 1, .int .i64 1, .int .i64 0, .int .u8 0] := by rw [← hW1]; exact Lies.new W _ _
  obtain ⟨W2, hW2⟩ : ∃ W2, W1.alloc (.cells #[.int .i64 0, .int .i64 0] 42) = W2 := ⟨_, rfl⟩
  have b2 : Below W1.heap.size W1 W2 := by rw [← hW2]; exact alloc_below W1 _
  have X7 := Lib.hid (X6.below b2 X6.lt)
  have X8 : Hid (Lies W2 W1.heap.size 42 #[.int .i64 0, .int .i64 0]) := Lib.hid (by rw [← hW2]; exact Lies.new W1 _ _)
  have B1 := Lib.hid b1
  have B2 := Lib.hid (b1.trans (b2.mono b1.size))
  have k0 : W2.cell? ⟨W.heap.size, 0, none⟩ = some (.int .u8 3) := X7.out.cell 0
  have k1 : W2.cell? ⟨W.heap.size, 1, none⟩ = some (.int .i64 1) := X7.out.cell 1
  have k2 : W2.cell? ⟨W.heap.size, 2, none⟩ = some (.int .i64 1) := X7.out.cell 2
  have k3 : W2.cell? ⟨W.heap.size, 3, none⟩ = some (.int .i64 1) := X7.out.cell 3
  have k4 : W2.cell? ⟨W.heap.size, 4, none⟩ = some (.int .i64 0) := X7.out.cell 4
  clear b1 b2 X6
  go_enter Tryz.func7, Tryz.ntmps7
  go_wp2_with fail
  refine (I.nil_move m 1 1 0 _).mono ?_
  rintro e W3 ⟨rfl, hb⟩
  have x8 := X8.out.below hb X8.out.lt
  have HB := Lib.hid (B2.out.trans (hb.mono B2.out.size))
  clear k0 k1 k2 k3 k4 hb
  have f0 : W3.frozen? ⟨W1.heap.size, 0, none⟩ = false := x8.frozen 0
  have f1 : W3.frozen? ⟨W1.heap.size, 1, none⟩ = false := x8.frozen 1
  have c0 : W3.cell? ⟨W1.heap.size, 0, none⟩ = some (.int .i64 0) := x8.cell 0
  have c1 : W3.cell? ⟨W1.heap.size, 1, none⟩ = some (.int .i64 0) := x8.cell 1
  have x9 : Hid (Lies ((W3.setCell ⟨W1.heap.size, 0, none⟩ (.int .i64 0)).setCell ⟨W1.heap.size, 1, none⟩ (.int .i64 1)) W1.heap.size 42 #[.int .i64 0, .int .i64 1]) := Lib.hid (by simpa using (x8.set_ 0 (.int .i64 0)).set_ 1 (.int .i64 1))
  have s4 : Hid (Below W.heap.size W ((W3.setCell ⟨W1.heap.size, 0, none⟩ (.int .i64 0)).setCell ⟨W1.heap.size, 1, none⟩ (.int .i64 1))) := Lib.hid ((HB.out.setCell (p := ⟨W1.heap.size, 0, none⟩) (by have := B1.out.size; exact this) _).setCell (p := ⟨W1.heap.size, 1, none⟩) (by have := B1.out.size; exact this) _)
  clear x8
  go_wp2
  obtain ⟨W4, hW4⟩ : ∃ W4, (W3.setCell ⟨W1.heap.size, 0, none⟩ (.int .i64 0)).setCell ⟨W1.heap.size, 1, none⟩ (.int .i64 1) = W4 := ⟨_, rfl⟩
  rw [hW4] at s4 x9 ⊢
  clear hW4 f0 f1 c0 c1
  have r0 : W4.cell? ⟨W1.heap.size, 0, none⟩ = some (.int .i64 0) := x9.out.cell 0
  have r1 : W4.cell? ⟨W1.heap.size, 1, none⟩ = some (.int .i64 1) := x9.out.cell 1
  exact bodyPost_ret (v := .agg #[.int .i64 0, .int .i64 1]) (by simp [results, Tryz.results7, go_sem, r0, r1]) rfl ⟨rfl, s4.out⟩
set_option maxRecDepth 100000 in
set_option maxHeartbeats 16000000 in
theorem donil_4 (I : Face M) (m : Value) (W : World) :
    Calls Tryz.prog 7 #[.pointer none, m, .agg #[.int .u8 4, .int .i64 1, .int .i64 1, .int .i64 1, .int .i64 0, .int .u8 0], .int .i64 0] W fun e w' => e = .returned (.agg #[.int .i64 0, .int .i64 1]) ∧ Below W.heap.size W w' := by
  obtain ⟨W1, hW1⟩ : ∃ W1, W.alloc (.cells #[.int .u8 4, .int .i64 1, .int .i64 1, .int .i64 1, .int .i64 0, .int .u8 0] 39) = W1 := ⟨_, rfl⟩
  have b1 : Below W.heap.size W W1 := by rw [← hW1]; exact alloc_below W _
  have X6 : Lies W1 W.heap.size 39 #[.int .u8 4, .int .i64 1, .int .i64 1, .int .i64 1, .int .i64 0, .int .u8 0] := by rw [← hW1]; exact Lies.new W _ _
  obtain ⟨W2, hW2⟩ : ∃ W2, W1.alloc (.cells #[.int .i64 0, .int .i64 0] 42) = W2 := ⟨_, rfl⟩
  have b2 : Below W1.heap.size W1 W2 := by rw [← hW2]; exact alloc_below W1 _
  have X7 := Lib.hid (X6.below b2 X6.lt)
  have X8 : Hid (Lies W2 W1.heap.size 42 #[.int .i64 0, .int .i64 0]) := Lib.hid (by rw [← hW2]; exact Lies.new W1 _ _)
  have B1 := Lib.hid b1
  have B2 := Lib.hid (b1.trans (b2.mono b1.size))
  have k0 : W2.cell? ⟨W.heap.size, 0, none⟩ = some (.int .u8 4) := X7.out.cell 0
  have k1 : W2.cell? ⟨W.heap.size, 1, none⟩ = some (.int .i64 1) := X7.out.cell 1
  have k2 : W2.cell? ⟨W.heap.size, 2, none⟩ = some (.int .i64 1) := X7.out.cell 2
  have k3 : W2.cell? ⟨W.heap.size, 3, none⟩ = some (.int .i64 1) := X7.out.cell 3
  have k4 : W2.cell? ⟨W.heap.size, 4, none⟩ = some (.int .i64 0) := X7.out.cell 4
  clear b1 b2 X6
  go_enter Tryz.func7, Tryz.ntmps7
  go_wp2_with fail
  refine (I.nil_split 1 1 _).mono ?_
  rintro e W3 ⟨rfl, hb⟩
  have x8 := X8.out.below hb X8.out.lt
  have HB := Lib.hid (B2.out.trans (hb.mono B2.out.size))
  clear k0 k1 k2 k3 k4 hb
  have f0 : W3.frozen? ⟨W1.heap.size, 0, none⟩ = false := x8.frozen 0
  have f1 : W3.frozen? ⟨W1.heap.size, 1, none⟩ = false := x8.frozen 1
  have c0 : W3.cell? ⟨W1.heap.size, 0, none⟩ = some (.int .i64 0) := x8.cell 0
  have c1 : W3.cell? ⟨W1.heap.size, 1, none⟩ = some (.int .i64 0) := x8.cell 1
  have x9 : Hid (Lies ((W3.setCell ⟨W1.heap.size, 0, none⟩ (.int .i64 0)).setCell ⟨W1.heap.size, 1, none⟩ (.int .i64 1)) W1.heap.size 42 #[.int .i64 0, .int .i64 1]) := Lib.hid (by simpa using (x8.set_ 0 (.int .i64 0)).set_ 1 (.int .i64 1))
  have s4 : Hid (Below W.heap.size W ((W3.setCell ⟨W1.heap.size, 0, none⟩ (.int .i64 0)).setCell ⟨W1.heap.size, 1, none⟩ (.int .i64 1))) := Lib.hid ((HB.out.setCell (p := ⟨W1.heap.size, 0, none⟩) (by have := B1.out.size; exact this) _).setCell (p := ⟨W1.heap.size, 1, none⟩) (by have := B1.out.size; exact this) _)
  clear x8
  go_wp2
  obtain ⟨W4, hW4⟩ : ∃ W4, (W3.setCell ⟨W1.heap.size, 0, none⟩ (.int .i64 0)).setCell ⟨W1.heap.size, 1, none⟩ (.int .i64 1) = W4 := ⟨_, rfl⟩
  rw [hW4] at s4 x9 ⊢
  clear hW4 f0 f1 c0 c1
  have r0 : W4.cell? ⟨W1.heap.size, 0, none⟩ = some (.int .i64 0) := x9.out.cell 0
  have r1 : W4.cell? ⟨W1.heap.size, 1, none⟩ = some (.int .i64 1) := x9.out.cell 1
  exact bodyPost_ret (v := .agg #[.int .i64 0, .int .i64 1]) (by simp [results, Tryz.results7, go_sem, r0, r1]) rfl ⟨rfl, s4.out⟩
set_option maxRecDepth 100000 in
set_option maxHeartbeats 16000000 in
theorem donil_5 (I : Face M) (m : Value) (W : World) :
    Calls Tryz.prog 7 #[.pointer none, m, .agg #[.int .u8 5, .int .i64 1, .int .i64 1, .int .i64 1, .int .i64 0, .int .u8 0], .int .i64 0] W fun e w' => e = .returned (.agg #[.int .i64 0, .int .i64 1]) ∧ Below W.heap.size W w' := by
  obtain ⟨W1, hW1⟩ : ∃ W1, W.alloc (.cells #[.int .u8 5, .int .i64 1, .int .i64 1, .int .i64 1, .int .i64 0, .int .u8 0] 39) = W1 := ⟨_, rfl⟩
  have b1 : Below W.heap.size W W1 := by rw [← hW1]; exact alloc_below W _
  have X6 : Lies W1 W.heap.size 39 #[.int .u8 5, .int .i64 1, .int .i64 1, .int .i64 1, .int .i64 0, .int .u8 0] := by rw [← hW1]; exact Lies.new W _ _
  obtain ⟨W2, hW2⟩ : ∃ W2, W1.alloc (.cells #[.int .i64 0, .int .i64 0] 42) = W2 := ⟨_, rfl⟩
  have b2 : Below W1.heap.size W1 W2 := by rw [← hW2]; exact alloc_below W1 _
  have X7 := Lib.hid (X6.below b2 X6.lt)
  have X8 : Hid (Lies W2 W1.heap.size 42 #[.int .i64 0, .int .i64 0]) := Lib.hid (by rw [← hW2]; exact Lies.new W1 _ _)
  have B1 := Lib.hid b1
  have B2 := Lib.hid (b1.trans (b2.mono b1.size))
  have k0 : W2.cell? ⟨W.heap.size, 0, none⟩ = some (.int .u8 5) := X7.out.cell 0
  have k1 : W2.cell? ⟨W.heap.size, 1, none⟩ = some (.int .i64 1) := X7.out.cell 1
  have k2 : W2.cell? ⟨W.heap.size, 2, none⟩ = some (.int .i64 1) := X7.out.cell 2
  have k3 : W2.cell? ⟨W.heap.size, 3, none⟩ = some (.int .i64 1) := X7.out.cell 3
  have k4 : W2.cell? ⟨W.heap.size, 4, none⟩ = some (.int .i64 0) := X7.out.cell 4
  clear b1 b2 X6
  go_enter Tryz.func7, Tryz.ntmps7
  go_wp2_with fail
  refine (I.nil_merge 1 1 _).mono ?_
  rintro e W3 ⟨rfl, hb⟩
  have x8 := X8.out.below hb X8.out.lt
  have HB := Lib.hid (B2.out.trans (hb.mono B2.out.size))
  clear k0 k1 k2 k3 k4 hb
  have f0 : W3.frozen? ⟨W1.heap.size, 0, none⟩ = false := x8.frozen 0
  have f1 : W3.frozen? ⟨W1.heap.size, 1, none⟩ = false := x8.frozen 1
  have c0 : W3.cell? ⟨W1.heap.size, 0, none⟩ = some (.int .i64 0) := x8.cell 0
  have c1 : W3.cell? ⟨W1.heap.size, 1, none⟩ = some (.int .i64 0) := x8.cell 1
  have x9 : Hid (Lies ((W3.setCell ⟨W1.heap.size, 0, none⟩ (.int .i64 0)).setCell ⟨W1.heap.size, 1, none⟩ (.int .i64 1)) W1.heap.size 42 #[.int .i64 0, .int .i64 1]) := Lib.hid (by simpa using (x8.set_ 0 (.int .i64 0)).set_ 1 (.int .i64 1))
  have s4 : Hid (Below W.heap.size W ((W3.setCell ⟨W1.heap.size, 0, none⟩ (.int .i64 0)).setCell ⟨W1.heap.size, 1, none⟩ (.int .i64 1))) := Lib.hid ((HB.out.setCell (p := ⟨W1.heap.size, 0, none⟩) (by have := B1.out.size; exact this) _).setCell (p := ⟨W1.heap.size, 1, none⟩) (by have := B1.out.size; exact this) _)
  clear x8
  go_wp2
  obtain ⟨W4, hW4⟩ : ∃ W4, (W3.setCell ⟨W1.heap.size, 0, none⟩ (.int .i64 0)).setCell ⟨W1.heap.size, 1, none⟩ (.int .i64 1) = W4 := ⟨_, rfl⟩
  rw [hW4] at s4 x9 ⊢
  clear hW4 f0 f1 c0 c1
  have r0 : W4.cell? ⟨W1.heap.size, 0, none⟩ = some (.int .i64 0) := x9.out.cell 0
  have r1 : W4.cell? ⟨W1.heap.size, 1, none⟩ = some (.int .i64 1) := x9.out.cell 1
  exact bodyPost_ret (v := .agg #[.int .i64 0, .int .i64 1]) (by simp [results, Tryz.results7, go_sem, r0, r1]) rfl ⟨rfl, s4.out⟩
set_option maxRecDepth 100000 in
set_option maxHeartbeats 16000000 in
theorem donil_6 (I : Face M) (m : Value) (W : World) :
    Calls Tryz.prog 7 #[.pointer none, m, .agg #[.int .u8 6, .int .i64 1, .int .i64 1, .int .i64 1, .int .i64 0, .int .u8 0], .int .i64 0] W fun e w' => e = .returned (.agg #[.int .i64 0, .int .i64 1]) ∧ Below W.heap.size W w' := by
  obtain ⟨W1, hW1⟩ : ∃ W1, W.alloc (.cells #[.int .u8 6, .int .i64 1, .int .i64 1, .int .i64 1, .int .i64 0, .int .u8 0] 39) = W1 := ⟨_, rfl⟩
  have b1 : Below W.heap.size W W1 := by rw [← hW1]; exact alloc_below W _
  have X6 : Lies W1 W.heap.size 39 #[.int .u8 6, .int .i64 1, .int .i64 1, .int .i64 1, .int .i64 0, .int .u8 0] := by rw [← hW1]; exact Lies.new W _ _
  obtain ⟨W2, hW2⟩ : ∃ W2, W1.alloc (.cells #[.int .i64 0, .int .i64 0] 42) = W2 := ⟨_, rfl⟩
  have b2 : Below W1.heap.size W1 W2 := by rw [← hW2]; exact alloc_below W1 _
  have X7 := Lib.hid (X6.below b2 X6.lt)
  have X8 : Hid (Lies W2 W1.heap.size 42 #[.int .i64 0, .int .i64 0]) := Lib.hid (by rw [← hW2]; exact Lies.new W1 _ _)
  have B1 := Lib.hid b1
  have B2 := Lib.hid (b1.trans (b2.mono b1.size))
  have k0 : W2.cell? ⟨W.heap.size, 0, none⟩ = some (.int .u8 6) := X7.out.cell 0
  have k1 : W2.cell? ⟨W.heap.size, 1, none⟩ = some (.int .i64 1) := X7.out.cell 1
  have k2 : W2.cell? ⟨W.heap.size, 2, none⟩ = some (.int .i64 1) := X7.out.cell 2
  have k3 : W2.cell? ⟨W.heap.size, 3, none⟩ = some (.int .i64 1) := X7.out.cell 3
  have k4 : W2.cell? ⟨W.heap.size, 4, none⟩ = some (.int .i64 0) := X7.out.cell 4
  clear b1 b2 X6
  go_enter Tryz.func7, Tryz.ntmps7
  go_wp2_with fail
  refine (I.nil_mark 1 1 1 0 _).mono ?_
  rintro e W3 ⟨rfl, hb⟩
  have x8 := X8.out.below hb X8.out.lt
  have HB := Lib.hid (B2.out.trans (hb.mono B2.out.size))
  clear k0 k1 k2 k3 k4 hb
  have f0 : W3.frozen? ⟨W1.heap.size, 0, none⟩ = false := x8.frozen 0
  have f1 : W3.frozen? ⟨W1.heap.size, 1, none⟩ = false := x8.frozen 1
  have c0 : W3.cell? ⟨W1.heap.size, 0, none⟩ = some (.int .i64 0) := x8.cell 0
  have c1 : W3.cell? ⟨W1.heap.size, 1, none⟩ = some (.int .i64 0) := x8.cell 1
  have x9 : Hid (Lies ((W3.setCell ⟨W1.heap.size, 0, none⟩ (.int .i64 0)).setCell ⟨W1.heap.size, 1, none⟩ (.int .i64 1)) W1.heap.size 42 #[.int .i64 0, .int .i64 1]) := Lib.hid (by simpa using (x8.set_ 0 (.int .i64 0)).set_ 1 (.int .i64 1))
  have s4 : Hid (Below W.heap.size W ((W3.setCell ⟨W1.heap.size, 0, none⟩ (.int .i64 0)).setCell ⟨W1.heap.size, 1, none⟩ (.int .i64 1))) := Lib.hid ((HB.out.setCell (p := ⟨W1.heap.size, 0, none⟩) (by have := B1.out.size; exact this) _).setCell (p := ⟨W1.heap.size, 1, none⟩) (by have := B1.out.size; exact this) _)
  clear x8
  go_wp2
  obtain ⟨W4, hW4⟩ : ∃ W4, (W3.setCell ⟨W1.heap.size, 0, none⟩ (.int .i64 0)).setCell ⟨W1.heap.size, 1, none⟩ (.int .i64 1) = W4 := ⟨_, rfl⟩
  rw [hW4] at s4 x9 ⊢
  clear hW4 f0 f1 c0 c1
  have r0 : W4.cell? ⟨W1.heap.size, 0, none⟩ = some (.int .i64 0) := x9.out.cell 0
  have r1 : W4.cell? ⟨W1.heap.size, 1, none⟩ = some (.int .i64 1) := x9.out.cell 1
  exact bodyPost_ret (v := .agg #[.int .i64 0, .int .i64 1]) (by simp [results, Tryz.results7, go_sem, r0, r1]) rfl ⟨rfl, s4.out⟩
set_option maxRecDepth 100000 in
set_option maxHeartbeats 16000000 in
theorem donil_7 (I : Face M) (m : Value) (W : World) :
    Calls Tryz.prog 7 #[.pointer none, m, .agg #[.int .u8 7, .int .i64 1, .int .i64 1, .int .i64 1, .int .i64 0, .int .u8 0], .int .i64 0] W fun e w' => e = .returned (.agg #[.int .i64 0, .int .i64 1]) ∧ Below W.heap.size W w' := by
  obtain ⟨W1, hW1⟩ : ∃ W1, W.alloc (.cells #[.int .u8 7, .int .i64 1, .int .i64 1, .int .i64 1, .int .i64 0, .int .u8 0] 39) = W1 := ⟨_, rfl⟩
  have b1 : Below W.heap.size W W1 := by rw [← hW1]; exact alloc_below W _
  have X6 : Lies W1 W.heap.size 39 #[.int .u8 7, .int .i64 1, .int .i64 1, .int .i64 1, .int .i64 0, .int .u8 0] := by rw [← hW1]; exact Lies.new W _ _
  obtain ⟨W2, hW2⟩ : ∃ W2, W1.alloc (.cells #[.int .i64 0, .int .i64 0] 42) = W2 := ⟨_, rfl⟩
  have b2 : Below W1.heap.size W1 W2 := by rw [← hW2]; exact alloc_below W1 _
  have X7 := Lib.hid (X6.below b2 X6.lt)
  have X8 : Hid (Lies W2 W1.heap.size 42 #[.int .i64 0, .int .i64 0]) := Lib.hid (by rw [← hW2]; exact Lies.new W1 _ _)
  have B1 := Lib.hid b1
  have B2 := Lib.hid (b1.trans (b2.mono b1.size))
  have k0 : W2.cell? ⟨W.heap.size, 0, none⟩ = some (.int .u8 7) := X7.out.cell 0
  have k1 : W2.cell? ⟨W.heap.size, 1, none⟩ = some (.int .i64 1) := X7.out.cell 1
  have k2 : W2.cell? ⟨W.heap.size, 2, none⟩ = some (.int .i64 1) := X7.out.cell 2
  have k3 : W2.cell? ⟨W.heap.size, 3, none⟩ = some (.int .i64 1) := X7.out.cell 3
  have k4 : W2.cell? ⟨W.heap.size, 4, none⟩ = some (.int .i64 0) := X7.out.cell 4
  clear b1 b2 X6
  go_enter Tryz.func7, Tryz.ntmps7
  go_wp2_with fail
  refine (I.nil_leave 1 0 _).mono ?_
  rintro e W3 ⟨rfl, hb⟩
  have x8 := X8.out.below hb X8.out.lt
  have HB := Lib.hid (B2.out.trans (hb.mono B2.out.size))
  clear k0 k1 k2 k3 k4 hb
  have f0 : W3.frozen? ⟨W1.heap.size, 0, none⟩ = false := x8.frozen 0
  have f1 : W3.frozen? ⟨W1.heap.size, 1, none⟩ = false := x8.frozen 1
  have c0 : W3.cell? ⟨W1.heap.size, 0, none⟩ = some (.int .i64 0) := x8.cell 0
  have c1 : W3.cell? ⟨W1.heap.size, 1, none⟩ = some (.int .i64 0) := x8.cell 1
  have x9 : Hid (Lies ((W3.setCell ⟨W1.heap.size, 0, none⟩ (.int .i64 0)).setCell ⟨W1.heap.size, 1, none⟩ (.int .i64 1)) W1.heap.size 42 #[.int .i64 0, .int .i64 1]) := Lib.hid (by simpa using (x8.set_ 0 (.int .i64 0)).set_ 1 (.int .i64 1))
  have s4 : Hid (Below W.heap.size W ((W3.setCell ⟨W1.heap.size, 0, none⟩ (.int .i64 0)).setCell ⟨W1.heap.size, 1, none⟩ (.int .i64 1))) := Lib.hid ((HB.out.setCell (p := ⟨W1.heap.size, 0, none⟩) (by have := B1.out.size; exact this) _).setCell (p := ⟨W1.heap.size, 1, none⟩) (by have := B1.out.size; exact this) _)
  clear x8
  go_wp2
  obtain ⟨W4, hW4⟩ : ∃ W4, (W3.setCell ⟨W1.heap.size, 0, none⟩ (.int .i64 0)).setCell ⟨W1.heap.size, 1, none⟩ (.int .i64 1) = W4 := ⟨_, rfl⟩
  rw [hW4] at s4 x9 ⊢
  clear hW4 f0 f1 c0 c1
  have r0 : W4.cell? ⟨W1.heap.size, 0, none⟩ = some (.int .i64 0) := x9.out.cell 0
  have r1 : W4.cell? ⟨W1.heap.size, 1, none⟩ = some (.int .i64 1) := x9.out.cell 1
  exact bodyPost_ret (v := .agg #[.int .i64 0, .int .i64 1]) (by simp [results, Tryz.results7, go_sem, r0, r1]) rfl ⟨rfl, s4.out⟩
theorem donil_any (I : Face M) (m : Value) (k : Nat) (hk : k < 8) (W : World) :
    Calls Tryz.prog 7 #[.pointer none, m, .agg #[.int .u8 (k : Nat), .int .i64 1, .int .i64 1, .int .i64 1, .int .i64 0, .int .u8 0], .int .i64 0] W fun e w' => e = .returned (.agg #[.int .i64 0, .int .i64 1]) ∧ Below W.heap.size W w' := by
  have h : k = 0 ∨ k = 1 ∨ k = 2 ∨ k = 3 ∨ k = 4 ∨ k = 5 ∨ k = 6 ∨ k = 7 := by omega
  rcases h with rfl | rfl | rfl | rfl | rfl | rfl | rfl | rfl
  · exact donil_0 I m W
  · exact donil_1 I m W
  · exact donil_2 I m W
  · exact donil_3 I m W
  · exact donil_4 I m W
  · exact donil_5 I m W
  · exact donil_6 I m W
  · exact donil_7 I m W
end
end Lo
end Go.Proofs.YtkfmkchonlajpaaGreat

namespace Go.Proofs.YtkfmkchonlajpaaGreat
open Go.RowKit Go.Sort

namespace Lo
set_option maxRecDepth 100000 in
set_option maxHeartbeats 4000000 in
theorem plays_long {M : Ms.Face} (I : Face M) (p : Option Addr) (n c : Nat) (q : Option Addr) (m d : Nat) (r : Option Addr) (na ca : Nat) (w : World) (hn : n ≤ 9223372036854775807) (hm : m ≤ 9223372036854775807) (hna : na ≤ 9223372036854775807) (h : 60 < n ∨ 60 < m ∨ 60 < na) :
    Calls Tryz.prog 3 #[.agg #[.slice p n c, .slice q m d], .slice r na ca] w fun e w' => e = .returned (.bool true) ∧ Below w.heap.size w w' := by
  obtain ⟨w0, hw0⟩ : ∃ w0, w.alloc (.cells #[.slice p n c, .slice q m d] 25) = w0 := ⟨_, rfl⟩
  have B0 := Lib.hid (show Below w.heap.size w w0 by rw [← hw0]; exact alloc_below w _)
  have X0 : Lies w0 w.heap.size 25 #[.slice p n c, .slice q m d] := by rw [← hw0]; exact Lies.new w _ _
  have h0 : w0.cell? ⟨w.heap.size, 0, none⟩ = some (.slice p n c) := X0.cell 0
  have h1 : w0.cell? ⟨w.heap.size, 1, none⟩ = some (.slice q m d) := X0.cell 1
  have AL := Lib.hid (fun W => alive_any I W)
  clear X0
  by_cases c1 : 60 < n
  · have d1 : (60 : Int) < (n : Int) := by omega
    clear c1 h hn hm hna
    go_enter Tryz.func3, Tryz.ntmps3
    go_wp2_with fail
    refine (AL.out _).mono ?_
    rintro e w3 ⟨rfl, hb⟩
    go_wp2
    go_ret
    exact ⟨rfl, then_ B0.out hb⟩
  · have d1 : decide ((60 : Int) < (n : Int)) = false := by simp; omega
    by_cases c2 : 60 < m
    · have d2 : (60 : Int) < (m : Int) := by omega
      clear c1 c2 h hn hm hna
      go_enter Tryz.func3, Tryz.ntmps3
      go_wp2_with fail
      refine (AL.out _).mono ?_
      rintro e w3 ⟨rfl, hb⟩
      go_wp2
      go_ret
      exact ⟨rfl, then_ B0.out hb⟩
    · have d2 : decide ((60 : Int) < (m : Int)) = false := by simp; omega
      have d3 : (60 : Int) < (na : Int) := by omega
      clear c1 c2 h hn hm hna
      go_enter Tryz.func3, Tryz.ntmps3
      go_wp2_with fail
      refine (AL.out _).mono ?_
      rintro e w3 ⟨rfl, hb⟩
      go_wp2
      go_ret
      exact ⟨rfl, then_ B0.out hb⟩
set_option maxRecDepth 100000 in
set_option maxHeartbeats 32000000 in
theorem plays_short (M : Ms.Face) (I : Face M) (p : Option Addr) (n c : Nat) (q : Option Addr) (m d : Nat) (r : Option Addr) (na ca : Nat) (L : List Ms.Zn) (PL : List Ms.Pd) (A : List Ac) (w : World) (hn : n ≤ 60) (hm' : m ≤ 60) (hna : na ≤ 60) (hac : na ≤ ca)
    (hL : Rw 6 Ms.zcells w p n L) (hP : Rw 3 Ms.pcells w q m PL) (hA : Rw 6 acells w r na A) (hok : ∀ x ∈ A, Aok x) :
    Calls Tryz.prog 3 #[.agg #[.slice p n c, .slice q m d], .slice r na ca] w fun e w' => e = .returned (.bool true) ∧ Below w.heap.size w w' := by
  obtain ⟨w0, hw0⟩ : ∃ w0, w.alloc (.cells #[.slice p n c, .slice q m d] 25) = w0 := ⟨_, rfl⟩
  have B0 := Lib.hid (show Below w.heap.size w w0 by rw [← hw0]; exact alloc_below w _)
  have X0 : Lies w0 w.heap.size 25 #[.slice p n c, .slice q m d] := by rw [← hw0]; exact Lies.new w _ _
  have h0 : w0.cell? ⟨w.heap.size, 0, none⟩ = some (.slice p n c) := X0.cell 0
  have h1 : w0.cell? ⟨w.heap.size, 1, none⟩ = some (.slice q m d) := X0.cell 1
  have MA := Lib.hid (masters_any M p n c q m d L PL w0 hn hm' (hL.keep Ms.zcells_len B0.out) (hP.keep Ms.pcells_len B0.out))
  have AL := Lib.hid (fun W => alive_any I W)
  have LZ := Lib.hid (show (Ms.runZ L).length ≤ 1000 from Nat.le_trans (Ms.runZ_len L) (by have := hL.1; omega))
  have LP := Lib.hid (show (Ms.runP PL).length ≤ 1000 from Nat.le_trans (Ms.runP_len PL) (by have := hP.1; omega))
  have GZ := Lib.hid (Ms.runZ_good L)
  have GP := Lib.hid (Ms.runP_good PL)
  have HA := Lib.hid (hA.keep acells_len B0.out)
  have HAn := Lib.hid hA.1
  have HOK := Lib.hid hok
  have n1 : (n : Int) ≤ 60 := by omega
  have n2 : (m : Int) ≤ 60 := by omega
  have n3 : (na : Int) ≤ 60 := by omega
  have n4 : (na : Int) ≤ (ca : Int) := by omega
  generalize Ms.runZ L = Z at *
  generalize Ms.runP PL = P at *
  clear X0 hL hP hA hok
  go_enter Tryz.func3, Tryz.ntmps3
  go_wp2_with fail
  clear hw0
  refine MA.out.mono ?_
  rintro e w1 ⟨hm, gm, rfl, hB⟩
  have HB := Lib.hid hB
  clear hB MA h0 h1
  go_wp2_with fail
  refine (I.new _).mono ?_
  rintro e w2 ⟨h, F, rfl, hd, hb⟩
  obtain ⟨w3, hw3⟩ : ∃ w3, w2.alloc (.cells #[.slice none 0 0, .int .i64 0] 37) = w3 := ⟨_, rfl⟩
  have P0 : Hid (Four I (fun _ => False) w0.heap.size w0 w3 h hm w2.heap.size gm ([], 0) ([], 0) 0 0 Z P) := Lib.hid (by rw [← hw3]; exact four_start HB.out hd hb GZ.out GP.out LZ.out LP.out)
  generalize hg : w2.heap.size = g at P0
  clear hd hb HB GZ GP LZ LP
  go_wp2_with fail
  clear hw3 hg
  go_loopw [9, 10] (fun t i wr => ∃ (k : Nat) (tm : Int) (s : Stk), k ≤ na ∧ i = .int .i64 k ∧ t = .int .i64 tm ∧ 0 ≤ tm ∧ tm ≤ 255 * k ∧ Hid (Four I (fun _ => False) w0.heap.size w0 wr h hm g gm s s (2 * k) (2 * k) Z P)) (fun _ i _ => na - (RowKit.intOf i).toNat)
  case atStart => exact ⟨0, 0, ([], 0), Nat.zero_le _, rfl, rfl, by omega, by omega, P0⟩
  case round =>
    clear P0
    obtain ⟨k, tm, s, hk, rfl, rfl, tm0, tm1, P0⟩ := hrel
    by_cases hlt : k < na
    · obtain ⟨b2, o, hp, hc⟩ := HA.out.2 (by omega)
      obtain ⟨x, hx⟩ : ∃ x, A[k]? = some x := ⟨_, List.getElem?_eq_getElem (by rw [HAn.out]; exact hlt)⟩
      subst hp
      have EC2 := Lib.hid (fun (W : World) (hW : Below w0.heap.size w0 W) i (hi : i < 6) => show W.cell? ⟨b2, o + k * 6 + i, none⟩ = (acells x)[i]? by
        obtain ⟨b3, o3, e3, hc3⟩ := (HA.out.keep acells_len hW).2 (by omega)
        injection e3 with e3
        injection e3 with e4 e5
        subst e4 e5
        exact hc3 k x hx i hi)
      have OK := Lib.hid (HOK.out x (List.mem_of_getElem? hx))
      clear hc hx
      obtain ⟨kd, a, b, cc, dd, on⟩ := x
      have on1 : 0 ≤ on := OK.out.2.2.2.2.2.2.1
      have on2 : on ≤ 255 := OK.out.2.2.2.2.2.2.2
      have kd0 : 0 ≤ kd := OK.out.1
      have IA := Lib.hid OK.out.2.2.1
      have IB := Lib.hid OK.out.2.2.2.1
      have HI1 : Hid (2 * k + 1 < 100000 ∧ I64 a ∧ I64 b ∧ I64 cc ∧ I64 dd ∧ I64 (tm + on)) := Lib.hid ⟨by omega, IA.out, IB.out, OK.out.2.2.2.2.1, OK.out.2.2.2.2.2.1, ⟨by omega, by omega⟩⟩
      have U0 := Lib.hid (four_under P0.out)
      have D1 := Lib.hid (do_any P0.out kd a b cc dd on (tm + on) kd0 HI1)
      have D2 := Lib.hid (fun (X : Nat → Prop) (W : World) (s1 : Stk) (hf : Four I X w0.heap.size w0 W h hm g gm s1 s (2 * k + 2) (2 * k) Z P) => want_any hf kd a b cc dd on (tm + on) kd0 HI1)
      generalize actS Z P s (kd % 8) a b cc dd (tm + on) = R at D1 D2
      obtain ⟨⟨N, E⟩, s'⟩ := R
      simp only at D1 D2
      have xa0 : wr.cell? ⟨b2, o + k * 6, none⟩ = some (.int .u8 kd) := EC2.out wr U0.out 0 (by decide)
      have xa1 : wr.cell? ⟨b2, o + k * 6 + 1, none⟩ = some (.int .i64 a) := EC2.out wr U0.out 1 (by decide)
      have xa2 : wr.cell? ⟨b2, o + k * 6 + 2, none⟩ = some (.int .i64 b) := EC2.out wr U0.out 2 (by decide)
      have xa3 : wr.cell? ⟨b2, o + k * 6 + 3, none⟩ = some (.int .i64 cc) := EC2.out wr U0.out 3 (by decide)
      have xa4 : wr.cell? ⟨b2, o + k * 6 + 4, none⟩ = some (.int .i64 dd) := EC2.out wr U0.out 4 (by decide)
      have xa5 : wr.cell? ⟨b2, o + k * 6 + 5, none⟩ = some (.int .u8 on) := EC2.out wr U0.out 5 (by decide)
      have q1 : IntKind.i64.wrap (tm + on) = tm + on := IntWalk.i64_in _ (by omega)
      have tm3 : tm + on ≤ 255 * (k + 1) := by omega
      have TM3 := Lib.hid tm3
      clear tm3 OK P0 HI1
      go_wp2_with fail
      refine D1.out.mono ?_
      rintro e w2 ⟨rfl, p2, _⟩
      obtain ⟨w3, hw3⟩ : ∃ w3, w2.alloc (.cells #[.int .i64 N, .int .i64 (E : Nat)] 42) = w3 := ⟨_, rfl⟩
      have P3 : Hid (Four I (fun k => k = w2.heap.size) w0.heap.size w0 w3 h hm g gm s' s (2 * k + 2) (2 * k) Z P) := Lib.hid (by rw [← hw3]; exact four_kept p2 _ _)
      have X3 : Hid (Lies w3 w2.heap.size 42 #[.int .i64 N, .int .i64 (E : Nat)]) := Lib.hid (by rw [← hw3]; exact Lies.new w2 _ _)
      have U3 := Lib.hid (four_under P3.out)
      clear D1 p2 U0 xa0 xa1 xa2 xa3 xa4 xa5
      have xb0 : w3.cell? ⟨b2, o + k * 6, none⟩ = some (.int .u8 kd) := EC2.out w3 U3.out 0 (by decide)
      have xb1 : w3.cell? ⟨b2, o + k * 6 + 1, none⟩ = some (.int .i64 a) := EC2.out w3 U3.out 1 (by decide)
      have xb2 : w3.cell? ⟨b2, o + k * 6 + 2, none⟩ = some (.int .i64 b) := EC2.out w3 U3.out 2 (by decide)
      have xb3 : w3.cell? ⟨b2, o + k * 6 + 3, none⟩ = some (.int .i64 cc) := EC2.out w3 U3.out 3 (by decide)
      have xb4 : w3.cell? ⟨b2, o + k * 6 + 4, none⟩ = some (.int .i64 dd) := EC2.out w3 U3.out 4 (by decide)
      have xb5 : w3.cell? ⟨b2, o + k * 6 + 5, none⟩ = some (.int .u8 on) := EC2.out w3 U3.out 5 (by decide)
      go_wp2_with fail
      clear hw3
      refine (D2.out _ _ _ P3.out).mono ?_
      rintro e w4 ⟨rfl, p4, st⟩
      have X4 := Lib.hid (st.lies rfl X3.out)
      obtain ⟨w5, hw5⟩ : ∃ w5, w4.alloc (.cells #[.int .i64 N, .int .i64 (E : Nat)] 42) = w5 := ⟨_, rfl⟩
      have b5 : Below w4.heap.size w4 w5 := by rw [← hw5]; exact alloc_below w4 _
      have P5 := Lib.hid (four_keep (four_less p4 (Y := fun _ => False) (fun _ hk => hk.elim)) b5)
      have XA5 := Lib.hid (X4.out.below b5 X4.out.lt)
      have XB5 : Hid (Lies w5 w4.heap.size 42 #[.int .i64 N, .int .i64 (E : Nat)]) := Lib.hid (by rw [← hw5]; exact Lies.new w4 _ _)
      have U5 := Lib.hid (four_under P5.out)
      clear D2 p4 st X3 P3 X4 b5 U3 xb0 xb1 xb2 xb3 xb4 xb5
      obtain ⟨bs, Bg, F5, v, l, tw⟩ := four_two P5.out
      obtain ⟨nn, hnn⟩ : ∃ nn, s'.1.length = nn := ⟨_, rfl⟩
      obtain ⟨q2, c2, hql⟩ := eye_list tw hnn
      have SD : Hid (Below w5.heap.size w5 w5.drew) := Lib.hid ((Below.refl _ w5).drew)
      have LOTS := Lib.hid (fun W (hb : Below w5.heap.size w5 W) => eye_lots tw hnn hb)
      have SAME := Lib.hid (fun W q1 c1 L1 (e1 : lts L1 = s'.1) (h1 : Ll W q1 nn L1) (h2 : Ll W q2 nn l) => eye_same tw hnn e1 tw.eq h1 h2 (c1 := c1) (c2 := c2))
      have G0 := Lib.hid hql
      obtain ⟨⟨x, cx⟩, hx⟩ : ∃ R, lotS s' a = R := ⟨_, rfl⟩
      have LOT1 := Lib.hid (fun W (hb : Below w5.heap.size w5 W) => eye_lot1 tw IA.out hx hb)
      have LOT2 := Lib.hid (fun W (hb : Below w5.heap.size w5 W) => eye_lot2 tw a hx hb)
      have ONE := Lib.hid (fun W q1 n1 d1 q2 n2 d2 (h1 : St W ⟨x, q1, n1, d1⟩) (h2 : St W ⟨x, q2, n2, d2⟩) => eye_one tw.good hx h1 h2)
      have GIVEN := Lib.hid (fun W (hb : Below w5.heap.size w5 W) => eye_given tw hb)
      have LOAD1 := Lib.hid (fun W (hb : Below w5.heap.size w5 W) => eye_load1 tw IB.out hb)
      have LOAD2 := Lib.hid (fun W (hb : Below w5.heap.size w5 W) => eye_load2 tw b hb)
      generalize loadL s'.1 b = ld at LOAD1 LOAD2
      obtain ⟨i1, i2, i3, i4, i5, i6, i7, S⟩ := x
      unfold lval at LOT1 LOT2 ONE
      simp only at LOT1 LOT2 ONE
      have m0 := (hql w5 (Below.refl _ _)).1
      have hgl : g < w5.heap.size := block_lt_of_cell m0
      have HGL := Lib.hid hgl
      clear tw hnn hql hx hgl
      go_wp2_with fail
      clear hw5
      go_region_held3 (fun w' => w'.cell? ⟨g, 0, none⟩ = some (.slice q2 nn c2))
        (first | go_keep | exact m2 | exact m1 | exact m0)
        (first | (go_at_call 10; ((with_reducible refine (LOTS.out _ SD.out).mono ?_); rintro E w6 ⟨q1, c1, L1, e1, rfl, hl1, hb1⟩; have m1 := (hb1.cell (p := ⟨g, 0, none⟩) HGL.out).trans m0; have L1h := Lib.hid hl1; have E1 := Lib.hid e1; have B6 := Lib.hid (SD.out.trans (hb1.mono SD.out.size)); have L2 := Lib.hid (G0.out _ B6.out).2.2)) | (go_at_call 9; ((with_reducible refine (SAME.out _ _ _ _ E1.out L1h.out L2.out).mono ?_); rintro E w7 ⟨rfl, hb2⟩; have m2 := (hb2.cell (p := ⟨g, 0, none⟩) (Nat.lt_of_lt_of_le HGL.out B6.out.size)).trans m1)))
      all_goals
        have B7 := Lib.hid (B6.out.trans (hb2.mono B6.out.size))
        clear m0 m1 m2 e1 hl1 hb1 hb2 L1h L2 E1 B6 LOTS SAME SD
        have U7 := Lib.hid (then_ U5.out B7.out)
        have y0 : w7.cell? ⟨b2, o + k * 6 + 1, none⟩ = some (.int .i64 a) := EC2.out w7 U7.out 1 (by decide)
        go_wp2_with fail
        refine (LOT1.out _ B7.out).mono ?_
        rintro e w8 ⟨p1, n1, d1, rfl, st1, hb⟩
        obtain ⟨w9, hw9⟩ : ∃ w9, w8.alloc (.cells #[.int .i64 i1, .int .i64 i2, .int .i64 i3, .int .i64 i4, .int .i64 i5, .int .i64 i6, .int .i64 i7, .slice p1 n1 d1] 50) = w9 := ⟨_, rfl⟩
        have b9 : Below w8.heap.size w8 w9 := by rw [← hw9]; exact alloc_below w8 _
        have XC9 : Hid (Lies w9 w8.heap.size 50 #[.int .i64 i1, .int .i64 i2, .int .i64 i3, .int .i64 i4, .int .i64 i5, .int .i64 i6, .int .i64 i7, .slice p1 n1 d1]) := Lib.hid (by rw [← hw9]; exact Lies.new w8 _ _)
        have B9 := Lib.hid (then_ (then_ B7.out hb) b9)
        have S9 := Lib.hid (st1.keep b9)
        have U9 := Lib.hid (then_ U5.out B9.out)
        clear st1 hb b9 y0 LOT1 U7 B7
        have y1 : w9.cell? ⟨b2, o + k * 6 + 1, none⟩ = some (.int .i64 a) := EC2.out w9 U9.out 1 (by decide)
        go_wp2_with fail
        clear hw9
        refine (LOT2.out _ B9.out).mono ?_
        rintro e w10 ⟨p2, n2, d2, rfl, st2, hb⟩
        obtain ⟨w11, hw11⟩ : ∃ w11, w10.alloc (.cells #[.int .i64 i1, .int .i64 i2, .int .i64 i3, .int .i64 i4, .int .i64 i5, .int .i64 i6, .int .i64 i7, .slice p2 n2 d2] 50) = w11 := ⟨_, rfl⟩
        have b11 : Below w10.heap.size w10 w11 := by rw [← hw11]; exact alloc_below w10 _
        have bb : Below w9.heap.size w9 w11 := then_ hb b11
        have XD11 : Lies w11 w10.heap.size 50 #[.int .i64 i1, .int .i64 i2, .int .i64 i3, .int .i64 i4, .int .i64 i5, .int .i64 i6, .int .i64 i7, .slice p2 n2 d2] := by rw [← hw11]; exact Lies.new w10 _ _
        have XC11 := XC9.out.below bb XC9.out.lt
        have B11 := Lib.hid (then_ B9.out bb)
        have S11 := Lib.hid (S9.out.keep bb)
        have T11 := Lib.hid (st2.keep b11)
        clear st2 hb b11 bb y1 LOT2 XC9 S9 U9 B9
        have y0 : w11.cell? ⟨w8.heap.size, 0, none⟩ = some (.int .i64 i1) := XC11.cell 0
        have z0 : w11.cell? ⟨w10.heap.size, 0, none⟩ = some (.int .i64 i1) := XD11.cell 0
        have y1 : w11.cell? ⟨w8.heap.size, 1, none⟩ = some (.int .i64 i2) := XC11.cell 1
        have z1 : w11.cell? ⟨w10.heap.size, 1, none⟩ = some (.int .i64 i2) := XD11.cell 1
        have y2 : w11.cell? ⟨w8.heap.size, 2, none⟩ = some (.int .i64 i3) := XC11.cell 2
        have z2 : w11.cell? ⟨w10.heap.size, 2, none⟩ = some (.int .i64 i3) := XD11.cell 2
        have y3 : w11.cell? ⟨w8.heap.size, 3, none⟩ = some (.int .i64 i4) := XC11.cell 3
        have z3 : w11.cell? ⟨w10.heap.size, 3, none⟩ = some (.int .i64 i4) := XD11.cell 3
        have y4 : w11.cell? ⟨w8.heap.size, 4, none⟩ = some (.int .i64 i5) := XC11.cell 4
        have z4 : w11.cell? ⟨w10.heap.size, 4, none⟩ = some (.int .i64 i5) := XD11.cell 4
        have y5 : w11.cell? ⟨w8.heap.size, 5, none⟩ = some (.int .i64 i6) := XC11.cell 5
        have z5 : w11.cell? ⟨w10.heap.size, 5, none⟩ = some (.int .i64 i6) := XD11.cell 5
        have y6 : w11.cell? ⟨w8.heap.size, 6, none⟩ = some (.int .i64 i7) := XC11.cell 6
        have z6 : w11.cell? ⟨w10.heap.size, 6, none⟩ = some (.int .i64 i7) := XD11.cell 6
        have y7 : w11.cell? ⟨w8.heap.size, 7, none⟩ = some (.slice p1 n1 d1) := XC11.cell 7
        have z7 : w11.cell? ⟨w10.heap.size, 7, none⟩ = some (.slice p2 n2 d2) := XD11.cell 7
        clear XC11 XD11
        go_wp2_with fail
        clear hw11
        refine (ONE.out _ _ _ _ _ _ _ S11.out T11.out).mono ?_
        rintro e w12 ⟨rfl, hb⟩
        have B12 := Lib.hid (then_ B11.out hb)
        clear hb B11 S11 T11 ONE y0 z0 y1 z1 y2 z2 y3 z3 y4 z4 y5 z5 y6 z6 y7 z7
        have U12 := Lib.hid (then_ U5.out B12.out)
        have XA12 := XA5.out.below B12.out XA5.out.lt
        have XB12 := XB5.out.below B12.out XB5.out.lt
        have a0 : w12.cell? ⟨w2.heap.size, 0, none⟩ = some (.int .i64 N) := XA12.cell 0
        have a1 : w12.cell? ⟨w2.heap.size, 1, none⟩ = some (.int .i64 (E : Nat)) := XA12.cell 1
        have z0 : w12.cell? ⟨w4.heap.size, 0, none⟩ = some (.int .i64 N) := XB12.cell 0
        have z1 : w12.cell? ⟨w4.heap.size, 1, none⟩ = some (.int .i64 (E : Nat)) := XB12.cell 1
        have g1 : w12.cell? ⟨g, 1, none⟩ = some (.int .i64 s'.2) := (G0.out _ B12.out).2.1
        have y2 : w12.cell? ⟨b2, o + k * 6 + 2, none⟩ = some (.int .i64 b) := EC2.out w12 U12.out 2 (by decide)
        clear XA12 XB12
        go_wp2_with fail
        have cG : ∀ d os, Calls Tryz.prog 14 #[.pointer (some ⟨h, 0, none⟩)] (Sort.grow (redrawn w12 d) os) fun e w'' => e = .returned (.int .i64 s'.2) ∧ ∃ q : Regrown, w'' = Sort.grow (redrawn w12 q.d) q.os := fun d os => Calls.regrown_of (GIVEN.out _ (then_ B12.out (below_regrown w12 d os)))
        have cL1 : ∀ d os, Calls Tryz.prog 15 #[.pointer (some ⟨h, 0, none⟩), .int .i64 b] (Sort.grow (redrawn w12 d) os) fun e w'' => e = .returned (.int .i64 ld) ∧ ∃ q : Regrown, w'' = Sort.grow (redrawn w12 q.d) q.os := fun d os => Calls.regrown_of (LOAD1.out _ (then_ B12.out (below_regrown w12 d os)))
        have cL2 : ∀ d os, Calls Tryz.prog 16 #[.pointer (some ⟨g, 0, none⟩), .int .i64 b] (Sort.grow (redrawn w12 d) os) fun e w'' => e = .returned (.int .i64 ld) ∧ ∃ q : Regrown, w'' = Sort.grow (redrawn w12 q.d) q.os := fun d os => Calls.regrown_of (LOAD2.out _ (then_ B12.out (below_regrown w12 d os)))
        have ka0 := cell_regrown a0
        have ka1 := cell_regrown a1
        have kz0 := cell_regrown z0
        have kz1 := cell_regrown z1
        have kg1 := cell_regrown g1
        have ky2 := cell_regrown y2
        have CG := Lib.hid cG
        have CL1 := Lib.hid cL1
        have CL2 := Lib.hid cL2
        clear cG cL1 cL2 a0 a1 z0 z1 g1 y2 GIVEN LOAD1 LOAD2
        refine wp_region_quiet_below (by kernel_rfl) (by kernel_rfl) ?_
        repeat (go_big_quiet_step ((first | with_reducible exact CG.out _ _ | with_reducible exact CL1.out _ _ | with_reducible exact CL2.out _ _)))
        refine wpQuiet_nil ?_
        intro _ hw'
        obtain ⟨⟨dq, osq⟩, hw''⟩ := hw'
        subst hw''
        have P13 := Lib.hid (four_keep P5.out (then_ B12.out (below_regrown w12 dq osq)))
        clear ka0 ka1 kz0 kz1 kg1 ky2 CG CL1 CL2 P5 U5 U12 B12 G0 XA5 XB5 EC2
        go_wp2
        go_roundw
        case rel => exact ⟨k + 1, tm + on, s', by omega, by go_num, rfl, by omega, TM3.out, P13⟩
        case measure => simp [RowKit.intOf]; omega
    · have hna2 : ¬ (k : Int) < (na : Int) := by omega
      have U0 := Lib.hid (four_under P0.out)
      clear P0 HA HAn HOK hlt hk tm0 tm1 n3 n4
      go_wp2_with fail
      go_loopw [20] (fun j wr => ∃ k : Nat, k ≤ 8 ∧ j = .int .i64 k ∧ Hid (Below w0.heap.size w0 wr)) (fun j _ => 8 - (RowKit.intOf j).toNat)
      case atStart => exact ⟨0, by omega, rfl, U0⟩
      case round =>
        clear U0
        obtain ⟨j, hj, rfl, U⟩ := hrel
        by_cases hl8 : j < 8
        · have qj : IntKind.u8.wrap (j : Int) = (j : Int) := IntWalk.u8_in _ (by omega)
          have ND := Lib.hid (fun W => donil_any I (.pointer (some ⟨hm, 0, none⟩)) j hl8 W)
          have hj8 : (j : Int) < 8 := by omega
          go_wp2_with fail
          refine (ND.out _).mono ?_
          rintro e w6 ⟨rfl, hb⟩
          obtain ⟨w7, hw7⟩ : ∃ w7, w6.alloc (.cells #[.int .i64 0, .int .i64 1] 42) = w7 := ⟨_, rfl⟩
          have b7 : Below w6.heap.size w6 w7 := by rw [← hw7]; exact alloc_below w6 _
          have X7 : Lies w7 w6.heap.size 42 #[.int .i64 0, .int .i64 1] := by rw [← hw7]; exact Lies.new w6 _ _
          have U7 := Lib.hid (then_ U.out (then_ hb b7))
          have a0 : w7.cell? ⟨w6.heap.size, 0, none⟩ = some (.int .i64 0) := X7.cell 0
          have a1 : w7.cell? ⟨w6.heap.size, 1, none⟩ = some (.int .i64 1) := X7.cell 1
          clear hb b7 X7 U ND
          go_wp2
          go_roundw
          case rel => exact ⟨j + 1, by omega, by go_num, U7⟩
          case measure => simp [RowKit.intOf]; omega
        · obtain rfl : j = 8 := by omega
          have NL := Lib.hid (fun W => I.nil_lot 1 W)
          have NS := Lib.hid (fun W => I.nil_lots W)
          have NO := Lib.hid (fun W => I.nil_load 1 W)
          have NG := Lib.hid (fun W => I.nil_given W)
          have NP := Lib.hid (fun W => I.nil_put ⟨⟨1, 0, 1, 0, 0, 0, 0, []⟩, none, 0, 0⟩ W)
          unfold lval at NP
          go_wp2_with fail
          refine (NL.out _).mono ?_
          rintro e w6 ⟨⟨x, p1, n1, d1⟩, hx, rfl, _, _, hb⟩
          obtain ⟨i1, i2, i3, i4, i5, i6, i7, S⟩ := x
          unfold lval
          obtain ⟨w7, hw7⟩ : ∃ w7, w6.alloc (.cells #[.int .i64 i1, .int .i64 i2, .int .i64 i3, .int .i64 i4, .int .i64 i5, .int .i64 i6, .int .i64 i7, .slice p1 n1 d1] 50) = w7 := ⟨_, rfl⟩
          have b7 : Below w6.heap.size w6 w7 := by rw [← hw7]; exact alloc_below w6 _
          have U7 := Lib.hid (then_ U.out (then_ hb b7))
          clear hx hb b7 U NL
          go_wp2_with fail
          clear hw7
          refine (AL.out _).mono ?_
          rintro e w8 ⟨rfl, hb⟩
          have U8 := Lib.hid (then_ U7.out hb)
          clear hb U7
          go_wp2_with fail
          refine (NS.out _).mono ?_
          rintro e w9 ⟨⟨vv, rfl, qq, cq, rfl⟩, hb⟩
          have U9 := Lib.hid (then_ U8.out hb)
          clear hb U8
          go_wp2_with fail
          refine (NO.out _).mono ?_
          rintro e w10 ⟨rfl, hb⟩
          have U10 := Lib.hid (then_ U9.out hb)
          clear hb U9
          go_wp2_with fail
          refine (NG.out _).mono ?_
          rintro e w11 ⟨rfl, hb⟩
          have U11 := Lib.hid (then_ U10.out hb)
          clear hb U10
          go_wp2_with fail
          refine (NP.out _).mono ?_
          rintro e w12 ⟨rfl, hb⟩
          have U12 := Lib.hid (then_ U11.out hb)
          clear hb U11
          go_wp2
          go_ret
          exact ⟨rfl, then_ B0.out U12.out⟩
end Lo
end Go.Proofs.YtkfmkchonlajpaaGreat

namespace Go.Proofs.YtkfmkchonlajpaaGreat
open Go.RowKit

namespace Lo
structure DuoAt {M : Ms.Face} (I : Face M) (base bs Bg : Nat) (w W : World) (h g : Nat) (F : Nat → Prop) (v : Value) (l : List Lv) (s s2 : Stk) (m m2 : Nat) : Prop where
  st : I.DB W bs h F s
  rs : RS W Bg g v s2.2 l
  eq : lts l = s2.1
  good : GoodM s m
  good2 : GoodM s2 m2
  fa : ∀ k, F k → ¬ SF g v l k
  below : Below base w W
  size : base ≤ W.heap.size
  low : base ≤ bs
  low2 : base ≤ Bg
/-- Two stocks side by side. -/
def Duo {M : Ms.Face} (I : Face M) (base : Nat) (w W : World) (h g : Nat) (s s2 : Stk) (m m2 : Nat) : Prop := ∃ bs Bg F v l, DuoAt I base bs Bg w W h g F v l s s2 m m2
section
variable {M : Ms.Face} {I : Face M} {base bs Bg : Nat} {w W : World} {h g : Nat} {s s2 : Stk} {m m2 : Nat} {F : Nat → Prop} {v : Value} {l : List Lv}
theorem duo_two (p : Duo I base w W h g s s m m2) : ∃ bs Bg F v l, TwoAt I bs Bg W h g F v l s m := by
  obtain ⟨bs, Bg, F, v, l, q⟩ := p
  exact ⟨bs, Bg, F, v, l, q.st, q.rs, q.eq, q.good⟩
theorem duo_under (p : Duo I base w W h g s s2 m m2) : Below base w W := by
  obtain ⟨bs, Bg, F, v, l, q⟩ := p
  exact q.below
theorem duo_keep (p : Duo I base w W h g s s2 m m2) {w' : World} (hb : Below W.heap.size W w') : Duo I base w w' h g s s2 m m2 := by
  obtain ⟨bs, Bg, F, v, l, q⟩ := p
  exact ⟨bs, Bg, F, v, l, I.keep q.st hb, q.rs.keep hb, q.eq, q.good, q.good2, q.fa, q.below.trans (hb.mono q.size), Nat.le_trans q.size hb.size, q.low, q.low2⟩
theorem duo_mono (p : Duo I base w W h g s s2 m m2) {k k2 : Nat} (h1 : m ≤ k) (h2 : m2 ≤ k2) : Duo I base w W h g s s2 k k2 := by
  obtain ⟨bs, Bg, F, v, l, q⟩ := p
  exact ⟨bs, Bg, F, v, l, q.st, q.rs, q.eq, q.good.mono h1, q.good2.mono h2, q.fa, q.below, q.size, q.low, q.low2⟩
/-- Where the greatest number that was given lies. -/
theorem duo_given (p : Duo I base w W h g s s2 m m2) : W.cell? ⟨g, 1, none⟩ = some (.int .i64 s2.2) ∧ g < W.heap.size := by
  obtain ⟨bs, Bg, F, v, l, q⟩ := p
  exact ⟨q.rs.blk.cell 1, q.rs.blk.lt⟩
/-- Package stock has done something. -/
theorem duo_pkg (q : DuoAt I base bs Bg w W h g F v l s s2 m m2) {w' : World} {s' : Stk} {m' : Nat} (hl : Left I.DB W bs h F s' w') (hg : GoodM s' m') : Duo I base w w' h g s' s2 m' m2 := by
  obtain ⟨F', hd, ht, hf⟩ := hl
  refine ⟨bs, Bg, F', v, l, hd, q.rs.turn ht (fun k hk hh => q.fa k hh (.inl hk)) (fun y hy k hk hh => q.fa k hh (.inr ⟨y, hy, hk⟩)), q.eq, hg, q.good2, fun k hk => ?_, ht.below q.below q.size (fun i hi => Nat.le_trans q.low (I.foot q.st hi).1), Nat.le_trans q.size ht.size, q.low, q.low2⟩
  rcases hf k hk with hk | hk
  · exact q.fa k hk
  · exact fun e => by have := sf_lt q.rs e; omega
/-- The document's stock has done something. -/
theorem duo_ref (q : DuoAt I base bs Bg w W h g F v l s s2 m m2) {K : Nat → Prop} (hK : ∀ k, K k → Bks l k ∨ k < base) {w' : World} {s' : Stk} {m' : Nat} (hl : RAc2 W Bg g v K s' w') (hg : GoodM s' m') : Duo I base w w' h g s s' m m' := by
  obtain ⟨l', he, v', hr, ht, hv, hk'⟩ := hl
  refine ⟨bs, Bg, F, v', l', I.turn q.st ht (fun k hk hh => q.fa k hk (.inl hh)), hr, he, q.good, hg, fun k hk e => ?_, ht.below q.below q.size (fun i hi => Nat.le_trans q.low2 (q.rs.foot hi).1), Nat.le_trans q.size ht.size, q.low, q.low2⟩
  have hft := I.foot q.st hk
  have hlow := q.low
  rcases e with (rfl | e) | e
  · exact q.fa k hk (.inl (.inl rfl))
  · rcases hv k e with e | e
    · exact q.fa k hk (.inl (.inr e))
    · omega
  · rcases hk' k e with e | e
    · rcases hK k e with e | e
      · exact q.fa k hk (.inr e)
      · omega
    · omega
theorem duo_start {w1 : World} (hd : I.DB w1 w.heap.size h F ([], 0)) (hb : Below w.heap.size w w1) :
    Duo I w.heap.size w (w1.alloc (.cells #[.slice none 0 0, .int .i64 0] 37)) h w1.heap.size ([], 0) ([], 0) 60 60 := by
  have ha := alloc_below w1 (.cells #[.slice none 0 0, .int .i64 0] 37)
  refine ⟨w.heap.size, w1.heap.size, F, .slice none 0 0, [], I.keep hd ha, ⟨Nat.le_refl _, Lies.new w1 _ _, World.ownsRow_nil _ _ _ _, fun y hy => by simp at hy, fun y hy => by simp at hy⟩, rfl, goodM_nil.mono (by decide), goodM_nil.mono (by decide), fun k hk e => ?_, hb.trans (ha.mono hb.size), Nat.le_trans hb.size ha.size, Nat.le_refl _, hb.size⟩
  have a1 := (I.foot hd hk).2
  rcases e with (rfl | e) | ⟨y, hy, _⟩
  · omega
  · simp [Value.ownBlock] at e
  · simp at hy
theorem duo_put1 (p : Duo I base w W h g s s2 m m2) (hm : m < 100000) {y : Lv} (hy : St W y) (hk : ∀ k, Bk y k → k < base) (hn : y.n ≤ 60) (h60 : 60 ≤ m) :
    Calls Tryz.prog 17 #[.pointer (some ⟨h, 0, none⟩), lval y] W fun e w' => e = .returned (.int .i64 ((putS s y.x).1 : Nat)) ∧ Duo I base w w' h g (putS s y.x).2 s2 (m + 1) m2 := by
  obtain ⟨bs, Bg, F, v, l, q⟩ := p
  refine (I.put bs h F s y W q.st q.good.1 hy (by omega) (fun k hb hf => ?_)).mono fun e w' ⟨he, hl⟩ => ⟨he, duo_pkg q hl (good_put q.good hm (by have := hy.len; omega))⟩
  have a1 := (I.foot q.st hf).1
  have a2 := hk k hb
  have a3 := q.low
  omega
end
end Lo
end Go.Proofs.YtkfmkchonlajpaaGreat
