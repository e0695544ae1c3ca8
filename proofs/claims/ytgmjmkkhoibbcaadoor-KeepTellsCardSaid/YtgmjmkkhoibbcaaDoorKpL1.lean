/- The live question of layer 14: it returns true. Conditions: the contracts of package keep. -/
import Derived.Test.YtgmjmkkhoibbcaaDoorKpFace
import Derived.Lib.Hide
import Derived.WalkSpells
import Derived.WalkKit
namespace Go.Proofs.YtgmjmkkhoibbcaaDoor
open Go.RowKit Lo

namespace Kp
set_option maxRecDepth 100000 in
set_option maxHeartbeats 16000000 in
theorem kalive_any (I : Face) (w : World) (hR : I.R w) : Calls Tryd.prog 5 #[] w fun e w' => e = .returned (.bool true) ∧ Below w.heap.size w w' := by
  have C1 := Lib.hid (fun W (hW : Below w.heap.size w W) => show Calls Tryd.prog 6 #[.agg #[.int .i64 1, .int .i64 0, .int .i64 100], .agg #[.int .i64 3, .int .i64 0, .int .i64 0, .int .i64 50, .int .i64 20, .int .i64 2, .int .i64 1, .slice none 0 0], .int .i64 121] W fun e w' => ∃ q' d', e = .returned (.tuple #[.agg #[.int .i64 3, .int .i64 0, .int .i64 0, .int .i64 50, .int .i64 20, .int .i64 0, .int .i64 2, .slice q' 0 d'], .bool true]) ∧ Told W w' _ ∧ Below W.heap.size W w' from I.judge ⟨1, 0, 100⟩ ⟨⟨3, 0, 0, 50, 20, 2, 1, []⟩, none, 0, 0⟩ 121 W (I.on hR hW) (st_none W _ _ _ rfl) (Nat.zero_le _))
  have C2 := Lib.hid (fun W (hW : Below w.heap.size w W) => show Calls Tryd.prog 6 #[.agg #[.int .i64 1, .int .i64 0, .int .i64 100], .agg #[.int .i64 3, .int .i64 0, .int .i64 0, .int .i64 50, .int .i64 20, .int .i64 2, .int .i64 1, .slice none 0 0], .int .i64 120] W fun e w' => ∃ q' d', e = .returned (.tuple #[.agg #[.int .i64 3, .int .i64 0, .int .i64 0, .int .i64 50, .int .i64 20, .int .i64 2, .int .i64 1, .slice q' 0 d'], .bool false]) ∧ Told W w' _ ∧ Below W.heap.size W w' from I.judge ⟨1, 0, 100⟩ ⟨⟨3, 0, 0, 50, 20, 2, 1, []⟩, none, 0, 0⟩ 120 W (I.on hR hW) (st_none W _ _ _ rfl) (Nat.zero_le _))
  have C3 := Lib.hid (fun (q : Option Addr) (d : Nat) W (hW : Below w.heap.size w W) => show Calls Tryd.prog 10 #[.agg #[.int .i64 1, .int .i64 0, .int .i64 100], .agg #[.int .i64 3, .int .i64 0, .int .i64 0, .int .i64 50, .int .i64 20, .int .i64 0, .int .i64 2, .slice q 0 d], .int .i64 130, .int .i64 10] W fun e w' => ∃ q' d', e = .returned (.tuple #[.agg #[.int .i64 3, .int .i64 0, .int .i64 0, .int .i64 50, .int .i64 30, .int .i64 0, .int .i64 1, .slice q' 0 d'], .int .i64 0]) ∧ Told W w' _ ∧ Below W.heap.size W w' from I.rev ⟨1, 0, 100⟩ ⟨⟨3, 0, 0, 50, 20, 0, 2, []⟩, q, 0, d⟩ 130 10 W (I.on hR hW) (st_none W _ _ _ rfl) (Nat.zero_le _))
  have C4 := Lib.hid (fun (q : Option Addr) (d : Nat) W (hW : Below w.heap.size w W) => show Calls Tryd.prog 10 #[.agg #[.int .i64 1, .int .i64 0, .int .i64 100], .agg #[.int .i64 3, .int .i64 0, .int .i64 0, .int .i64 50, .int .i64 20, .int .i64 0, .int .i64 2, .slice q 0 d], .int .i64 131, .int .i64 10] W fun e w' => ∃ q' d', e = .returned (.tuple #[.agg #[.int .i64 0, .int .i64 0, .int .i64 0, .int .i64 0, .int .i64 0, .int .i64 0, .int .i64 0, .slice q' 0 d'], .int .i64 9]) ∧ Told W w' _ ∧ Below W.heap.size W w' from I.rev ⟨1, 0, 100⟩ ⟨⟨3, 0, 0, 50, 20, 0, 2, []⟩, q, 0, d⟩ 131 10 W (I.on hR hW) (st_none W _ _ _ rfl) (Nat.zero_le _))
  have C5 := Lib.hid (fun W (hW : Below w.heap.size w W) => show Calls Tryd.prog 8 #[.agg #[.int .i64 1, .int .i64 0, .int .i64 100], .agg #[.int .i64 3, .int .i64 0, .int .i64 0, .int .i64 50, .int .i64 20, .int .i64 2, .int .i64 1, .slice none 0 0], .int .i64 0] W fun e w' => ∃ q' d', e = .returned (.tuple #[.agg #[.int .i64 0, .int .i64 0, .int .i64 0, .int .i64 0, .int .i64 0, .int .i64 0, .int .i64 0, .slice q' 0 d'], .int .i64 8]) ∧ Told W w' _ ∧ Below W.heap.size W w' from I.rel ⟨1, 0, 100⟩ ⟨⟨3, 0, 0, 50, 20, 2, 1, []⟩, none, 0, 0⟩ 0 W (I.on hR hW) (st_none W _ _ _ rfl) (Nat.zero_le _))
  have C6 := Lib.hid (fun W (hW : Below w.heap.size w W) => show Calls Tryd.prog 14 #[.agg #[.int .i64 3, .int .i64 0, .int .i64 0, .int .i64 50, .int .i64 20, .int .i64 2, .int .i64 1, .slice none 0 0]] W fun e w' => ∃ q' d', e = .returned (.tuple #[.agg #[.int .i64 3, .int .i64 0, .int .i64 0, .int .i64 50, .int .i64 20, .int .i64 0, .int .i64 3, .slice q' 0 d'], .int .i64 0]) ∧ Told W w' _ ∧ Below W.heap.size W w' from I.rej ⟨⟨3, 0, 0, 50, 20, 2, 1, []⟩, none, 0, 0⟩ W (I.on hR hW) (st_none W _ _ _ rfl) (Nat.zero_le _))
  have C7 := Lib.hid (fun W (hW : Below w.heap.size w W) => show Calls Tryd.prog 17 #[.agg #[.int .i64 1, .int .i64 0, .int .i64 100], .agg #[.int .i64 3, .int .i64 0, .int .i64 0, .int .i64 50, .int .i64 20, .int .i64 2, .int .i64 1, .slice none 0 0]] W fun e w' => e = .returned (.int .i64 120) ∧ Below W.heap.size W w' from I.allow ⟨1, 0, 100⟩ ⟨⟨3, 0, 0, 50, 20, 2, 1, []⟩, none, 0, 0⟩ W (I.on hR hW))
  have C8 := Lib.hid (fun W (hW : Below w.heap.size w W) => show Calls Tryd.prog 19 #[.agg #[.int .i64 1, .int .i64 0, .int .i64 100], .agg #[.int .i64 3, .int .i64 0, .int .i64 0, .int .i64 50, .int .i64 20, .int .i64 2, .int .i64 1, .slice none 0 0], .int .i64 120, .int .i64 49] W fun e w' => e = .returned (.int .i64 0) ∧ Below W.heap.size W w' from I.may ⟨1, 0, 100⟩ ⟨⟨3, 0, 0, 50, 20, 2, 1, []⟩, none, 0, 0⟩ 120 49 W (I.on hR hW))
  have C9 := Lib.hid (fun W (hW : Below w.heap.size w W) => show Calls Tryd.prog 19 #[.agg #[.int .i64 1, .int .i64 0, .int .i64 100], .agg #[.int .i64 3, .int .i64 0, .int .i64 0, .int .i64 50, .int .i64 20, .int .i64 2, .int .i64 1, .slice none 0 0], .int .i64 120, .int .i64 50] W fun e w' => e = .returned (.int .i64 10) ∧ Below W.heap.size W w' from I.may ⟨1, 0, 100⟩ ⟨⟨3, 0, 0, 50, 20, 2, 1, []⟩, none, 0, 0⟩ 120 50 W (I.on hR hW))
  have C10 := Lib.hid (fun W (hW : Below w.heap.size w W) => show Calls Tryd.prog 19 #[.agg #[.int .i64 1, .int .i64 0, .int .i64 100], .agg #[.int .i64 3, .int .i64 0, .int .i64 0, .int .i64 50, .int .i64 20, .int .i64 2, .int .i64 1, .slice none 0 0], .int .i64 121, .int .i64 49] W fun e w' => e = .returned (.int .i64 9) ∧ Below W.heap.size W w' from I.may ⟨1, 0, 100⟩ ⟨⟨3, 0, 0, 50, 20, 2, 1, []⟩, none, 0, 0⟩ 121 49 W (I.on hR hW))
  have C11 := Lib.hid (fun (q : Option Addr) (d : Nat) W (hW : Below w.heap.size w W) => show Calls Tryd.prog 19 #[.agg #[.int .i64 1, .int .i64 0, .int .i64 100], .agg #[.int .i64 3, .int .i64 0, .int .i64 0, .int .i64 50, .int .i64 20, .int .i64 0, .int .i64 2, .slice q 0 d], .int .i64 0, .int .i64 0] W fun e w' => e = .returned (.int .i64 8) ∧ Below W.heap.size W w' from I.may ⟨1, 0, 100⟩ ⟨⟨3, 0, 0, 50, 20, 0, 2, []⟩, q, 0, d⟩ 0 0 W (I.on hR hW))
  have B0 : Hid (Below w.heap.size w ((w.alloc (.cells #[.int .i64 1, .int .i64 0, .int .i64 100] 23)).alloc (.cells #[.int .i64 3, .int .i64 0, .int .i64 0, .int .i64 50, .int .i64 20, .int .i64 2, .int .i64 1, .slice none 0 0] 27))) := Lib.hid (((Below.refl w.heap.size w).alloc (Nat.le_refl _) _).alloc (by simp) _)
  have X0 : Hid (Lies ((w.alloc (.cells #[.int .i64 1, .int .i64 0, .int .i64 100] 23)).alloc (.cells #[.int .i64 3, .int .i64 0, .int .i64 0, .int .i64 50, .int .i64 20, .int .i64 2, .int .i64 1, .slice none 0 0] 27)) w.heap.size 23 #[.int .i64 1, .int .i64 0, .int .i64 100]) := Lib.hid ((Lies.new w 23 _).alloc _)
  have Y0 : Hid (Lies ((w.alloc (.cells #[.int .i64 1, .int .i64 0, .int .i64 100] 23)).alloc (.cells #[.int .i64 3, .int .i64 0, .int .i64 0, .int .i64 50, .int .i64 20, .int .i64 2, .int .i64 1, .slice none 0 0] 27)) (w.heap.size + 1) 27 #[.int .i64 3, .int .i64 0, .int .i64 0, .int .i64 50, .int .i64 20, .int .i64 2, .int .i64 1, .slice none 0 0]) := Lib.hid (by
    have := Lies.new (w.alloc (.cells #[.int .i64 1, .int .i64 0, .int .i64 100] 23)) 27 #[.int .i64 3, .int .i64 0, .int .i64 0, .int .i64 50, .int .i64 20, .int .i64 2, .int .i64 1, .slice none 0 0]
    rwa [show (w.alloc (.cells #[.int .i64 1, .int .i64 0, .int .i64 100] 23)).heap.size = w.heap.size + 1 by simp] at this)
  clear hR
  have x0_ : ((w.alloc (.cells #[.int .i64 1, .int .i64 0, .int .i64 100] 23)).alloc (.cells #[.int .i64 3, .int .i64 0, .int .i64 0, .int .i64 50, .int .i64 20, .int .i64 2, .int .i64 1, .slice none 0 0] 27)).cell? ⟨w.heap.size, 0, none⟩ = some (.int .i64 1) := X0.out.cell 0
  have x1_ : ((w.alloc (.cells #[.int .i64 1, .int .i64 0, .int .i64 100] 23)).alloc (.cells #[.int .i64 3, .int .i64 0, .int .i64 0, .int .i64 50, .int .i64 20, .int .i64 2, .int .i64 1, .slice none 0 0] 27)).cell? ⟨w.heap.size, 1, none⟩ = some (.int .i64 0) := X0.out.cell 1
  have x2_ : ((w.alloc (.cells #[.int .i64 1, .int .i64 0, .int .i64 100] 23)).alloc (.cells #[.int .i64 3, .int .i64 0, .int .i64 0, .int .i64 50, .int .i64 20, .int .i64 2, .int .i64 1, .slice none 0 0] 27)).cell? ⟨w.heap.size, 2, none⟩ = some (.int .i64 100) := X0.out.cell 2
  have y0_ : ((w.alloc (.cells #[.int .i64 1, .int .i64 0, .int .i64 100] 23)).alloc (.cells #[.int .i64 3, .int .i64 0, .int .i64 0, .int .i64 50, .int .i64 20, .int .i64 2, .int .i64 1, .slice none 0 0] 27)).cell? ⟨w.heap.size + 1, 0, none⟩ = some (.int .i64 3) := Y0.out.cell 0
  have y1_ : ((w.alloc (.cells #[.int .i64 1, .int .i64 0, .int .i64 100] 23)).alloc (.cells #[.int .i64 3, .int .i64 0, .int .i64 0, .int .i64 50, .int .i64 20, .int .i64 2, .int .i64 1, .slice none 0 0] 27)).cell? ⟨w.heap.size + 1, 1, none⟩ = some (.int .i64 0) := Y0.out.cell 1
  have y2_ : ((w.alloc (.cells #[.int .i64 1, .int .i64 0, .int .i64 100] 23)).alloc (.cells #[.int .i64 3, .int .i64 0, .int .i64 0, .int .i64 50, .int .i64 20, .int .i64 2, .int .i64 1, .slice none 0 0] 27)).cell? ⟨w.heap.size + 1, 2, none⟩ = some (.int .i64 0) := Y0.out.cell 2
  have y3_ : ((w.alloc (.cells #[.int .i64 1, .int .i64 0, .int .i64 100] 23)).alloc (.cells #[.int .i64 3, .int .i64 0, .int .i64 0, .int .i64 50, .int .i64 20, .int .i64 2, .int .i64 1, .slice none 0 0] 27)).cell? ⟨w.heap.size + 1, 3, none⟩ = some (.int .i64 50) := Y0.out.cell 3
  have y4_ : ((w.alloc (.cells #[.int .i64 1, .int .i64 0, .int .i64 100] 23)).alloc (.cells #[.int .i64 3, .int .i64 0, .int .i64 0, .int .i64 50, .int .i64 20, .int .i64 2, .int .i64 1, .slice none 0 0] 27)).cell? ⟨w.heap.size + 1, 4, none⟩ = some (.int .i64 20) := Y0.out.cell 4
  have y5_ : ((w.alloc (.cells #[.int .i64 1, .int .i64 0, .int .i64 100] 23)).alloc (.cells #[.int .i64 3, .int .i64 0, .int .i64 0, .int .i64 50, .int .i64 20, .int .i64 2, .int .i64 1, .slice none 0 0] 27)).cell? ⟨w.heap.size + 1, 5, none⟩ = some (.int .i64 2) := Y0.out.cell 5
  have y6_ : ((w.alloc (.cells #[.int .i64 1, .int .i64 0, .int .i64 100] 23)).alloc (.cells #[.int .i64 3, .int .i64 0, .int .i64 0, .int .i64 50, .int .i64 20, .int .i64 2, .int .i64 1, .slice none 0 0] 27)).cell? ⟨w.heap.size + 1, 6, none⟩ = some (.int .i64 1) := Y0.out.cell 6
  have y7_ : ((w.alloc (.cells #[.int .i64 1, .int .i64 0, .int .i64 100] 23)).alloc (.cells #[.int .i64 3, .int .i64 0, .int .i64 0, .int .i64 50, .int .i64 20, .int .i64 2, .int .i64 1, .slice none 0 0] 27)).cell? ⟨w.heap.size + 1, 7, none⟩ = some (.slice none 0 0) := Y0.out.cell 7
  go_enter Tryd.func5, Tryd.ntmps5
  go_wp2_with fail
  refine (C1.out _ B0.out).mono ?_
  rintro e w1 ⟨qa, da, rfl, _, hb⟩
  have B1 := Lib.hid (B0.out.trans (hb.mono B0.out.size))
  have X1 := Lib.hid (X0.out.below hb X0.out.lt)
  have Y1 := Lib.hid (Y0.out.below hb Y0.out.lt)
  clear hb C1 x0_ x1_ x2_ y0_ y1_ y2_ y3_ y4_ y5_ y6_ y7_ X0 Y0 B0
  have B2 := Lib.hid (B1.out.alloc B1.out.size (.cells #[.int .i64 3, .int .i64 0, .int .i64 0, .int .i64 50, .int .i64 20, .int .i64 0, .int .i64 2, .slice qa 0 da] 27))
  have X2 := Lib.hid (X1.out.alloc (.cells #[.int .i64 3, .int .i64 0, .int .i64 0, .int .i64 50, .int .i64 20, .int .i64 0, .int .i64 2, .slice qa 0 da] 27))
  have Y2 := Lib.hid (Y1.out.alloc (.cells #[.int .i64 3, .int .i64 0, .int .i64 0, .int .i64 50, .int .i64 20, .int .i64 0, .int .i64 2, .slice qa 0 da] 27))
  have A2 := Lib.hid (Lies.new w1 27 #[.int .i64 3, .int .i64 0, .int .i64 0, .int .i64 50, .int .i64 20, .int .i64 0, .int .i64 2, .slice qa 0 da])
  clear B1 X1 Y1
  have x0_ : (w1.alloc (.cells #[.int .i64 3, .int .i64 0, .int .i64 0, .int .i64 50, .int .i64 20, .int .i64 0, .int .i64 2, .slice qa 0 da] 27)).cell? ⟨w.heap.size, 0, none⟩ = some (.int .i64 1) := X2.out.cell 0
  have x1_ : (w1.alloc (.cells #[.int .i64 3, .int .i64 0, .int .i64 0, .int .i64 50, .int .i64 20, .int .i64 0, .int .i64 2, .slice qa 0 da] 27)).cell? ⟨w.heap.size, 1, none⟩ = some (.int .i64 0) := X2.out.cell 1
  have x2_ : (w1.alloc (.cells #[.int .i64 3, .int .i64 0, .int .i64 0, .int .i64 50, .int .i64 20, .int .i64 0, .int .i64 2, .slice qa 0 da] 27)).cell? ⟨w.heap.size, 2, none⟩ = some (.int .i64 100) := X2.out.cell 2
  have y0_ : (w1.alloc (.cells #[.int .i64 3, .int .i64 0, .int .i64 0, .int .i64 50, .int .i64 20, .int .i64 0, .int .i64 2, .slice qa 0 da] 27)).cell? ⟨w.heap.size + 1, 0, none⟩ = some (.int .i64 3) := Y2.out.cell 0
  have y1_ : (w1.alloc (.cells #[.int .i64 3, .int .i64 0, .int .i64 0, .int .i64 50, .int .i64 20, .int .i64 0, .int .i64 2, .slice qa 0 da] 27)).cell? ⟨w.heap.size + 1, 1, none⟩ = some (.int .i64 0) := Y2.out.cell 1
  have y2_ : (w1.alloc (.cells #[.int .i64 3, .int .i64 0, .int .i64 0, .int .i64 50, .int .i64 20, .int .i64 0, .int .i64 2, .slice qa 0 da] 27)).cell? ⟨w.heap.size + 1, 2, none⟩ = some (.int .i64 0) := Y2.out.cell 2
  have y3_ : (w1.alloc (.cells #[.int .i64 3, .int .i64 0, .int .i64 0, .int .i64 50, .int .i64 20, .int .i64 0, .int .i64 2, .slice qa 0 da] 27)).cell? ⟨w.heap.size + 1, 3, none⟩ = some (.int .i64 50) := Y2.out.cell 3
  have y4_ : (w1.alloc (.cells #[.int .i64 3, .int .i64 0, .int .i64 0, .int .i64 50, .int .i64 20, .int .i64 0, .int .i64 2, .slice qa 0 da] 27)).cell? ⟨w.heap.size + 1, 4, none⟩ = some (.int .i64 20) := Y2.out.cell 4
  have y5_ : (w1.alloc (.cells #[.int .i64 3, .int .i64 0, .int .i64 0, .int .i64 50, .int .i64 20, .int .i64 0, .int .i64 2, .slice qa 0 da] 27)).cell? ⟨w.heap.size + 1, 5, none⟩ = some (.int .i64 2) := Y2.out.cell 5
  have y6_ : (w1.alloc (.cells #[.int .i64 3, .int .i64 0, .int .i64 0, .int .i64 50, .int .i64 20, .int .i64 0, .int .i64 2, .slice qa 0 da] 27)).cell? ⟨w.heap.size + 1, 6, none⟩ = some (.int .i64 1) := Y2.out.cell 6
  have y7_ : (w1.alloc (.cells #[.int .i64 3, .int .i64 0, .int .i64 0, .int .i64 50, .int .i64 20, .int .i64 0, .int .i64 2, .slice qa 0 da] 27)).cell? ⟨w.heap.size + 1, 7, none⟩ = some (.slice none 0 0) := Y2.out.cell 7
  go_wp2_with fail
  refine (C2.out _ B2.out).mono ?_
  rintro e w3 ⟨qe, de, rfl, _, hb⟩
  have B3 := Lib.hid (B2.out.trans (hb.mono B2.out.size))
  have X3 := Lib.hid (X2.out.below hb X2.out.lt)
  have Y3 := Lib.hid (Y2.out.below hb Y2.out.lt)
  have A3 := Lib.hid (A2.out.below hb A2.out.lt)
  clear hb C2 x0_ x1_ x2_ y0_ y1_ y2_ y3_ y4_ y5_ y6_ y7_ X2 Y2 A2 B2
  have B4 := Lib.hid (B3.out.alloc B3.out.size (.cells #[.int .i64 3, .int .i64 0, .int .i64 0, .int .i64 50, .int .i64 20, .int .i64 2, .int .i64 1, .slice qe 0 de] 27))
  have X4 := Lib.hid (X3.out.alloc (.cells #[.int .i64 3, .int .i64 0, .int .i64 0, .int .i64 50, .int .i64 20, .int .i64 2, .int .i64 1, .slice qe 0 de] 27))
  have Y4 := Lib.hid (Y3.out.alloc (.cells #[.int .i64 3, .int .i64 0, .int .i64 0, .int .i64 50, .int .i64 20, .int .i64 2, .int .i64 1, .slice qe 0 de] 27))
  have A4 := Lib.hid (A3.out.alloc (.cells #[.int .i64 3, .int .i64 0, .int .i64 0, .int .i64 50, .int .i64 20, .int .i64 2, .int .i64 1, .slice qe 0 de] 27))
  have E4 := Lib.hid (Lies.new w3 27 #[.int .i64 3, .int .i64 0, .int .i64 0, .int .i64 50, .int .i64 20, .int .i64 2, .int .i64 1, .slice qe 0 de])
  clear B3 X3 Y3 A3
  have x0_ : (w3.alloc (.cells #[.int .i64 3, .int .i64 0, .int .i64 0, .int .i64 50, .int .i64 20, .int .i64 2, .int .i64 1, .slice qe 0 de] 27)).cell? ⟨w.heap.size, 0, none⟩ = some (.int .i64 1) := X4.out.cell 0
  have x1_ : (w3.alloc (.cells #[.int .i64 3, .int .i64 0, .int .i64 0, .int .i64 50, .int .i64 20, .int .i64 2, .int .i64 1, .slice qe 0 de] 27)).cell? ⟨w.heap.size, 1, none⟩ = some (.int .i64 0) := X4.out.cell 1
  have x2_ : (w3.alloc (.cells #[.int .i64 3, .int .i64 0, .int .i64 0, .int .i64 50, .int .i64 20, .int .i64 2, .int .i64 1, .slice qe 0 de] 27)).cell? ⟨w.heap.size, 2, none⟩ = some (.int .i64 100) := X4.out.cell 2
  have a0_ : (w3.alloc (.cells #[.int .i64 3, .int .i64 0, .int .i64 0, .int .i64 50, .int .i64 20, .int .i64 2, .int .i64 1, .slice qe 0 de] 27)).cell? ⟨w1.heap.size, 0, none⟩ = some (.int .i64 3) := A4.out.cell 0
  have a1_ : (w3.alloc (.cells #[.int .i64 3, .int .i64 0, .int .i64 0, .int .i64 50, .int .i64 20, .int .i64 2, .int .i64 1, .slice qe 0 de] 27)).cell? ⟨w1.heap.size, 1, none⟩ = some (.int .i64 0) := A4.out.cell 1
  have a2_ : (w3.alloc (.cells #[.int .i64 3, .int .i64 0, .int .i64 0, .int .i64 50, .int .i64 20, .int .i64 2, .int .i64 1, .slice qe 0 de] 27)).cell? ⟨w1.heap.size, 2, none⟩ = some (.int .i64 0) := A4.out.cell 2
  have a3_ : (w3.alloc (.cells #[.int .i64 3, .int .i64 0, .int .i64 0, .int .i64 50, .int .i64 20, .int .i64 2, .int .i64 1, .slice qe 0 de] 27)).cell? ⟨w1.heap.size, 3, none⟩ = some (.int .i64 50) := A4.out.cell 3
  have a4_ : (w3.alloc (.cells #[.int .i64 3, .int .i64 0, .int .i64 0, .int .i64 50, .int .i64 20, .int .i64 2, .int .i64 1, .slice qe 0 de] 27)).cell? ⟨w1.heap.size, 4, none⟩ = some (.int .i64 20) := A4.out.cell 4
  have a5_ : (w3.alloc (.cells #[.int .i64 3, .int .i64 0, .int .i64 0, .int .i64 50, .int .i64 20, .int .i64 2, .int .i64 1, .slice qe 0 de] 27)).cell? ⟨w1.heap.size, 5, none⟩ = some (.int .i64 0) := A4.out.cell 5
  have a6_ : (w3.alloc (.cells #[.int .i64 3, .int .i64 0, .int .i64 0, .int .i64 50, .int .i64 20, .int .i64 2, .int .i64 1, .slice qe 0 de] 27)).cell? ⟨w1.heap.size, 6, none⟩ = some (.int .i64 2) := A4.out.cell 6
  have a7_ : (w3.alloc (.cells #[.int .i64 3, .int .i64 0, .int .i64 0, .int .i64 50, .int .i64 20, .int .i64 2, .int .i64 1, .slice qe 0 de] 27)).cell? ⟨w1.heap.size, 7, none⟩ = some (.slice qa 0 da) := A4.out.cell 7
  go_wp2_with fail
  refine (C3.out qa da _ B4.out).mono ?_
  rintro e w5 ⟨qc, dc, rfl, _, hb⟩
  have B5 := Lib.hid (B4.out.trans (hb.mono B4.out.size))
  have X5 := Lib.hid (X4.out.below hb X4.out.lt)
  have Y5 := Lib.hid (Y4.out.below hb Y4.out.lt)
  have A5 := Lib.hid (A4.out.below hb A4.out.lt)
  have E5 := Lib.hid (E4.out.below hb E4.out.lt)
  clear hb C3 x0_ x1_ x2_ a0_ a1_ a2_ a3_ a4_ a5_ a6_ a7_ X4 Y4 A4 E4 B4
  have B6 := Lib.hid (B5.out.alloc B5.out.size (.cells #[.int .i64 3, .int .i64 0, .int .i64 0, .int .i64 50, .int .i64 30, .int .i64 0, .int .i64 1, .slice qc 0 dc] 27))
  have X6 := Lib.hid (X5.out.alloc (.cells #[.int .i64 3, .int .i64 0, .int .i64 0, .int .i64 50, .int .i64 30, .int .i64 0, .int .i64 1, .slice qc 0 dc] 27))
  have Y6 := Lib.hid (Y5.out.alloc (.cells #[.int .i64 3, .int .i64 0, .int .i64 0, .int .i64 50, .int .i64 30, .int .i64 0, .int .i64 1, .slice qc 0 dc] 27))
  have A6 := Lib.hid (A5.out.alloc (.cells #[.int .i64 3, .int .i64 0, .int .i64 0, .int .i64 50, .int .i64 30, .int .i64 0, .int .i64 1, .slice qc 0 dc] 27))
  have E6 := Lib.hid (E5.out.alloc (.cells #[.int .i64 3, .int .i64 0, .int .i64 0, .int .i64 50, .int .i64 30, .int .i64 0, .int .i64 1, .slice qc 0 dc] 27))
  have C6 := Lib.hid (Lies.new w5 27 #[.int .i64 3, .int .i64 0, .int .i64 0, .int .i64 50, .int .i64 30, .int .i64 0, .int .i64 1, .slice qc 0 dc])
  clear B5 X5 Y5 A5 E5
  have x0_ : (w5.alloc (.cells #[.int .i64 3, .int .i64 0, .int .i64 0, .int .i64 50, .int .i64 30, .int .i64 0, .int .i64 1, .slice qc 0 dc] 27)).cell? ⟨w.heap.size, 0, none⟩ = some (.int .i64 1) := X6.out.cell 0
  have x1_ : (w5.alloc (.cells #[.int .i64 3, .int .i64 0, .int .i64 0, .int .i64 50, .int .i64 30, .int .i64 0, .int .i64 1, .slice qc 0 dc] 27)).cell? ⟨w.heap.size, 1, none⟩ = some (.int .i64 0) := X6.out.cell 1
  have x2_ : (w5.alloc (.cells #[.int .i64 3, .int .i64 0, .int .i64 0, .int .i64 50, .int .i64 30, .int .i64 0, .int .i64 1, .slice qc 0 dc] 27)).cell? ⟨w.heap.size, 2, none⟩ = some (.int .i64 100) := X6.out.cell 2
  have a0_ : (w5.alloc (.cells #[.int .i64 3, .int .i64 0, .int .i64 0, .int .i64 50, .int .i64 30, .int .i64 0, .int .i64 1, .slice qc 0 dc] 27)).cell? ⟨w1.heap.size, 0, none⟩ = some (.int .i64 3) := A6.out.cell 0
  have a1_ : (w5.alloc (.cells #[.int .i64 3, .int .i64 0, .int .i64 0, .int .i64 50, .int .i64 30, .int .i64 0, .int .i64 1, .slice qc 0 dc] 27)).cell? ⟨w1.heap.size, 1, none⟩ = some (.int .i64 0) := A6.out.cell 1
  have a2_ : (w5.alloc (.cells #[.int .i64 3, .int .i64 0, .int .i64 0, .int .i64 50, .int .i64 30, .int .i64 0, .int .i64 1, .slice qc 0 dc] 27)).cell? ⟨w1.heap.size, 2, none⟩ = some (.int .i64 0) := A6.out.cell 2
  have a3_ : (w5.alloc (.cells #[.int .i64 3, .int .i64 0, .int .i64 0, .int .i64 50, .int .i64 30, .int .i64 0, .int .i64 1, .slice qc 0 dc] 27)).cell? ⟨w1.heap.size, 3, none⟩ = some (.int .i64 50) := A6.out.cell 3
  have a4_ : (w5.alloc (.cells #[.int .i64 3, .int .i64 0, .int .i64 0, .int .i64 50, .int .i64 30, .int .i64 0, .int .i64 1, .slice qc 0 dc] 27)).cell? ⟨w1.heap.size, 4, none⟩ = some (.int .i64 20) := A6.out.cell 4
  have a5_ : (w5.alloc (.cells #[.int .i64 3, .int .i64 0, .int .i64 0, .int .i64 50, .int .i64 30, .int .i64 0, .int .i64 1, .slice qc 0 dc] 27)).cell? ⟨w1.heap.size, 5, none⟩ = some (.int .i64 0) := A6.out.cell 5
  have a6_ : (w5.alloc (.cells #[.int .i64 3, .int .i64 0, .int .i64 0, .int .i64 50, .int .i64 30, .int .i64 0, .int .i64 1, .slice qc 0 dc] 27)).cell? ⟨w1.heap.size, 6, none⟩ = some (.int .i64 2) := A6.out.cell 6
  have a7_ : (w5.alloc (.cells #[.int .i64 3, .int .i64 0, .int .i64 0, .int .i64 50, .int .i64 30, .int .i64 0, .int .i64 1, .slice qc 0 dc] 27)).cell? ⟨w1.heap.size, 7, none⟩ = some (.slice qa 0 da) := A6.out.cell 7
  go_wp2_with fail
  refine (C4.out qa da _ B6.out).mono ?_
  rintro e w7 ⟨qv, dv, rfl, _, hb⟩
  have B7 := Lib.hid (B6.out.trans (hb.mono B6.out.size))
  have X7 := Lib.hid (X6.out.below hb X6.out.lt)
  have Y7 := Lib.hid (Y6.out.below hb Y6.out.lt)
  have A7 := Lib.hid (A6.out.below hb A6.out.lt)
  have E7 := Lib.hid (E6.out.below hb E6.out.lt)
  have C7 := Lib.hid (C6.out.below hb C6.out.lt)
  clear hb C4 x0_ x1_ x2_ a0_ a1_ a2_ a3_ a4_ a5_ a6_ a7_ X6 Y6 A6 E6 C6 B6
  have B8 := Lib.hid (B7.out.alloc B7.out.size (.cells #[.int .i64 0, .int .i64 0, .int .i64 0, .int .i64 0, .int .i64 0, .int .i64 0, .int .i64 0, .slice qv 0 dv] 27))
  have X8 := Lib.hid (X7.out.alloc (.cells #[.int .i64 0, .int .i64 0, .int .i64 0, .int .i64 0, .int .i64 0, .int .i64 0, .int .i64 0, .slice qv 0 dv] 27))
  have Y8 := Lib.hid (Y7.out.alloc (.cells #[.int .i64 0, .int .i64 0, .int .i64 0, .int .i64 0, .int .i64 0, .int .i64 0, .int .i64 0, .slice qv 0 dv] 27))
  have A8 := Lib.hid (A7.out.alloc (.cells #[.int .i64 0, .int .i64 0, .int .i64 0, .int .i64 0, .int .i64 0, .int .i64 0, .int .i64 0, .slice qv 0 dv] 27))
  have E8 := Lib.hid (E7.out.alloc (.cells #[.int .i64 0, .int .i64 0, .int .i64 0, .int .i64 0, .int .i64 0, .int .i64 0, .int .i64 0, .slice qv 0 dv] 27))
  have C8 := Lib.hid (C7.out.alloc (.cells #[.int .i64 0, .int .i64 0, .int .i64 0, .int .i64 0, .int .i64 0, .int .i64 0, .int .i64 0, .slice qv 0 dv] 27))
  have V8 := Lib.hid (Lies.new w7 27 #[.int .i64 0, .int .i64 0, .int .i64 0, .int .i64 0, .int .i64 0, .int .i64 0, .int .i64 0, .slice qv 0 dv])
  clear B7 X7 Y7 A7 E7 C7
  have x0_ : (w7.alloc (.cells #[.int .i64 0, .int .i64 0, .int .i64 0, .int .i64 0, .int .i64 0, .int .i64 0, .int .i64 0, .slice qv 0 dv] 27)).cell? ⟨w.heap.size, 0, none⟩ = some (.int .i64 1) := X8.out.cell 0
  have x1_ : (w7.alloc (.cells #[.int .i64 0, .int .i64 0, .int .i64 0, .int .i64 0, .int .i64 0, .int .i64 0, .int .i64 0, .slice qv 0 dv] 27)).cell? ⟨w.heap.size, 1, none⟩ = some (.int .i64 0) := X8.out.cell 1
  have x2_ : (w7.alloc (.cells #[.int .i64 0, .int .i64 0, .int .i64 0, .int .i64 0, .int .i64 0, .int .i64 0, .int .i64 0, .slice qv 0 dv] 27)).cell? ⟨w.heap.size, 2, none⟩ = some (.int .i64 100) := X8.out.cell 2
  have y0_ : (w7.alloc (.cells #[.int .i64 0, .int .i64 0, .int .i64 0, .int .i64 0, .int .i64 0, .int .i64 0, .int .i64 0, .slice qv 0 dv] 27)).cell? ⟨w.heap.size + 1, 0, none⟩ = some (.int .i64 3) := Y8.out.cell 0
  have y1_ : (w7.alloc (.cells #[.int .i64 0, .int .i64 0, .int .i64 0, .int .i64 0, .int .i64 0, .int .i64 0, .int .i64 0, .slice qv 0 dv] 27)).cell? ⟨w.heap.size + 1, 1, none⟩ = some (.int .i64 0) := Y8.out.cell 1
  have y2_ : (w7.alloc (.cells #[.int .i64 0, .int .i64 0, .int .i64 0, .int .i64 0, .int .i64 0, .int .i64 0, .int .i64 0, .slice qv 0 dv] 27)).cell? ⟨w.heap.size + 1, 2, none⟩ = some (.int .i64 0) := Y8.out.cell 2
  have y3_ : (w7.alloc (.cells #[.int .i64 0, .int .i64 0, .int .i64 0, .int .i64 0, .int .i64 0, .int .i64 0, .int .i64 0, .slice qv 0 dv] 27)).cell? ⟨w.heap.size + 1, 3, none⟩ = some (.int .i64 50) := Y8.out.cell 3
  have y4_ : (w7.alloc (.cells #[.int .i64 0, .int .i64 0, .int .i64 0, .int .i64 0, .int .i64 0, .int .i64 0, .int .i64 0, .slice qv 0 dv] 27)).cell? ⟨w.heap.size + 1, 4, none⟩ = some (.int .i64 20) := Y8.out.cell 4
  have y5_ : (w7.alloc (.cells #[.int .i64 0, .int .i64 0, .int .i64 0, .int .i64 0, .int .i64 0, .int .i64 0, .int .i64 0, .slice qv 0 dv] 27)).cell? ⟨w.heap.size + 1, 5, none⟩ = some (.int .i64 2) := Y8.out.cell 5
  have y6_ : (w7.alloc (.cells #[.int .i64 0, .int .i64 0, .int .i64 0, .int .i64 0, .int .i64 0, .int .i64 0, .int .i64 0, .slice qv 0 dv] 27)).cell? ⟨w.heap.size + 1, 6, none⟩ = some (.int .i64 1) := Y8.out.cell 6
  have y7_ : (w7.alloc (.cells #[.int .i64 0, .int .i64 0, .int .i64 0, .int .i64 0, .int .i64 0, .int .i64 0, .int .i64 0, .slice qv 0 dv] 27)).cell? ⟨w.heap.size + 1, 7, none⟩ = some (.slice none 0 0) := Y8.out.cell 7
  go_wp2_with fail
  refine (C5.out _ B8.out).mono ?_
  rintro e w9 ⟨qu, du, rfl, _, hb⟩
  have B9 := Lib.hid (B8.out.trans (hb.mono B8.out.size))
  have X9 := Lib.hid (X8.out.below hb X8.out.lt)
  have Y9 := Lib.hid (Y8.out.below hb Y8.out.lt)
  have A9 := Lib.hid (A8.out.below hb A8.out.lt)
  have E9 := Lib.hid (E8.out.below hb E8.out.lt)
  have C9 := Lib.hid (C8.out.below hb C8.out.lt)
  have V9 := Lib.hid (V8.out.below hb V8.out.lt)
  clear hb C5 x0_ x1_ x2_ y0_ y1_ y2_ y3_ y4_ y5_ y6_ y7_ X8 Y8 A8 E8 C8 V8 B8
  have B10 := Lib.hid (B9.out.alloc B9.out.size (.cells #[.int .i64 0, .int .i64 0, .int .i64 0, .int .i64 0, .int .i64 0, .int .i64 0, .int .i64 0, .slice qu 0 du] 27))
  have X10 := Lib.hid (X9.out.alloc (.cells #[.int .i64 0, .int .i64 0, .int .i64 0, .int .i64 0, .int .i64 0, .int .i64 0, .int .i64 0, .slice qu 0 du] 27))
  have Y10 := Lib.hid (Y9.out.alloc (.cells #[.int .i64 0, .int .i64 0, .int .i64 0, .int .i64 0, .int .i64 0, .int .i64 0, .int .i64 0, .slice qu 0 du] 27))
  have A10 := Lib.hid (A9.out.alloc (.cells #[.int .i64 0, .int .i64 0, .int .i64 0, .int .i64 0, .int .i64 0, .int .i64 0, .int .i64 0, .slice qu 0 du] 27))
  have E10 := Lib.hid (E9.out.alloc (.cells #[.int .i64 0, .int .i64 0, .int .i64 0, .int .i64 0, .int .i64 0, .int .i64 0, .int .i64 0, .slice qu 0 du] 27))
  have C10 := Lib.hid (C9.out.alloc (.cells #[.int .i64 0, .int .i64 0, .int .i64 0, .int .i64 0, .int .i64 0, .int .i64 0, .int .i64 0, .slice qu 0 du] 27))
  have V10 := Lib.hid (V9.out.alloc (.cells #[.int .i64 0, .int .i64 0, .int .i64 0, .int .i64 0, .int .i64 0, .int .i64 0, .int .i64 0, .slice qu 0 du] 27))
  have U10 := Lib.hid (Lies.new w9 27 #[.int .i64 0, .int .i64 0, .int .i64 0, .int .i64 0, .int .i64 0, .int .i64 0, .int .i64 0, .slice qu 0 du])
  clear B9 X9 Y9 A9 E9 C9 V9
  have y0_ : (w9.alloc (.cells #[.int .i64 0, .int .i64 0, .int .i64 0, .int .i64 0, .int .i64 0, .int .i64 0, .int .i64 0, .slice qu 0 du] 27)).cell? ⟨w.heap.size + 1, 0, none⟩ = some (.int .i64 3) := Y10.out.cell 0
  have y1_ : (w9.alloc (.cells #[.int .i64 0, .int .i64 0, .int .i64 0, .int .i64 0, .int .i64 0, .int .i64 0, .int .i64 0, .slice qu 0 du] 27)).cell? ⟨w.heap.size + 1, 1, none⟩ = some (.int .i64 0) := Y10.out.cell 1
  have y2_ : (w9.alloc (.cells #[.int .i64 0, .int .i64 0, .int .i64 0, .int .i64 0, .int .i64 0, .int .i64 0, .int .i64 0, .slice qu 0 du] 27)).cell? ⟨w.heap.size + 1, 2, none⟩ = some (.int .i64 0) := Y10.out.cell 2
  have y3_ : (w9.alloc (.cells #[.int .i64 0, .int .i64 0, .int .i64 0, .int .i64 0, .int .i64 0, .int .i64 0, .int .i64 0, .slice qu 0 du] 27)).cell? ⟨w.heap.size + 1, 3, none⟩ = some (.int .i64 50) := Y10.out.cell 3
  have y4_ : (w9.alloc (.cells #[.int .i64 0, .int .i64 0, .int .i64 0, .int .i64 0, .int .i64 0, .int .i64 0, .int .i64 0, .slice qu 0 du] 27)).cell? ⟨w.heap.size + 1, 4, none⟩ = some (.int .i64 20) := Y10.out.cell 4
  have y5_ : (w9.alloc (.cells #[.int .i64 0, .int .i64 0, .int .i64 0, .int .i64 0, .int .i64 0, .int .i64 0, .int .i64 0, .slice qu 0 du] 27)).cell? ⟨w.heap.size + 1, 5, none⟩ = some (.int .i64 2) := Y10.out.cell 5
  have y6_ : (w9.alloc (.cells #[.int .i64 0, .int .i64 0, .int .i64 0, .int .i64 0, .int .i64 0, .int .i64 0, .int .i64 0, .slice qu 0 du] 27)).cell? ⟨w.heap.size + 1, 6, none⟩ = some (.int .i64 1) := Y10.out.cell 6
  have y7_ : (w9.alloc (.cells #[.int .i64 0, .int .i64 0, .int .i64 0, .int .i64 0, .int .i64 0, .int .i64 0, .int .i64 0, .slice qu 0 du] 27)).cell? ⟨w.heap.size + 1, 7, none⟩ = some (.slice none 0 0) := Y10.out.cell 7
  go_wp2_with fail
  refine (C6.out _ B10.out).mono ?_
  rintro e w11 ⟨qd, dd, rfl, _, hb⟩
  have B11 := Lib.hid (B10.out.trans (hb.mono B10.out.size))
  have X11 := Lib.hid (X10.out.below hb X10.out.lt)
  have Y11 := Lib.hid (Y10.out.below hb Y10.out.lt)
  have A11 := Lib.hid (A10.out.below hb A10.out.lt)
  have E11 := Lib.hid (E10.out.below hb E10.out.lt)
  have C11 := Lib.hid (C10.out.below hb C10.out.lt)
  have V11 := Lib.hid (V10.out.below hb V10.out.lt)
  have U11 := Lib.hid (U10.out.below hb U10.out.lt)
  clear hb C6 y0_ y1_ y2_ y3_ y4_ y5_ y6_ y7_ X10 Y10 A10 E10 C10 V10 U10 B10
  have B12 := Lib.hid (B11.out.alloc B11.out.size (.cells #[.int .i64 3, .int .i64 0, .int .i64 0, .int .i64 50, .int .i64 20, .int .i64 0, .int .i64 3, .slice qd 0 dd] 27))
  have X12 := Lib.hid (X11.out.alloc (.cells #[.int .i64 3, .int .i64 0, .int .i64 0, .int .i64 50, .int .i64 20, .int .i64 0, .int .i64 3, .slice qd 0 dd] 27))
  have Y12 := Lib.hid (Y11.out.alloc (.cells #[.int .i64 3, .int .i64 0, .int .i64 0, .int .i64 50, .int .i64 20, .int .i64 0, .int .i64 3, .slice qd 0 dd] 27))
  have A12 := Lib.hid (A11.out.alloc (.cells #[.int .i64 3, .int .i64 0, .int .i64 0, .int .i64 50, .int .i64 20, .int .i64 0, .int .i64 3, .slice qd 0 dd] 27))
  have E12 := Lib.hid (E11.out.alloc (.cells #[.int .i64 3, .int .i64 0, .int .i64 0, .int .i64 50, .int .i64 20, .int .i64 0, .int .i64 3, .slice qd 0 dd] 27))
  have C12 := Lib.hid (C11.out.alloc (.cells #[.int .i64 3, .int .i64 0, .int .i64 0, .int .i64 50, .int .i64 20, .int .i64 0, .int .i64 3, .slice qd 0 dd] 27))
  have V12 := Lib.hid (V11.out.alloc (.cells #[.int .i64 3, .int .i64 0, .int .i64 0, .int .i64 50, .int .i64 20, .int .i64 0, .int .i64 3, .slice qd 0 dd] 27))
  have U12 := Lib.hid (U11.out.alloc (.cells #[.int .i64 3, .int .i64 0, .int .i64 0, .int .i64 50, .int .i64 20, .int .i64 0, .int .i64 3, .slice qd 0 dd] 27))
  have D12 := Lib.hid (Lies.new w11 27 #[.int .i64 3, .int .i64 0, .int .i64 0, .int .i64 50, .int .i64 20, .int .i64 0, .int .i64 3, .slice qd 0 dd])
  clear B11 X11 Y11 A11 E11 C11 V11 U11
  have x0_ : (w11.alloc (.cells #[.int .i64 3, .int .i64 0, .int .i64 0, .int .i64 50, .int .i64 20, .int .i64 0, .int .i64 3, .slice qd 0 dd] 27)).cell? ⟨w.heap.size, 0, none⟩ = some (.int .i64 1) := X12.out.cell 0
  have x1_ : (w11.alloc (.cells #[.int .i64 3, .int .i64 0, .int .i64 0, .int .i64 50, .int .i64 20, .int .i64 0, .int .i64 3, .slice qd 0 dd] 27)).cell? ⟨w.heap.size, 1, none⟩ = some (.int .i64 0) := X12.out.cell 1
  have x2_ : (w11.alloc (.cells #[.int .i64 3, .int .i64 0, .int .i64 0, .int .i64 50, .int .i64 20, .int .i64 0, .int .i64 3, .slice qd 0 dd] 27)).cell? ⟨w.heap.size, 2, none⟩ = some (.int .i64 100) := X12.out.cell 2
  have y0_ : (w11.alloc (.cells #[.int .i64 3, .int .i64 0, .int .i64 0, .int .i64 50, .int .i64 20, .int .i64 0, .int .i64 3, .slice qd 0 dd] 27)).cell? ⟨w.heap.size + 1, 0, none⟩ = some (.int .i64 3) := Y12.out.cell 0
  have y1_ : (w11.alloc (.cells #[.int .i64 3, .int .i64 0, .int .i64 0, .int .i64 50, .int .i64 20, .int .i64 0, .int .i64 3, .slice qd 0 dd] 27)).cell? ⟨w.heap.size + 1, 1, none⟩ = some (.int .i64 0) := Y12.out.cell 1
  have y2_ : (w11.alloc (.cells #[.int .i64 3, .int .i64 0, .int .i64 0, .int .i64 50, .int .i64 20, .int .i64 0, .int .i64 3, .slice qd 0 dd] 27)).cell? ⟨w.heap.size + 1, 2, none⟩ = some (.int .i64 0) := Y12.out.cell 2
  have y3_ : (w11.alloc (.cells #[.int .i64 3, .int .i64 0, .int .i64 0, .int .i64 50, .int .i64 20, .int .i64 0, .int .i64 3, .slice qd 0 dd] 27)).cell? ⟨w.heap.size + 1, 3, none⟩ = some (.int .i64 50) := Y12.out.cell 3
  have y4_ : (w11.alloc (.cells #[.int .i64 3, .int .i64 0, .int .i64 0, .int .i64 50, .int .i64 20, .int .i64 0, .int .i64 3, .slice qd 0 dd] 27)).cell? ⟨w.heap.size + 1, 4, none⟩ = some (.int .i64 20) := Y12.out.cell 4
  have y5_ : (w11.alloc (.cells #[.int .i64 3, .int .i64 0, .int .i64 0, .int .i64 50, .int .i64 20, .int .i64 0, .int .i64 3, .slice qd 0 dd] 27)).cell? ⟨w.heap.size + 1, 5, none⟩ = some (.int .i64 2) := Y12.out.cell 5
  have y6_ : (w11.alloc (.cells #[.int .i64 3, .int .i64 0, .int .i64 0, .int .i64 50, .int .i64 20, .int .i64 0, .int .i64 3, .slice qd 0 dd] 27)).cell? ⟨w.heap.size + 1, 6, none⟩ = some (.int .i64 1) := Y12.out.cell 6
  have y7_ : (w11.alloc (.cells #[.int .i64 3, .int .i64 0, .int .i64 0, .int .i64 50, .int .i64 20, .int .i64 0, .int .i64 3, .slice qd 0 dd] 27)).cell? ⟨w.heap.size + 1, 7, none⟩ = some (.slice none 0 0) := Y12.out.cell 7
  go_wp2_with fail
  refine (C7.out _ B12.out).mono ?_
  rintro e w13 ⟨rfl, hb⟩
  have B13 := Lib.hid (B12.out.trans (hb.mono B12.out.size))
  have X13 := Lib.hid (X12.out.below hb X12.out.lt)
  have Y13 := Lib.hid (Y12.out.below hb Y12.out.lt)
  have A13 := Lib.hid (A12.out.below hb A12.out.lt)
  have E13 := Lib.hid (E12.out.below hb E12.out.lt)
  have C13 := Lib.hid (C12.out.below hb C12.out.lt)
  have V13 := Lib.hid (V12.out.below hb V12.out.lt)
  have U13 := Lib.hid (U12.out.below hb U12.out.lt)
  have D13 := Lib.hid (D12.out.below hb D12.out.lt)
  clear hb C7 x0_ x1_ x2_ y0_ y1_ y2_ y3_ y4_ y5_ y6_ y7_ X12 Y12 A12 E12 C12 V12 U12 D12 B12
  have x0_ : w13.cell? ⟨w.heap.size, 0, none⟩ = some (.int .i64 1) := X13.out.cell 0
  have x1_ : w13.cell? ⟨w.heap.size, 1, none⟩ = some (.int .i64 0) := X13.out.cell 1
  have x2_ : w13.cell? ⟨w.heap.size, 2, none⟩ = some (.int .i64 100) := X13.out.cell 2
  have y0_ : w13.cell? ⟨w.heap.size + 1, 0, none⟩ = some (.int .i64 3) := Y13.out.cell 0
  have y1_ : w13.cell? ⟨w.heap.size + 1, 1, none⟩ = some (.int .i64 0) := Y13.out.cell 1
  have y2_ : w13.cell? ⟨w.heap.size + 1, 2, none⟩ = some (.int .i64 0) := Y13.out.cell 2
  have y3_ : w13.cell? ⟨w.heap.size + 1, 3, none⟩ = some (.int .i64 50) := Y13.out.cell 3
  have y4_ : w13.cell? ⟨w.heap.size + 1, 4, none⟩ = some (.int .i64 20) := Y13.out.cell 4
  have y5_ : w13.cell? ⟨w.heap.size + 1, 5, none⟩ = some (.int .i64 2) := Y13.out.cell 5
  have y6_ : w13.cell? ⟨w.heap.size + 1, 6, none⟩ = some (.int .i64 1) := Y13.out.cell 6
  have y7_ : w13.cell? ⟨w.heap.size + 1, 7, none⟩ = some (.slice none 0 0) := Y13.out.cell 7
  have a5_ : w13.cell? ⟨w1.heap.size, 5, none⟩ = some (.int .i64 0) := A13.out.cell 5
  have a6_ : w13.cell? ⟨w1.heap.size, 6, none⟩ = some (.int .i64 2) := A13.out.cell 6
  have e5_ : w13.cell? ⟨w3.heap.size, 5, none⟩ = some (.int .i64 2) := E13.out.cell 5
  have c4_ : w13.cell? ⟨w5.heap.size, 4, none⟩ = some (.int .i64 30) := C13.out.cell 4
  have c6_ : w13.cell? ⟨w5.heap.size, 6, none⟩ = some (.int .i64 1) := C13.out.cell 6
  have d5_ : w13.cell? ⟨w11.heap.size, 5, none⟩ = some (.int .i64 0) := D13.out.cell 5
  have d6_ : w13.cell? ⟨w11.heap.size, 6, none⟩ = some (.int .i64 3) := D13.out.cell 6
  go_wp2_with fail
  refine (C8.out _ B13.out).mono ?_
  rintro e w14 ⟨rfl, hb⟩
  have B14 := Lib.hid (B13.out.trans (hb.mono B13.out.size))
  have X14 := Lib.hid (X13.out.below hb X13.out.lt)
  have Y14 := Lib.hid (Y13.out.below hb Y13.out.lt)
  have A14 := Lib.hid (A13.out.below hb A13.out.lt)
  have E14 := Lib.hid (E13.out.below hb E13.out.lt)
  have C14 := Lib.hid (C13.out.below hb C13.out.lt)
  have V14 := Lib.hid (V13.out.below hb V13.out.lt)
  have U14 := Lib.hid (U13.out.below hb U13.out.lt)
  have D14 := Lib.hid (D13.out.below hb D13.out.lt)
  clear hb C8 x0_ x1_ x2_ y0_ y1_ y2_ y3_ y4_ y5_ y6_ y7_ a5_ a6_ e5_ c4_ c6_ d5_ d6_ X13 Y13 A13 E13 C13 V13 U13 D13 B13
  have x0_ : w14.cell? ⟨w.heap.size, 0, none⟩ = some (.int .i64 1) := X14.out.cell 0
  have x1_ : w14.cell? ⟨w.heap.size, 1, none⟩ = some (.int .i64 0) := X14.out.cell 1
  have x2_ : w14.cell? ⟨w.heap.size, 2, none⟩ = some (.int .i64 100) := X14.out.cell 2
  have y0_ : w14.cell? ⟨w.heap.size + 1, 0, none⟩ = some (.int .i64 3) := Y14.out.cell 0
  have y1_ : w14.cell? ⟨w.heap.size + 1, 1, none⟩ = some (.int .i64 0) := Y14.out.cell 1
  have y2_ : w14.cell? ⟨w.heap.size + 1, 2, none⟩ = some (.int .i64 0) := Y14.out.cell 2
  have y3_ : w14.cell? ⟨w.heap.size + 1, 3, none⟩ = some (.int .i64 50) := Y14.out.cell 3
  have y4_ : w14.cell? ⟨w.heap.size + 1, 4, none⟩ = some (.int .i64 20) := Y14.out.cell 4
  have y5_ : w14.cell? ⟨w.heap.size + 1, 5, none⟩ = some (.int .i64 2) := Y14.out.cell 5
  have y6_ : w14.cell? ⟨w.heap.size + 1, 6, none⟩ = some (.int .i64 1) := Y14.out.cell 6
  have y7_ : w14.cell? ⟨w.heap.size + 1, 7, none⟩ = some (.slice none 0 0) := Y14.out.cell 7
  go_wp2_with fail
  refine (C9.out _ B14.out).mono ?_
  rintro e w15 ⟨rfl, hb⟩
  have B15 := Lib.hid (B14.out.trans (hb.mono B14.out.size))
  have X15 := Lib.hid (X14.out.below hb X14.out.lt)
  have Y15 := Lib.hid (Y14.out.below hb Y14.out.lt)
  have A15 := Lib.hid (A14.out.below hb A14.out.lt)
  have E15 := Lib.hid (E14.out.below hb E14.out.lt)
  have C15 := Lib.hid (C14.out.below hb C14.out.lt)
  have V15 := Lib.hid (V14.out.below hb V14.out.lt)
  have U15 := Lib.hid (U14.out.below hb U14.out.lt)
  have D15 := Lib.hid (D14.out.below hb D14.out.lt)
  clear hb C9 x0_ x1_ x2_ y0_ y1_ y2_ y3_ y4_ y5_ y6_ y7_ X14 Y14 A14 E14 C14 V14 U14 D14 B14
  have x0_ : w15.cell? ⟨w.heap.size, 0, none⟩ = some (.int .i64 1) := X15.out.cell 0
  have x1_ : w15.cell? ⟨w.heap.size, 1, none⟩ = some (.int .i64 0) := X15.out.cell 1
  have x2_ : w15.cell? ⟨w.heap.size, 2, none⟩ = some (.int .i64 100) := X15.out.cell 2
  have y0_ : w15.cell? ⟨w.heap.size + 1, 0, none⟩ = some (.int .i64 3) := Y15.out.cell 0
  have y1_ : w15.cell? ⟨w.heap.size + 1, 1, none⟩ = some (.int .i64 0) := Y15.out.cell 1
  have y2_ : w15.cell? ⟨w.heap.size + 1, 2, none⟩ = some (.int .i64 0) := Y15.out.cell 2
  have y3_ : w15.cell? ⟨w.heap.size + 1, 3, none⟩ = some (.int .i64 50) := Y15.out.cell 3
  have y4_ : w15.cell? ⟨w.heap.size + 1, 4, none⟩ = some (.int .i64 20) := Y15.out.cell 4
  have y5_ : w15.cell? ⟨w.heap.size + 1, 5, none⟩ = some (.int .i64 2) := Y15.out.cell 5
  have y6_ : w15.cell? ⟨w.heap.size + 1, 6, none⟩ = some (.int .i64 1) := Y15.out.cell 6
  have y7_ : w15.cell? ⟨w.heap.size + 1, 7, none⟩ = some (.slice none 0 0) := Y15.out.cell 7
  go_wp2_with fail
  refine (C10.out _ B15.out).mono ?_
  rintro e w16 ⟨rfl, hb⟩
  have B16 := Lib.hid (B15.out.trans (hb.mono B15.out.size))
  have X16 := Lib.hid (X15.out.below hb X15.out.lt)
  have Y16 := Lib.hid (Y15.out.below hb Y15.out.lt)
  have A16 := Lib.hid (A15.out.below hb A15.out.lt)
  have E16 := Lib.hid (E15.out.below hb E15.out.lt)
  have C16 := Lib.hid (C15.out.below hb C15.out.lt)
  have V16 := Lib.hid (V15.out.below hb V15.out.lt)
  have U16 := Lib.hid (U15.out.below hb U15.out.lt)
  have D16 := Lib.hid (D15.out.below hb D15.out.lt)
  clear hb C10 x0_ x1_ x2_ y0_ y1_ y2_ y3_ y4_ y5_ y6_ y7_ X15 Y15 A15 E15 C15 V15 U15 D15 B15
  have x0_ : w16.cell? ⟨w.heap.size, 0, none⟩ = some (.int .i64 1) := X16.out.cell 0
  have x1_ : w16.cell? ⟨w.heap.size, 1, none⟩ = some (.int .i64 0) := X16.out.cell 1
  have x2_ : w16.cell? ⟨w.heap.size, 2, none⟩ = some (.int .i64 100) := X16.out.cell 2
  have a0_ : w16.cell? ⟨w1.heap.size, 0, none⟩ = some (.int .i64 3) := A16.out.cell 0
  have a1_ : w16.cell? ⟨w1.heap.size, 1, none⟩ = some (.int .i64 0) := A16.out.cell 1
  have a2_ : w16.cell? ⟨w1.heap.size, 2, none⟩ = some (.int .i64 0) := A16.out.cell 2
  have a3_ : w16.cell? ⟨w1.heap.size, 3, none⟩ = some (.int .i64 50) := A16.out.cell 3
  have a4_ : w16.cell? ⟨w1.heap.size, 4, none⟩ = some (.int .i64 20) := A16.out.cell 4
  have a5_ : w16.cell? ⟨w1.heap.size, 5, none⟩ = some (.int .i64 0) := A16.out.cell 5
  have a6_ : w16.cell? ⟨w1.heap.size, 6, none⟩ = some (.int .i64 2) := A16.out.cell 6
  have a7_ : w16.cell? ⟨w1.heap.size, 7, none⟩ = some (.slice qa 0 da) := A16.out.cell 7
  go_wp2_with fail
  refine (C11.out qa da _ B16.out).mono ?_
  rintro e w17 ⟨rfl, hb⟩
  have B17 := Lib.hid (B16.out.trans (hb.mono B16.out.size))
  have X17 := Lib.hid (X16.out.below hb X16.out.lt)
  have Y17 := Lib.hid (Y16.out.below hb Y16.out.lt)
  have A17 := Lib.hid (A16.out.below hb A16.out.lt)
  have E17 := Lib.hid (E16.out.below hb E16.out.lt)
  have C17 := Lib.hid (C16.out.below hb C16.out.lt)
  have V17 := Lib.hid (V16.out.below hb V16.out.lt)
  have U17 := Lib.hid (U16.out.below hb U16.out.lt)
  have D17 := Lib.hid (D16.out.below hb D16.out.lt)
  clear hb C11 x0_ x1_ x2_ a0_ a1_ a2_ a3_ a4_ a5_ a6_ a7_ X16 Y16 A16 E16 C16 V16 U16 D16 B16
  go_wp2
  go_ret
  exact ⟨rfl, B17.out⟩
end Kp
end Go.Proofs.YtgmjmkkhoibbcaaDoor
