/- The live question of layer 1: it answers true. Condition: the table of powers of ten and the variable ErrSyntax are as the program lays them. -/
import Derived.Test.YtigohcfedmefbaaDoorW5
namespace Go.Proofs.YtigohcfedmefbaaDoor
open Go.RowKit Go.Sort

theorem of_at (b : Nat) (n : Int) (h : Hf.rg b ≤ Hf.infR) (ht : Hf.tenths b = n) (w : World) :
    Calls Tryd.prog 7 #[.int .u64 b] w fun e w' => e = .returned (.tuple #[.int .i64 n, .int .i64 0]) ∧ w = w' := ht ▸ of_any b h w
theorem tenths_at (b : Nat) (n : Int) (h : Hf.rg b ≤ Hf.infR) (ht : Hf.tenths b = n) (w : World) :
    Calls Tryd.prog 15 #[.float .f64 b] w fun e w' => e = .returned (.tuple #[.int .i64 n, .int .i64 0]) ∧ w = w' := ht ▸ tenths_any b h w

theorem v1 : Hf.tenths 4617540697942969549 = 52 := by unfold Hf.tenths Hf.ceilZ; rw [Hf.U_eq, Hf.ee_eq]; decide +kernel
theorem v2 : Hf.tenths 9223372036854775808 = 0 := by unfold Hf.tenths Hf.ceilZ; rw [Hf.U_eq, Hf.ee_eq]; decide +kernel
theorem v3 : Hf.tenths 9218868437227405312 = 1099511627776 := by unfold Hf.tenths Hf.ceilZ; rw [Hf.U_eq, Hf.ee_eq]; decide +kernel
theorem v4 : Hf.tenths 18442240474082181120 = -1099511627776 := by unfold Hf.tenths Hf.ceilZ; rw [Hf.U_eq, Hf.ee_eq]; decide +kernel
theorem v6 : Hf.tenths 4576918229304087675 = 1 := by unfold Hf.tenths Hf.ceilZ; rw [Hf.U_eq, Hf.ee_eq]; decide +kernel
theorem v7 : Hf.tenths 13800290266158863483 = 0 := by unfold Hf.tenths Hf.ceilZ; rw [Hf.U_eq, Hf.ee_eq]; decide +kernel

theorem tx1 : Hf.bs (Hf.textL (-125)) = { data := #[45, 49, 50, 46, 53] } := by
  have e : Hf.textL (-125) = [45, 49, 50, 46, 53] := by
    unfold Hf.textL Hf.figL
    rw [if_pos (by decide), Lib.decDigits_two (by decide) (by decide), Lib.decDigits_one (by decide)]
    decide
  rw [e]; rfl
theorem tx2 : Hf.textL 125 = [49, 50, 46, 53] := by
  unfold Hf.textL Hf.figL
  rw [if_neg (by decide), Lib.decDigits_two (by decide) (by decide), Lib.decDigits_one (by decide)]
  decide
theorem tx3 : Hf.bs (Hf.textL (-5)) = { data := #[45, 48, 46, 53] } := by
  have e : Hf.textL (-5) = [45, 48, 46, 53] := by
    unfold Hf.textL Hf.figL
    rw [if_pos (by decide), Lib.decDigits_one (by decide), Lib.decDigits_one (by decide)]
    decide
  rw [e]; rfl

theorem p1 (w : World) (hr : Ready w) : Calls Tryd.prog 10 #[.string { data := #[45, 49, 50, 46, 53] }] w fun e w' => e = .returned (.tuple #[.int .i64 (-125), .int .i64 0]) ∧ Below w.heap.size w w' :=
  tx1 ▸ parse_yes (-125) ⟨by decide, by decide⟩ w hr
theorem p2 (w : World) (hr : Ready w) : Calls Tryd.prog 10 #[.string { data := #[48, 49, 50, 46, 53] }] w fun e w' => e = .returned (.tuple #[.int .i64 0, .int .i64 2]) ∧ Below w.heap.size w w' :=
  parse_no _ (by decide) (fun t _ h => by
    have h1 := Hf.atoi_cut t
    rw [h] at h1
    have h2 : Lib.atoi (Hf.cutPt [48, 49, 50, 46, 53]) = some 125 := by decide
    have h3 : t = 125 := Option.some.inj (h1.symm.trans h2)
    rw [h3, tx2] at h
    exact absurd h (by decide)) w hr
theorem p3 (w : World) (hr : Ready w) : Calls Tryd.prog 12 #[.int .i64 (-5)] w fun e w' => e = .returned (.string { data := #[45, 48, 46, 53] }) ∧ Below w.heap.size w w' :=
  tx3 ▸ text_yes (-5) ⟨by decide, by decide⟩ w hr

set_option maxRecDepth 100000 in
set_option maxHeartbeats 2000000 in
/-- The live question. -/
theorem alive_any (w : World) (hr : Ready w) : Calls Tryd.prog 9 #[] w fun e w' => e = .returned (.bool true) ∧ Below w.heap.size w w' := by
  have nan : Hf.infR < Hf.rg 9221120237041090561 := by decide +kernel
  have N := Lib.hid nan
  clear nan
  go_enter Tryd.func9, Tryd.ntmps9
  go_wp2_with fail
  refine (of_at 4617540697942969549 52 (by decide +kernel) v1 _).mono ?_
  rintro e w' ⟨rfl, rfl⟩
  go_wp2_with fail
  refine (of_at 9223372036854775808 0 (by decide +kernel) v2 _).mono ?_
  rintro e w' ⟨rfl, rfl⟩
  go_wp2_with fail
  refine (of_at 9218868437227405312 1099511627776 (by decide +kernel) v3 _).mono ?_
  rintro e w' ⟨rfl, rfl⟩
  go_wp2_with fail
  refine (of_at 18442240474082181120 (-1099511627776) (by decide +kernel) v4 _).mono ?_
  rintro e w' ⟨rfl, rfl⟩
  go_wp2_with fail
  refine (of_nan 9221120237041090561 N.out _).mono ?_
  rintro e w' ⟨rfl, rfl⟩
  go_wp2_with fail
  refine (tenths_at 4576918229304087675 1 (by decide +kernel) v6 _).mono ?_
  rintro e w' ⟨rfl, rfl⟩
  go_wp2_with fail
  refine (tenths_at 13800290266158863483 0 (by decide +kernel) v7 _).mono ?_
  rintro e w' ⟨rfl, rfl⟩
  go_wp2_with fail
  refine (p1 _ hr).mono ?_
  rintro e w1 ⟨rfl, hb1⟩
  have hr1 := hr.on hb1
  go_wp2_with fail
  refine (p2 _ hr1).mono ?_
  rintro e w2 ⟨rfl, hb2⟩
  have hr2 := hr1.on hb2
  go_wp2_with fail
  refine (p3 _ hr2).mono ?_
  rintro e w3 ⟨rfl, hb3⟩
  have hb := bl_trans (bl_trans hb1 hb2) hb3
  clear hb1 hb2 hb3 hr1 hr2
  go_wp2
  go_ret
  exact ⟨rfl, hb⟩
end Go.Proofs.YtigohcfedmefbaaDoor
