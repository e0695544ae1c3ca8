/- The live question of layer 15: it returns true. Conditions: the contracts of package fefo. -/
import Derived.Test.YtclpdemhfbjliaaFfFace
import Derived.Lib.Hide
import Derived.WalkSpells
namespace Go.Proofs.Ytclpdemhfbjliaa
open Go.RowKit Lo

namespace Ff
def four : List Lv := [⟨⟨4, 1, 5, 30, 0, 0, 0, []⟩, none, 0, 0⟩, ⟨⟨2, 1, 6, 20, 0, 0, 0, []⟩, none, 0, 0⟩, ⟨⟨1, 2, 9, 10, 0, 0, 0, []⟩, none, 0, 0⟩, ⟨⟨3, 1, 7, 20, 0, 0, 0, []⟩, none, 0, 0⟩]
theorem pick1 : pickL (lts four) 1 15 = ([(2, 6), (3, 7), (4, 2)], 0) := by decide
theorem pick2 : pickL (lts four) 1 19 = ([], 11) := by decide
theorem pick3 : pickL (lts four) 1 0 = ([], 1) := by decide
theorem ord1 : (isort (lts four)).map Lt.id = [1, 2, 3, 4] := by decide
/-- Four lots. -/
theorem four_row (w : World) : Rw 8 lcells (w.alloc (.cells #[.int .i64 4, .int .i64 1, .int .i64 5, .int .i64 30, .int .i64 0, .int .i64 0, .int .i64 0, .slice none 0 0, .int .i64 2, .int .i64 1, .int .i64 6, .int .i64 20, .int .i64 0, .int .i64 0, .int .i64 0, .slice none 0 0, .int .i64 1, .int .i64 2, .int .i64 9, .int .i64 10, .int .i64 0, .int .i64 0, .int .i64 0, .slice none 0 0, .int .i64 3, .int .i64 1, .int .i64 7, .int .i64 20, .int .i64 0, .int .i64 0, .int .i64 0, .slice none 0 0] 41)) (some ⟨w.heap.size, 0, none⟩) 4 four := by
  have h := World.ownsRow_lit (base := w.heap.size) (e := 41) (size := 8) w #[.int .i64 4, .int .i64 1, .int .i64 5, .int .i64 30, .int .i64 0, .int .i64 0, .int .i64 0, .slice none 0 0, .int .i64 2, .int .i64 1, .int .i64 6, .int .i64 20, .int .i64 0, .int .i64 0, .int .i64 0, .slice none 0 0, .int .i64 1, .int .i64 2, .int .i64 9, .int .i64 10, .int .i64 0, .int .i64 0, .int .i64 0, .slice none 0 0, .int .i64 3, .int .i64 1, .int .i64 7, .int .i64 20, .int .i64 0, .int .i64 0, .int .i64 0, .slice none 0 0] 4 (Nat.le_refl _) (by unfold maxLen; omega) rfl
  obtain ⟨q, c, e, _, h2⟩ := rw_own (enc := lcells) lcells_len (l := four) (v := .slice (some ⟨w.heap.size, 0, none⟩) 4 4) (B := w.heap.size) (e := 41) (w := w.alloc (.cells #[.int .i64 4, .int .i64 1, .int .i64 5, .int .i64 30, .int .i64 0, .int .i64 0, .int .i64 0, .slice none 0 0, .int .i64 2, .int .i64 1, .int .i64 6, .int .i64 20, .int .i64 0, .int .i64 0, .int .i64 0, .slice none 0 0, .int .i64 1, .int .i64 2, .int .i64 9, .int .i64 10, .int .i64 0, .int .i64 0, .int .i64 0, .slice none 0 0, .int .i64 3, .int .i64 1, .int .i64 7, .int .i64 20, .int .i64 0, .int .i64 0, .int .i64 0, .slice none 0 0] 41)) h
  injection e with e _ _
  rw [e]
  exact h2
set_option maxRecDepth 100000 in
set_option maxHeartbeats 16000000 in
theorem falive_any (I : Face) (w : World) : Calls Try.prog 5 #[] w fun e w' => e = .returned (.bool true) ∧ Below w.heap.size w w' := by
  have B1 := Lib.hid (alloc_below w (.cells #[.int .i64 4, .int .i64 1, .int .i64 5, .int .i64 30, .int .i64 0, .int .i64 0, .int .i64 0, .slice none 0 0, .int .i64 2, .int .i64 1, .int .i64 6, .int .i64 20, .int .i64 0, .int .i64 0, .int .i64 0, .slice none 0 0, .int .i64 1, .int .i64 2, .int .i64 9, .int .i64 10, .int .i64 0, .int .i64 0, .int .i64 0, .slice none 0 0, .int .i64 3, .int .i64 1, .int .i64 7, .int .i64 20, .int .i64 0, .int .i64 0, .int .i64 0, .slice none 0 0] 41))
  have R1 := Lib.hid (four_row w)
  have C1 := Lib.hid (fun W (h : Rw 8 lcells W (some ⟨w.heap.size, 0, none⟩) 4 four) => pick1 ▸ I.pick (some ⟨w.heap.size, 0, none⟩) 4 4 four 1 15 W h (by decide) (by decide) (by decide) (by decide))
  have C2 := Lib.hid (fun W (h : Rw 8 lcells W (some ⟨w.heap.size, 0, none⟩) 4 four) => pick2 ▸ I.pick (some ⟨w.heap.size, 0, none⟩) 4 4 four 1 19 W h (by decide) (by decide) (by decide) (by decide))
  have C3 := Lib.hid (fun W (h : Rw 8 lcells W (some ⟨w.heap.size, 0, none⟩) 4 four) => pick3 ▸ I.pick (some ⟨w.heap.size, 0, none⟩) 4 4 four 1 0 W h (by decide) (by decide) (by decide) (by decide))
  have C4 := Lib.hid (fun W (h : Rw 8 lcells W (some ⟨w.heap.size, 0, none⟩) 4 four) => I.order (some ⟨w.heap.size, 0, none⟩) 4 4 four W h (by decide) (by decide))
  unfold OrderEnd at C4
  rw [ord1] at C4
  unfold PickP at C1 C2 C3
  go_enter Try.func5, Try.ntmps5
  go_wp2_with fail
  refine (C1.out _ R1.out).mono ?_
  intro e w2 he
  obtain ⟨v, rfl, ho, hb⟩ := he
  obtain ⟨q2, d2, rfl⟩ := own_slice ho
  have B2 := Lib.hid (B1.out.trans (hb.mono B1.out.size))
  have R2 := Lib.hid (R1.out.keep lcells_len hb)
  have O2 := Lib.hid ho
  clear hb ho C1 B1 R1
  go_wp2_with fail
  refine (C2.out _ R2.out).mono ?_
  intro e w3 he
  obtain ⟨v, rfl, ho, hb⟩ := he
  have B3 := Lib.hid (B2.out.trans (hb.mono B2.out.size))
  have R3 := Lib.hid (R2.out.keep lcells_len hb)
  have O3 := Lib.hid (own_turn O2.out (Turn.of_below (S := fun _ => False) hb) (fun _ _ hf => hf))
  clear hb ho C2 B2 R2 O2
  go_wp2_with fail
  refine (C3.out _ R3.out).mono ?_
  intro e w4 he
  obtain ⟨v, rfl, ho, hb⟩ := he
  have B4 := Lib.hid (B3.out.trans (hb.mono B3.out.size))
  have R4 := Lib.hid (R3.out.keep lcells_len hb)
  have O4 := Lib.hid (own_turn O3.out (Turn.of_below (S := fun _ => False) hb) (fun _ _ hf => hf))
  clear hb ho C3 B3 R3 O3
  go_wp2_with fail
  refine (C4.out _ R4.out).mono ?_
  intro e w5 he
  obtain ⟨v, rfl, ho, hb⟩ := he
  rw [show (lts four).length = 4 by rfl] at ho
  obtain ⟨q5, d5, rfl⟩ := own_slice ho
  have B5 := Lib.hid (B4.out.trans (hb.mono B4.out.size))
  have O5 := Lib.hid (own_turn O4.out (Turn.of_below (S := fun _ => False) hb) (fun _ _ hf => hf))
  have V5 := Lib.hid ho
  clear hb ho C4 B4 R4 O4
  obtain ⟨b, c, e, _, _, hc⟩ := own_some O5.out (by decide)
  cases e
  obtain ⟨g, c', e, _, _, hc2⟩ := own_some V5.out (by decide)
  cases e
  have a0 : w5.cell? ⟨b, 0, none⟩ = some (.int .i64 2) := row_cell (l := ([(2, 6), (3, 7), (4, 2)] : List (Int × Int))) tcells_len O5.out rfl (j := 0) rfl (i := 0) (by decide)
  have b0 : w5.cell? ⟨b, 1, none⟩ = some (.int .i64 6) := row_cell (l := ([(2, 6), (3, 7), (4, 2)] : List (Int × Int))) tcells_len O5.out rfl (j := 0) rfl (i := 1) (by decide)
  have a1 : w5.cell? ⟨b, 2, none⟩ = some (.int .i64 3) := row_cell (l := ([(2, 6), (3, 7), (4, 2)] : List (Int × Int))) tcells_len O5.out rfl (j := 1) rfl (i := 0) (by decide)
  have b1 : w5.cell? ⟨b, 3, none⟩ = some (.int .i64 7) := row_cell (l := ([(2, 6), (3, 7), (4, 2)] : List (Int × Int))) tcells_len O5.out rfl (j := 1) rfl (i := 1) (by decide)
  have a2 : w5.cell? ⟨b, 4, none⟩ = some (.int .i64 4) := row_cell (l := ([(2, 6), (3, 7), (4, 2)] : List (Int × Int))) tcells_len O5.out rfl (j := 2) rfl (i := 0) (by decide)
  have b2 : w5.cell? ⟨b, 5, none⟩ = some (.int .i64 2) := row_cell (l := ([(2, 6), (3, 7), (4, 2)] : List (Int × Int))) tcells_len O5.out rfl (j := 2) rfl (i := 1) (by decide)
  have o0 : w5.cell? ⟨g, 0, none⟩ = some (.int .i64 1) := row_cell (l := ([1, 2, 3, 4] : List Int)) ncells_len V5.out rfl (j := 0) rfl (i := 0) (by decide)
  have o1 : w5.cell? ⟨g, 1, none⟩ = some (.int .i64 2) := row_cell (l := ([1, 2, 3, 4] : List Int)) ncells_len V5.out rfl (j := 1) rfl (i := 0) (by decide)
  have o3 : w5.cell? ⟨g, 3, none⟩ = some (.int .i64 4) := row_cell (l := ([1, 2, 3, 4] : List Int)) ncells_len V5.out rfl (j := 3) rfl (i := 0) (by decide)
  obtain ⟨qt, ct, et, _, ht⟩ := rw_own (enc := tcells) tcells_len (l := ([(2, 6), (3, 7), (4, 2)] : List (Int × Int))) O5.out
  injection et with e1 _ e3
  subst e1 e3
  have CT := Lib.hid (I.total (some ⟨b, 0, none⟩) 3 _ [(2, 6), (3, 7), (4, 2)] w5 ht (by decide) hc (by decide))
  rw [show totT [(2, 6), (3, 7), (4, 2)] = 15 by decide] at CT
  clear ht hc hc2
  go_wp2_with fail
  refine CT.out.mono ?_
  rintro e w6 ⟨rfl, hb⟩
  have B6 := Lib.hid (B5.out.trans (hb.mono B5.out.size))
  clear hb CT
  go_wp2
  go_ret
  exact ⟨rfl, B6.out⟩
end Ff
end Go.Proofs.Ytclpdemhfbjliaa
