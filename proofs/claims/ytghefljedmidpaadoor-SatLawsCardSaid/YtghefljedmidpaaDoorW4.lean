/- Walks over the live question and the two laws of layer 2: each call returns true. Condition: the table of powers of ten is as the program lays it. -/
import Derived.Test.YtghefljedmidpaaDoorW3
namespace Go.Proofs.YtghefljedmidpaaDoor
open Go.RowKit Go.Sort

/-- A sum of a list that the call has laid itself. -/
theorem add1 (x r : Int) (h : St.cap (St.fit x) = r) (w : World) :
    Calls Tryd.prog 12 #[.slice (some ⟨w.heap.size, 0, none⟩) 1 1] (w.alloc (.cells #[.int .i64 x] 3)) fun e w' => e = .returned (.int .i64 r) ∧ Below w.heap.size w w' :=
  (add_any w.heap.size 0 1 1 [x] _ (by simp) (by omega) (fun j hj => by
    match j, hj with
    | 0, _ => simp)).mono fun e w' ⟨he, hw⟩ => by
      subst he; subst hw
      refine ⟨ret_int ?_, (Below.refl _ _).alloc (Nat.le_refl _) _⟩
      rw [← h]; simp [St.sum]
theorem add2 (x y r : Int) (h : St.cap (St.fit x + St.fit y) = r) (w : World) :
    Calls Tryd.prog 12 #[.slice (some ⟨w.heap.size, 0, none⟩) 2 2] (w.alloc (.cells #[.int .i64 x, .int .i64 y] 3)) fun e w' => e = .returned (.int .i64 r) ∧ Below w.heap.size w w' :=
  (add_any w.heap.size 0 2 2 [x, y] _ (by simp) (by omega) (fun j hj => by
    match j, hj with
    | 0, _ => simp
    | 1, _ => simp)).mono fun e w' ⟨he, hw⟩ => by
      subst he; subst hw
      refine ⟨ret_int ?_, (Below.refl _ _).alloc (Nat.le_refl _) _⟩
      rw [← h]; simp [St.sum]
theorem add3 (x y z r : Int) (h : St.cap (St.fit x + (St.fit y + St.fit z)) = r) (w : World) :
    Calls Tryd.prog 12 #[.slice (some ⟨w.heap.size, 0, none⟩) 3 3] (w.alloc (.cells #[.int .i64 x, .int .i64 y, .int .i64 z] 3)) fun e w' => e = .returned (.int .i64 r) ∧ Below w.heap.size w w' :=
  (add_any w.heap.size 0 3 3 [x, y, z] _ (by simp) (by omega) (fun j hj => by
    match j, hj with
    | 0, _ => simp
    | 1, _ => simp
    | 2, _ => simp)).mono fun e w' ⟨he, hw⟩ => by
      subst he; subst hw
      refine ⟨ret_int ?_, (Below.refl _ _).alloc (Nat.le_refl _) _⟩
      rw [← h]; simp [St.sum]
theorem fit_at (n r : Int) (h : St.fit n = r) (w : World) : Calls Tryd.prog 6 #[.int .i64 n] w fun e w' => e = .returned (.int .i64 r) ∧ w = w' := h ▸ fit_any n w
theorem mul_at (a b r : Int) (h : St.cap (St.fit a * St.fit b) = r) (w : World) : Calls Tryd.prog 8 #[.int .i64 a, .int .i64 b] w fun e w' => e = .returned (.int .i64 r) ∧ w = w' := h ▸ mul_any a b w
theorem less_at (a b r : Int) (h : St.fit (St.fit a - St.fit b) = r) (w : World) : Calls Tryd.prog 10 #[.int .i64 a, .int .i64 b] w fun e w' => e = .returned (.int .i64 r) ∧ w = w' := h ▸ less_any a b w
theorem text_at (n : Int) (s : ByteArray) (h : St.txt n = s) (w : World) (hr : Ready w) : Calls Tryd.prog 14 #[.int .i64 n] w fun e w' => e = .returned (.string s) ∧ Below w.heap.size w w' := h ▸ text_any n w hr

theorem tx1 : St.txt (-1) = { data := #[48] } := by
  unfold St.txt
  rw [show (St.fit (-1)).toNat = 0 by decide, Lib.decDigits_one (by decide)]; rfl
theorem tx2 : St.txt 1200 = { data := #[49, 50, 48, 48] } := by
  unfold St.txt
  rw [show (St.fit 1200).toNat = 1200 by decide]
  rw [show Lib.decDigits 1200 = [49, 50, 48, 48] by
    rw [Lib.decDigits, dif_neg (by decide), Lib.decDigits, dif_neg (by decide), Lib.decDigits_two (by decide) (by decide)]; decide]
  rfl

set_option maxRecDepth 100000 in
set_option maxHeartbeats 2000000 in
/-- The live question. -/
theorem alive_any (w : World) (hr : Ready w) : Calls Tryd.prog 5 #[] w fun e w' => e = .returned (.bool true) ∧ Below w.heap.size w w' := by
  go_enter Tryd.func5, Tryd.ntmps5
  go_wp2_with fail
  refine (fit_at (-3) 0 (by decide) _).mono ?_
  rintro e w' ⟨rfl, rfl⟩
  go_wp2_with fail
  refine (fit_at 9223372036854775807 4611686018427387904 (by decide) _).mono ?_
  rintro e w' ⟨rfl, rfl⟩
  go_wp2_with fail
  refine (add3 5 (-7) 6 11 (by decide) _).mono ?_
  rintro e w1 ⟨rfl, hb1⟩
  have hr1 := hr.on hb1
  go_wp2_with fail
  refine (add2 4611686018427387904 1 4611686018427387904 (by decide) _).mono ?_
  rintro e w2 ⟨rfl, hb2⟩
  have hr2 := hr1.on hb2
  go_wp2_with fail
  refine (mul_at 7 6 42 (by decide) _).mono ?_
  rintro e w' ⟨rfl, rfl⟩
  go_wp2_with fail
  refine (mul_at 4611686018427387903 2 4611686018427387904 (by decide) _).mono ?_
  rintro e w' ⟨rfl, rfl⟩
  go_wp2_with fail
  refine (less_at 3 5 0 (by decide) _).mono ?_
  rintro e w' ⟨rfl, rfl⟩
  go_wp2_with fail
  refine (less_at 5 (-3) 5 (by decide) _).mono ?_
  rintro e w' ⟨rfl, rfl⟩
  go_wp2_with fail
  refine (text_at (-1) _ tx1 _ hr2).mono ?_
  rintro e w3 ⟨rfl, hb3⟩
  have hr3 := hr2.on hb3
  go_wp2_with fail
  refine (text_at 1200 _ tx2 _ hr3).mono ?_
  rintro e w4 ⟨rfl, hb4⟩
  have hb := bl_trans (bl_trans (bl_trans hb1 hb2) hb3) hb4
  clear hb1 hb2 hb3 hb4 hr1 hr2 hr3
  go_wp2
  go_ret
  exact ⟨rfl, hb⟩
end Go.Proofs.YtghefljedmidpaaDoor
