/- Walks over package status and the document's answer for it: each call gives what the plain words say. Condition: the table and the names are as the program lays them. -/
import Derived.Test.YtconmgjogcfcbaaDoorChecked
import Derived.Test.YtconmgjogcfcbaaDoorSuNum
import Derived.WalkKit
import Derived.WalkLawsBesides
import Derived.LoopTactic
import Derived.ChangeKeysEq
import Derived.KernelRfl
import Derived.Below
import Derived.Lib.Hide
namespace Go.Proofs.YtconmgjogcfcbaaDoor
open Go.RowKit

namespace Su
/-- The table and the names are there, and stay so whatever is made new. -/
structure Ready (w : World) : Prop where
  tab : ∀ w', Below w.heap.size w w' → ∀ i, i < 25 → w'.cell? ⟨0, i, none⟩ = some (.int .i64 (tab.getD i (-1)))
  n0 : ∀ w', Below w.heap.size w w' → w'.cell? ⟨1, 0, none⟩ = some (.string nm0)
  n1 : ∀ w', Below w.heap.size w w' → w'.cell? ⟨1, 1, none⟩ = some (.string nm1)
  n2 : ∀ w', Below w.heap.size w w' → w'.cell? ⟨1, 2, none⟩ = some (.string nm2)
  n3 : ∀ w', Below w.heap.size w w' → w'.cell? ⟨1, 3, none⟩ = some (.string nm3)
  n4 : ∀ w', Below w.heap.size w w' → w'.cell? ⟨1, 4, none⟩ = some (.string nm4)
theorem Ready.on {w w1 : World} (h : Ready w) (hb : Below w.heap.size w w1) : Ready w1 :=
  ⟨fun w' k => h.tab w' (hb.trans (k.mono hb.size)), fun w' k => h.n0 w' (hb.trans (k.mono hb.size)), fun w' k => h.n1 w' (hb.trans (k.mono hb.size)), fun w' k => h.n2 w' (hb.trans (k.mono hb.size)), fun w' k => h.n3 w' (hb.trans (k.mono hb.size)), fun w' k => h.n4 w' (hb.trans (k.mono hb.size))⟩
theorem Ready.at_ {w : World} (h : Ready w) (i : Nat) (hi : i < 25) : w.cell? ⟨0, i, none⟩ = some (.int .i64 (Su.tab.getD i (-1))) := h.tab w (Below.refl _ _) i hi

theorem Ready.cell_at {w : World} (h : Ready w) {s e : Int} (hs : okB s = true) (he : okB e = true) : w.cell? ⟨0, s.toNat * 5 + e.toNat, none⟩ = some (.int .i64 (cell s e)) :=
  h.at_ _ (by have := okB_iff.1 hs; have := okB_iff.1 he; omega)

theorem ist_yes (s : Int) (w : World) (h : okB s = true) : Calls Tryd.prog 13 #[.int .i64 s] w fun e w' => e = .returned (.bool true) ∧ w = w' := by
  have h1 := okB_iff.1 h
  clear h
  obtain ⟨h1, h2⟩ := h1
  go_enter Tryd.func13, Tryd.ntmps13
  go_wp2
  go_ret
  exact ⟨rfl, rfl⟩
theorem ist_no (s : Int) (w : World) (h : okB s = false) : Calls Tryd.prog 13 #[.int .i64 s] w fun e w' => e = .returned (.bool false) ∧ w = w' := by
  rcases okB_no h with h1 | h1
  · clear h
    go_enter Tryd.func13, Tryd.ntmps13
    go_wp2
    go_ret
    exact ⟨rfl, rfl⟩
  · clear h
    have h2 : decide (s < 5) = false := by simp; omega
    go_enter Tryd.func13, Tryd.ntmps13
    go_wp2
    go_ret
    exact ⟨rfl, rfl⟩
theorem isv_yes (s : Int) (w : World) (h : okB s = true) : Calls Tryd.prog 14 #[.int .i64 s] w fun e w' => e = .returned (.bool true) ∧ w = w' := by
  have h1 := okB_iff.1 h
  clear h
  obtain ⟨h1, h2⟩ := h1
  go_enter Tryd.func14, Tryd.ntmps14
  go_wp2
  go_ret
  exact ⟨rfl, rfl⟩
theorem isv_no (s : Int) (w : World) (h : okB s = false) : Calls Tryd.prog 14 #[.int .i64 s] w fun e w' => e = .returned (.bool false) ∧ w = w' := by
  rcases okB_no h with h1 | h1
  · clear h
    go_enter Tryd.func14, Tryd.ntmps14
    go_wp2
    go_ret
    exact ⟨rfl, rfl⟩
  · clear h
    have h2 : decide (s < 5) = false := by simp; omega
    go_enter Tryd.func14, Tryd.ntmps14
    go_wp2
    go_ret
    exact ⟨rfl, rfl⟩
theorem ret2 {a b c d : Int} (h : a = c ∧ b = d) : Ending.returned (.tuple #[.int .i64 a, .int .i64 b]) = .returned (.tuple #[.int .i64 c, .int .i64 d]) := by rw [h.1, h.2]

set_option maxHeartbeats 4000000 in
/-- What a status is behind an event. -/
theorem after_any (s e : Int) (w : World) (hr : Ready w) : Calls Tryd.prog 6 #[.int .i64 s, .int .i64 e] w fun en w' => en = .returned (.tuple #[.int .i64 (aft s e), .int .i64 (err s e)]) ∧ w = w' := by
  have R := Lib.hid hr
  clear hr
  cases hs : okB s with
  | false =>
    have E := Lib.hid (aft_arg (s := s) (e := e) (by simp [hs]))
    have S := Lib.hid hs
    clear hs
    go_enter Tryd.func6, Tryd.ntmps6
    go_wp2_with (refine (ist_no _ _ S.out).mono ?_; rintro e w' ⟨rfl, rfl⟩)
    go_ret2
    exact ⟨ret2 ⟨E.out.1.symm, E.out.2.symm⟩, rfl⟩
  | true =>
    cases he : okB e with
    | false =>
      have E := Lib.hid (aft_arg (s := s) (e := e) (by simp [he]))
      have S := Lib.hid hs
      have V := Lib.hid he
      clear hs he
      go_enter Tryd.func6, Tryd.ntmps6
      go_wp2_with (first | (refine (ist_yes _ _ S.out).mono ?_; rintro e w' ⟨rfl, rfl⟩) | (refine (isv_no _ _ V.out).mono ?_; rintro e w' ⟨rfl, rfl⟩))
      go_ret2
      exact ⟨ret2 ⟨E.out.1.symm, E.out.2.symm⟩, rfl⟩
    | true =>
      rcases five hs with rfl | rfl | rfl | rfl | rfl <;> rcases five he with rfl | rfl | rfl | rfl | rfl
      all_goals
        have S := Lib.hid hs
        have V := Lib.hid he
        clear hs he
        have c0 := R.out.cell_at S.out V.out
        simp [cell, Su.tab] at c0
        have E := Lib.hid c0
        go_enter Tryd.func6, Tryd.ntmps6
        go_wp2_with (first | (refine (ist_yes _ _ S.out).mono ?_; rintro e w' ⟨rfl, rfl⟩) | (refine (isv_yes _ _ V.out).mono ?_; rintro e w' ⟨rfl, rfl⟩))
        go_ret2
        exact ⟨ret2 ⟨by decide, by decide⟩, rfl⟩
set_option maxHeartbeats 4000000 in
/-- The document's answer. -/
theorem rafter_any (s e : Int) (w : World) : Calls Tryd.prog 7 #[.int .i64 s, .int .i64 e] w fun en w' => en = .returned (.tuple #[.int .i64 (aft s e), .int .i64 (err s e)]) ∧ w = w' := by
  by_cases hs : s < 0
  · have E := Lib.hid (aft_arg (s := s) (e := e) (by simp [okB]; omega))
    go_enter Tryd.func7, Tryd.ntmps7
    go_wp2
    go_ret2
    exact ⟨ret2 ⟨E.out.1.symm, E.out.2.symm⟩, rfl⟩
  by_cases hs2 : 4 < s
  · have E := Lib.hid (aft_arg (s := s) (e := e) (by simp [okB]; omega))
    go_enter Tryd.func7, Tryd.ntmps7
    go_wp2
    go_ret2
    exact ⟨ret2 ⟨E.out.1.symm, E.out.2.symm⟩, rfl⟩
  by_cases he : e < 0
  · have E := Lib.hid (aft_arg (s := s) (e := e) (by simp [okB]; omega))
    go_enter Tryd.func7, Tryd.ntmps7
    go_wp2
    go_ret2
    exact ⟨ret2 ⟨E.out.1.symm, E.out.2.symm⟩, rfl⟩
  by_cases he2 : 4 < e
  · have E := Lib.hid (aft_arg (s := s) (e := e) (by simp [okB]; omega))
    go_enter Tryd.func7, Tryd.ntmps7
    go_wp2
    go_ret2
    exact ⟨ret2 ⟨E.out.1.symm, E.out.2.symm⟩, rfl⟩
  have hs3 : okB s = true := okB_iff.2 (by omega)
  have he3 : okB e = true := okB_iff.2 (by omega)
  clear hs hs2 he he2
  rcases five hs3 with rfl | rfl | rfl | rfl | rfl <;> rcases five he3 with rfl | rfl | rfl | rfl | rfl
  all_goals
    clear hs3 he3
    go_enter Tryd.func7, Tryd.ntmps7
    go_wp2
    go_ret2
    exact ⟨ret2 ⟨by decide, by decide⟩, rfl⟩

theorem name_none {s : Int} (h : okB s = false) : name s = { data := #[] } := by
  have := okB_no h
  unfold name
  rw [if_neg (by omega), if_neg (by omega), if_neg (by omega), if_neg (by omega), if_neg (by omega)]
theorem ret_str {a b : ByteArray} (h : a = b) : Ending.returned (.string a) = .returned (.string b) := by rw [h]
/-- A status's name. -/
theorem name_any (s : Int) (w : World) (hr : Ready w) : Calls Tryd.prog 10 #[.int .i64 s] w fun en w' => en = .returned (.string (name s)) ∧ w = w' := by
  have R := Lib.hid hr
  clear hr
  cases hs : okB s with
  | false =>
    have E := Lib.hid (name_none hs)
    have S := Lib.hid hs
    clear hs
    go_enter Tryd.func10, Tryd.ntmps10
    go_wp2_with (refine (ist_no _ _ S.out).mono ?_; rintro e w' ⟨rfl, rfl⟩)
    go_ret
    exact ⟨ret_str E.out.symm, rfl⟩
  | true =>
    rcases five hs with rfl | rfl | rfl | rfl | rfl
    all_goals
      have S := Lib.hid hs
      clear hs
      have c0 := R.out.n0 _ (Below.refl _ _)
      have c1 := R.out.n1 _ (Below.refl _ _)
      have c2 := R.out.n2 _ (Below.refl _ _)
      have c3 := R.out.n3 _ (Below.refl _ _)
      have c4 := R.out.n4 _ (Below.refl _ _)
      go_enter Tryd.func10, Tryd.ntmps10
      go_wp2_with (refine (ist_yes _ _ S.out).mono ?_; rintro e w' ⟨rfl, rfl⟩)
      go_ret
      exact ⟨rfl, rfl⟩
theorem rname_any (s : Int) (w : World) : Calls Tryd.prog 11 #[.int .i64 s] w fun en w' => en = .returned (.string (name s)) ∧ w = w' := by
  cases hs : okB s with
  | false =>
    have E := Lib.hid (name_none hs)
    rcases okB_no hs with h | h
    all_goals
      have h0 : (s == 0) = false := by simp; omega
      have h1 : (s == 1) = false := by simp; omega
      have h2 : (s == 2) = false := by simp; omega
      have h3 : (s == 3) = false := by simp; omega
      have h4 : (s == 4) = false := by simp; omega
      clear hs
      go_enter Tryd.func11, Tryd.ntmps11
      go_wp2
      go_ret
      exact ⟨ret_str E.out.symm, rfl⟩
  | true =>
    rcases five hs with rfl | rfl | rfl | rfl | rfl
    all_goals
      clear hs
      go_enter Tryd.func11, Tryd.ntmps11
      go_wp2
      go_ret
      exact ⟨rfl, rfl⟩
theorem eqrow (w : World) (a b c d e : Int) : (Op.equalIn 10000 37 (.agg #[.int .i64 a, .int .i64 b, .int .i64 c, .int .i64 d, .int .i64 e]) (.agg #[.int .i64 (-1), .int .i64 (-1), .int .i64 (-1), .int .i64 (-1), .int .i64 (-1)])).run Tryd.prog w =
    .ok (decide (a = -1 ∧ b = -1 ∧ c = -1 ∧ d = -1 ∧ e = -1)) w := by
  have hu : Tryd.prog.underlying 37 = some (.array 5 22) := by kernel_rfl
  obtain ⟨i, hi⟩ : ∃ i, Tryd.prog.info? 22 = some i := Option.isSome_iff_exists.1 (by kernel_rfl)
  have hc : Tryd.prog.cellsOf 22 = 1 := by kernel_rfl
  have hp : Tryd.prog.plainKey 22 = true := by kernel_rfl
  have hz : Tryd.prog.underlying 22 = some (.int .i64) := by kernel_rfl
  rw [run_equalIn_array w 9999 _ _ hu hi, hc]
  have H : ∀ x : Int, (Op.equalIn 9999 22 (.int .i64 x) (.int .i64 (-1))).run Tryd.prog w = .ok (x == -1) w := fun x => run_equalIn_int w 9998 _ _ _ x (-1) hz
  have p : ∀ (xs : Array Value) (i : Nat) (v : Value), xs[i]? = some v → (part 22 xs (i * 1)).run Tryd.prog w = .ok v w := fun xs i v h => run_part_plain w hp (by simpa using h)
  show (Op.eqItems 9999 22 1 _ _ [0, 1, 2, 3, 4]).run _ _ = _
  have p0 : ∀ a b c d e : Value, (part 22 #[a, b, c, d, e] 0).run Tryd.prog w = .ok a w := fun a b c d e => p _ 0 _ rfl
  have p1 : ∀ a b c d e : Value, (part 22 #[a, b, c, d, e] 1).run Tryd.prog w = .ok b w := fun a b c d e => p _ 1 _ rfl
  have p2 : ∀ a b c d e : Value, (part 22 #[a, b, c, d, e] 2).run Tryd.prog w = .ok c w := fun a b c d e => p _ 2 _ rfl
  have p3 : ∀ a b c d e : Value, (part 22 #[a, b, c, d, e] 3).run Tryd.prog w = .ok d w := fun a b c d e => p _ 3 _ rfl
  have p4 : ∀ a b c d e : Value, (part 22 #[a, b, c, d, e] 4).run Tryd.prog w = .ok e w := fun a b c d e => p _ 4 _ rfl
  simp only [Op.eqItems, Nat.mul_one, Sem.run_bind, p0, Result.andThen_ok, H]
  by_cases h0 : a = -1
  · by_cases h1 : b = -1
    · by_cases h2 : c = -1
      · by_cases h3 : d = -1
        · by_cases h4 : e = -1
          · simp [h0, h1, h2, h3, h4, p1, p2, p3, p4, H]
          · simp [h0, h1, h2, h3, h4, p1, p2, p3, p4, H]
        · simp [h0, h1, h2, h3, p1, p2, p3, H]
      · simp [h0, h1, h2, p1, p2, H]
    · simp [h0, h1, p1, H]
  · simp [h0]
/-- Does nothing happen any more to it? -/
theorem final_any (s : Int) (w : World) (hr : Ready w) : Calls Tryd.prog 12 #[.int .i64 s] w fun en w' => en = .returned (.bool (fin s)) ∧ w = w' := by
  have R := Lib.hid hr
  clear hr
  cases hs : okB s with
  | false =>
    have E := Lib.hid (show fin s = false by have := okB_no hs; simp [fin]; omega)
    have S := Lib.hid hs
    clear hs
    go_enter Tryd.func12, Tryd.ntmps12
    go_wp2_with (refine (ist_no _ _ S.out).mono ?_; rintro e w' ⟨rfl, rfl⟩)
    go_ret
    exact ⟨by rw [E.out]; rfl, rfl⟩
  | true =>
    rcases five hs with rfl | rfl | rfl | rfl | rfl
    all_goals
      have S := Lib.hid hs
      have c0 := R.out.cell_at hs (e := 0) (by decide)
      have c1 := R.out.cell_at hs (e := 1) (by decide)
      have c2 := R.out.cell_at hs (e := 2) (by decide)
      have c3 := R.out.cell_at hs (e := 3) (by decide)
      have c4 := R.out.cell_at hs (e := 4) (by decide)
      simp [cell, Su.tab] at c0 c1 c2 c3 c4
      clear hs
      go_enter Tryd.func12, Tryd.ntmps12
      have Q0 := eqrow w
      go_wp2_with (refine (ist_yes _ _ S.out).mono ?_; rintro e w' ⟨rfl, rfl⟩)
      go_ret
      exact ⟨rfl, rfl⟩
end Su
end Go.Proofs.YtconmgjogcfcbaaDoor
