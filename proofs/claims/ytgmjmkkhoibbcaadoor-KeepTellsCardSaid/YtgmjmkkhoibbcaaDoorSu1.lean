/- Walks over package status and the document's answer for it: each call gives what the plain words say. Condition: the table and the names are as the program lays them. -/
import Derived.Test.YtgmjmkkhoibbcaaDoorChecked
import Derived.Test.YtgmjmkkhoibbcaaDoorSuNum
import Derived.WalkKit
import Derived.WalkLawsBesides
import Derived.LoopTactic
import Derived.ChangeKeysEq
import Derived.KernelRfl
import Derived.Below
import Derived.Lib.Hide
namespace Go.Proofs.YtgmjmkkhoibbcaaDoor
open Go.RowKit

namespace Su
theorem ist_yes (s : Int) (w : World) (h : okB s = true) : Calls Tryd.prog 41 #[.int .i64 s] w fun e w' => e = .returned (.bool true) ∧ w = w' := by
  have h1 := okB_iff.1 h
  clear h
  obtain ⟨h1, h2⟩ := h1
  go_enter Tryd.func41, Tryd.ntmps41
  go_wp2
  go_ret
  exact ⟨rfl, rfl⟩
theorem ist_no (s : Int) (w : World) (h : okB s = false) : Calls Tryd.prog 41 #[.int .i64 s] w fun e w' => e = .returned (.bool false) ∧ w = w' := by
  rcases okB_no h with h1 | h1
  · clear h
    go_enter Tryd.func41, Tryd.ntmps41
    go_wp2
    go_ret
    exact ⟨rfl, rfl⟩
  · clear h
    have h2 : decide (s < 5) = false := by simp; omega
    go_enter Tryd.func41, Tryd.ntmps41
    go_wp2
    go_ret
    exact ⟨rfl, rfl⟩
theorem isv_yes (s : Int) (w : World) (h : okB s = true) : Calls Tryd.prog 42 #[.int .i64 s] w fun e w' => e = .returned (.bool true) ∧ w = w' := by
  have h1 := okB_iff.1 h
  clear h
  obtain ⟨h1, h2⟩ := h1
  go_enter Tryd.func42, Tryd.ntmps42
  go_wp2
  go_ret
  exact ⟨rfl, rfl⟩
theorem isv_no (s : Int) (w : World) (h : okB s = false) : Calls Tryd.prog 42 #[.int .i64 s] w fun e w' => e = .returned (.bool false) ∧ w = w' := by
  rcases okB_no h with h1 | h1
  · clear h
    go_enter Tryd.func42, Tryd.ntmps42
    go_wp2
    go_ret
    exact ⟨rfl, rfl⟩
  · clear h
    have h2 : decide (s < 5) = false := by simp; omega
    go_enter Tryd.func42, Tryd.ntmps42
    go_wp2
    go_ret
    exact ⟨rfl, rfl⟩
theorem ret2 {a b c d : Int} (h : a = c ∧ b = d) : Ending.returned (.tuple #[.int .i64 a, .int .i64 b]) = .returned (.tuple #[.int .i64 c, .int .i64 d]) := by rw [h.1, h.2]

set_option maxHeartbeats 4000000 in
/-- The document's answer. -/
theorem rafter_any (s e : Int) (w : World) : Calls Tryd.prog 26 #[.int .i64 s, .int .i64 e] w fun en w' => en = .returned (.tuple #[.int .i64 (aft s e), .int .i64 (err s e)]) ∧ w = w' := by
  by_cases hs : s < 0
  · have E := Lib.hid (aft_arg (s := s) (e := e) (by simp [okB]; omega))
    go_enter Tryd.func26, Tryd.ntmps26
    go_wp2
    go_ret2
    exact ⟨ret2 ⟨E.out.1.symm, E.out.2.symm⟩, rfl⟩
  by_cases hs2 : 4 < s
  · have E := Lib.hid (aft_arg (s := s) (e := e) (by simp [okB]; omega))
    go_enter Tryd.func26, Tryd.ntmps26
    go_wp2
    go_ret2
    exact ⟨ret2 ⟨E.out.1.symm, E.out.2.symm⟩, rfl⟩
  by_cases he : e < 0
  · have E := Lib.hid (aft_arg (s := s) (e := e) (by simp [okB]; omega))
    go_enter Tryd.func26, Tryd.ntmps26
    go_wp2
    go_ret2
    exact ⟨ret2 ⟨E.out.1.symm, E.out.2.symm⟩, rfl⟩
  by_cases he2 : 4 < e
  · have E := Lib.hid (aft_arg (s := s) (e := e) (by simp [okB]; omega))
    go_enter Tryd.func26, Tryd.ntmps26
    go_wp2
    go_ret2
    exact ⟨ret2 ⟨E.out.1.symm, E.out.2.symm⟩, rfl⟩
  have hs3 : okB s = true := okB_iff.2 (by omega)
  have he3 : okB e = true := okB_iff.2 (by omega)
  clear hs hs2 he he2
  rcases five hs3 with rfl | rfl | rfl | rfl | rfl <;> rcases five he3 with rfl | rfl | rfl | rfl | rfl
  all_goals
    clear hs3 he3
    go_enter Tryd.func26, Tryd.ntmps26
    go_wp2
    go_ret2
    exact ⟨ret2 ⟨by decide, by decide⟩, rfl⟩

theorem name_none {s : Int} (h : okB s = false) : name s = { data := #[] } := by
  have := okB_no h
  unfold name
  rw [if_neg (by omega), if_neg (by omega), if_neg (by omega), if_neg (by omega), if_neg (by omega)]
theorem ret_str {a b : ByteArray} (h : a = b) : Ending.returned (.string a) = .returned (.string b) := by rw [h]
theorem eqrow (w : World) (a b c d e : Int) : (Op.equalIn 10000 67 (.agg #[.int .i64 a, .int .i64 b, .int .i64 c, .int .i64 d, .int .i64 e]) (.agg #[.int .i64 (-1), .int .i64 (-1), .int .i64 (-1), .int .i64 (-1), .int .i64 (-1)])).run Tryd.prog w =
    .ok (decide (a = -1 ∧ b = -1 ∧ c = -1 ∧ d = -1 ∧ e = -1)) w := by
  have hu : Tryd.prog.underlying 67 = some (.array 5 24) := by kernel_rfl
  obtain ⟨i, hi⟩ : ∃ i, Tryd.prog.info? 24 = some i := Option.isSome_iff_exists.1 (by kernel_rfl)
  have hc : Tryd.prog.cellsOf 24 = 1 := by kernel_rfl
  have hp : Tryd.prog.plainKey 24 = true := by kernel_rfl
  have hz : Tryd.prog.underlying 24 = some (.int .i64) := by kernel_rfl
  rw [run_equalIn_array w 9999 _ _ hu hi, hc]
  have H : ∀ x : Int, (Op.equalIn 9999 24 (.int .i64 x) (.int .i64 (-1))).run Tryd.prog w = .ok (x == -1) w := fun x => run_equalIn_int w 9998 _ _ _ x (-1) hz
  have p : ∀ (xs : Array Value) (i : Nat) (v : Value), xs[i]? = some v → (part 24 xs (i * 1)).run Tryd.prog w = .ok v w := fun xs i v h => run_part_plain w hp (by simpa using h)
  show (Op.eqItems 9999 24 1 _ _ [0, 1, 2, 3, 4]).run _ _ = _
  have p0 : ∀ a b c d e : Value, (part 24 #[a, b, c, d, e] 0).run Tryd.prog w = .ok a w := fun a b c d e => p _ 0 _ rfl
  have p1 : ∀ a b c d e : Value, (part 24 #[a, b, c, d, e] 1).run Tryd.prog w = .ok b w := fun a b c d e => p _ 1 _ rfl
  have p2 : ∀ a b c d e : Value, (part 24 #[a, b, c, d, e] 2).run Tryd.prog w = .ok c w := fun a b c d e => p _ 2 _ rfl
  have p3 : ∀ a b c d e : Value, (part 24 #[a, b, c, d, e] 3).run Tryd.prog w = .ok d w := fun a b c d e => p _ 3 _ rfl
  have p4 : ∀ a b c d e : Value, (part 24 #[a, b, c, d, e] 4).run Tryd.prog w = .ok e w := fun a b c d e => p _ 4 _ rfl
  simp only [Op.eqItems, Nat.mul_one, Sem.run_bind, p0, Result.andThen_ok, H]
  by_cases h0 : a = -1
  · by_cases h1 : b = -1
    · by_cases h2 : c = -1
      · by_cases h3 : d = -1
        · by_cases h4 : e = -1
          · simp [h0, h1, h2, h3, h4, p1, p2, p3, p4, H]
          · simp [h0, h1, h2, h3, h4, p1, p2, p3, p4, H]
        · simp [h0, h1, h2, h3, p1, p2, p3, H]
      · simp [h0, h1, h2, p1, p2, H]
    · simp [h0, h1, p1, H]
  · simp [h0]
end Su
end Go.Proofs.YtgmjmkkhoibbcaaDoor
