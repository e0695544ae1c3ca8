/- Walks over the law on texts (layer 1): the call returns true for every number and every string. Condition: the table of powers of ten and the variable ErrSyntax are as the program lays them. -/
import Derived.Test.YtigohcfedmefbaaDoorW6
namespace Go.Proofs.YtigohcfedmefbaaDoor
open Go.RowKit Go.Sort

theorem float_no (t : Int) (h : t < -1099511627776 ∨ 1099511627776 < t) (w : World) :
    Calls Tryd.prog 14 #[.int .i64 t] w fun e w' => e = .returned (.float .f64 0) ∧ w = w' := by
  go_enter Tryd.func14, Tryd.ntmps14
  go_wp2_with (go_at_call 20; refine (isTenth_no _ h _).mono ?_; rintro e w' ⟨rfl, rfl⟩)
  go_ret
  exact ⟨rfl, rfl⟩

/-- Both of them tell the same of any string. -/
theorem parse_both (s : ByteArray) (hm : s.size ≤ maxLen) : ∃ a f : Int, (∀ w, Ready w → Calls Tryd.prog 10 #[.string s] w fun e w' => e = .returned (.tuple #[.int .i64 a, .int .i64 f]) ∧ Below w.heap.size w w') ∧
    (∀ w, Calls Tryd.prog 11 #[.string s] w fun e w' => e = .returned (.tuple #[.int .i64 a, .int .i64 f]) ∧ Below w.heap.size w w') := by
  by_cases h : ∃ t, Hf.IsT t ∧ Hf.textL t = s.data.toList
  · obtain ⟨t, hT, ht⟩ := h
    have e : s = Hf.bs (Hf.textL t) := by rw [ht, Hf.bs_toList]
    subst e
    exact ⟨t, 0, fun w hr => parse_yes t hT w hr, fun w => rparse_yes t hT w⟩
  · have h' : ∀ t, Hf.IsT t → Hf.textL t ≠ s.data.toList := fun t hT ht => h ⟨t, hT, ht⟩
    exact ⟨0, 2, fun w hr => parse_no s hm h' w hr, fun w => rparse_no s hm h' w⟩

theorem alive_at (w : World) (hr : Ready w) : Calls Tryd.prog 9 #[] w fun e w' => e = .returned (.bool true) ∧ Below w.heap.size w w' := alive_any w hr

theorem texts_long (t : Int) (s : ByteArray) (h : 100 < s.size) (hm : s.size ≤ maxLen) (w : World) (hr : Ready w) :
    Calls Tryd.prog 4 #[.int .i64 t, .string s] w fun e w' => e = .returned (.bool true) ∧ Below w.heap.size w w' := by
  unfold maxLen at hm
  go_enter Tryd.func4, Tryd.ntmps4
  go_wp2_with (go_at_call 9; refine (alive_at _ hr).mono ?_; rintro e w' ⟨rfl, hb⟩)
  go_ret
  exact ⟨rfl, hb⟩

set_option maxHeartbeats 1000000 in
theorem texts_yes (t : Int) (hT : Hf.IsT t) (s : ByteArray) (h : s.size ≤ 100) (w : World) (hr : Ready w) :
    Calls Tryd.prog 4 #[.int .i64 t, .string s] w fun e w' => e = .returned (.bool true) ∧ Below w.heap.size w w' := by
  obtain ⟨a, f, P1, P2⟩ := parse_both s (by unfold maxLen; omega)
  have X1 := Lib.hid (fun W hW => text_yes t hT W hW)
  have X2 := Lib.hid (fun W => rtext_yes t hT W)
  have X3 := Lib.hid (fun W hW => parse_yes t hT W hW)
  have hne : (Hf.bs (Hf.textL t)).toList.isEmpty = false := by rw [ByteArray.toList_eq, Hf.toList_bs]; simp [Hf.textL_ne]
  have P1' := Lib.hid P1
  have P2' := Lib.hid P2
  clear P1 P2 hT
  generalize Hf.bs (Hf.textL t) = x at X1 X2 X3 hne
  go_enter Tryd.func4, Tryd.ntmps4
  go_wp2_with fail
  refine (P1'.out _ hr).mono ?_
  rintro e w1 ⟨rfl, hb1⟩
  have hr1 := hr.on hb1
  go_wp2_with fail
  refine (P2'.out _).mono ?_
  rintro e w2 ⟨rfl, hb2⟩
  have hr2 := hr1.on hb2
  go_wp2_with fail
  refine (X1.out _ hr2).mono ?_
  rintro e w3 ⟨rfl, hb3⟩
  have hr3 := hr2.on hb3
  go_wp2_with fail
  refine (X2.out _).mono ?_
  rintro e w4 ⟨rfl, hb4⟩
  have hr4 := hr3.on hb4
  go_wp2_with fail
  refine (X3.out _ hr4).mono ?_
  rintro e w5 ⟨rfl, hb5⟩
  have hr5 := hr4.on hb5
  go_wp2_with fail
  refine (alive_at _ hr5).mono ?_
  rintro e w6 ⟨rfl, hb6⟩
  have hb := bl_trans (bl_trans (bl_trans (bl_trans (bl_trans hb1 hb2) hb3) hb4) hb5) hb6
  clear hb1 hb2 hb3 hb4 hb5 hb6
  go_wp2
  go_ret
  exact ⟨rfl, hb⟩

set_option maxHeartbeats 1000000 in
theorem texts_no (t : Int) (hT : t < -1099511627776 ∨ 1099511627776 < t) (s : ByteArray) (h : s.size ≤ 100) (w : World) (hr : Ready w) :
    Calls Tryd.prog 4 #[.int .i64 t, .string s] w fun e w' => e = .returned (.bool true) ∧ Below w.heap.size w w' := by
  obtain ⟨a, f, P1, P2⟩ := parse_both s (by unfold maxLen; omega)
  have P1' := Lib.hid P1
  have P2' := Lib.hid P2
  have HT := Lib.hid hT
  clear P1 P2 hT
  go_enter Tryd.func4, Tryd.ntmps4
  go_wp2_with fail
  refine (P1'.out _ hr).mono ?_
  rintro e w1 ⟨rfl, hb1⟩
  have hr1 := hr.on hb1
  go_wp2_with fail
  refine (P2'.out _).mono ?_
  rintro e w2 ⟨rfl, hb2⟩
  have hr2 := hr1.on hb2
  go_wp2_with fail
  refine (text_no t HT.out _).mono ?_
  rintro e w' ⟨rfl, rfl⟩
  go_wp2_with fail
  refine (rtext_no t HT.out _).mono ?_
  rintro e w' ⟨rfl, rfl⟩
  go_wp2_with fail
  refine (alive_at _ hr2).mono ?_
  rintro e w6 ⟨rfl, hb6⟩
  go_wp2_with fail
  refine (float_no t HT.out _).mono ?_
  rintro e w' ⟨rfl, rfl⟩
  have hb := bl_trans (bl_trans hb1 hb2) hb6
  clear hb1 hb2 hb6
  go_wp2
  go_ret
  exact ⟨rfl, hb⟩

theorem texts_any (t : Int) (_ : (Lit.int .i64 t).wf = true) (s : ByteArray) (hm : s.size ≤ maxLen) (w : World) (hr : Ready w) :
    Calls Tryd.prog 4 #[.int .i64 t, .string s] w fun e w' => e = .returned (.bool true) ∧ Below w.heap.size w w' := by
  by_cases hl : 100 < s.size
  · exact texts_long t s hl hm w hr
  · by_cases hT : Hf.IsT t
    · exact texts_yes t hT s (by omega) w hr
    · exact texts_no t (by unfold Hf.IsT at hT; omega) s (by omega) w hr
end Go.Proofs.YtigohcfedmefbaaDoor
