/- Package status where its table alone is reached: what becomes of a status. Condition: the table is as the program lays it. -/
import Derived.Test.YtgmjmkkhoibbcaaDoorSu1
namespace Go.Proofs.YtgmjmkkhoibbcaaDoor
open Go.RowKit

namespace Su
/-- The table is there, and stays so whatever is made new. -/
structure Tabl (w : World) : Prop where
  tab : ∀ w', Below w.heap.size w w' → ∀ i, i < 25 → w'.cell? ⟨0, i, none⟩ = some (.int .i64 (tab.getD i (-1)))
theorem Tabl.on {w w1 : World} (h : Tabl w) (hb : Below w.heap.size w w1) : Tabl w1 := ⟨fun w' k => h.tab w' (hb.trans (k.mono hb.size))⟩
theorem Tabl.cell_at {w : World} (h : Tabl w) {s e : Int} (hs : okB s = true) (he : okB e = true) : w.cell? ⟨0, s.toNat * 5 + e.toNat, none⟩ = some (.int .i64 (cell s e)) :=
  h.tab w (Below.refl _ _) _ (by have := okB_iff.1 hs; have := okB_iff.1 he; omega)
set_option maxHeartbeats 4000000 in
/-- What a status is behind an event. -/
theorem tafter_any (s e : Int) (w : World) (hr : Tabl w) : Calls Tryd.prog 33 #[.int .i64 s, .int .i64 e] w fun en w' => en = .returned (.tuple #[.int .i64 (aft s e), .int .i64 (err s e)]) ∧ w = w' := by
  have R := Lib.hid hr
  clear hr
  cases hs : okB s with
  | false =>
    have E := Lib.hid (aft_arg (s := s) (e := e) (by simp [hs]))
    have S := Lib.hid hs
    clear hs
    go_enter Tryd.func33, Tryd.ntmps33
    go_wp2_with (refine (ist_no _ _ S.out).mono ?_; rintro e w' ⟨rfl, rfl⟩)
    go_ret2
    exact ⟨ret2 ⟨E.out.1.symm, E.out.2.symm⟩, rfl⟩
  | true =>
    cases he : okB e with
    | false =>
      have E := Lib.hid (aft_arg (s := s) (e := e) (by simp [he]))
      have S := Lib.hid hs
      have V := Lib.hid he
      clear hs he
      go_enter Tryd.func33, Tryd.ntmps33
      go_wp2_with (first | (refine (ist_yes _ _ S.out).mono ?_; rintro e w' ⟨rfl, rfl⟩) | (refine (isv_no _ _ V.out).mono ?_; rintro e w' ⟨rfl, rfl⟩))
      go_ret2
      exact ⟨ret2 ⟨E.out.1.symm, E.out.2.symm⟩, rfl⟩
    | true =>
      rcases five hs with rfl | rfl | rfl | rfl | rfl <;> rcases five he with rfl | rfl | rfl | rfl | rfl
      all_goals
        have S := Lib.hid hs
        have V := Lib.hid he
        clear hs he
        have c0 := R.out.cell_at S.out V.out
        simp [cell, Su.tab] at c0
        have E := Lib.hid c0
        go_enter Tryd.func33, Tryd.ntmps33
        go_wp2_with (first | (refine (ist_yes _ _ S.out).mono ?_; rintro e w' ⟨rfl, rfl⟩) | (refine (isv_yes _ _ V.out).mono ?_; rintro e w' ⟨rfl, rfl⟩))
        go_ret2
        exact ⟨ret2 ⟨by decide, by decide⟩, rfl⟩
end Su
end Go.Proofs.YtgmjmkkhoibbcaaDoor
