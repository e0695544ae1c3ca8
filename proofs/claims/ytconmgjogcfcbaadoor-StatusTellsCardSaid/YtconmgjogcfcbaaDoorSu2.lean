/- Walks over package status' Parse and the document's; the live question. Condition: the table and the names are as the program lays them. -/
import Derived.Test.YtconmgjogcfcbaaDoorSu1
namespace Go.Proofs.YtconmgjogcfcbaaDoor
open Go.RowKit

namespace Su
theorem toList_inj {a b : ByteArray} (h : a.toList = b.toList) : a = b := by
  rw [ByteArray.toList_eq, ByteArray.toList_eq] at h
  ext1
  exact Array.toList_inj.1 h
set_option maxHeartbeats 4000000 in
/-- The status of a name. -/
theorem parse_any (n : ByteArray) (w : World) (hr : Ready w) : Calls Tryd.prog 8 #[.string n] w fun en w' => en = .returned (.tuple #[.int .i64 (prs n), .int .i64 (perr n)]) ∧ w = w' := by
  have R := Lib.hid hr
  clear hr
  have P0 := Lib.hid (past_zero n)
  go_enter Tryd.func8, Tryd.ntmps8
  go_wp2
  go_loop [5] (fun i => ∃ k : Nat, k ≤ 5 ∧ i = .int .i64 k ∧ Hid (Past n k)) (fun i => 5 - (intOf i).toNat)
  case atStart => exact ⟨0, by omega, rfl, P0⟩
  case round =>
    clear P0
    obtain ⟨k, hk, rfl, P⟩ := hrel
    by_cases h5 : k = 5
    · subst h5
      have E := Lib.hid (prs_none P.out)
      go_wp2
      go_ret2
      exact ⟨ret2 ⟨E.out.1.symm, E.out.2.symm⟩, rfl⟩
    · have h6 : k = 0 ∨ k = 1 ∨ k = 2 ∨ k = 3 ∨ k = 4 := by omega
      clear hk h5
      rcases h6 with rfl | rfl | rfl | rfl | rfl
      · have c := R.out.n0 _ (Below.refl _ _)
        by_cases h : nms 0 = n
        · have E := Lib.hid (prs_at (by decide) h)
          have h1 : (nm0.toList == n.toList) = true := beq_iff_eq.2 (congrArg ByteArray.toList h)
          have D := Lib.hid h
          clear h
          go_wp2
          go_ret2
          exact ⟨ret2 ⟨E.out.1.symm, E.out.2.symm⟩, rfl⟩
        · have E := Lib.hid (past_next P.out h)
          have h1 : (nm0.toList == n.toList) = false := beq_eq_false_iff_ne.2 (fun e => h (toList_inj e))
          clear h
          go_wp2
          go_round
          case rel => exact ⟨1, by omega, rfl, E⟩
          case measure => simp [intOf]
      · have c := R.out.n1 _ (Below.refl _ _)
        by_cases h : nms 1 = n
        · have E := Lib.hid (prs_at (by decide) h)
          have h1 : (nm1.toList == n.toList) = true := beq_iff_eq.2 (congrArg ByteArray.toList h)
          have D := Lib.hid h
          clear h
          go_wp2
          go_ret2
          exact ⟨ret2 ⟨E.out.1.symm, E.out.2.symm⟩, rfl⟩
        · have E := Lib.hid (past_next P.out h)
          have h1 : (nm1.toList == n.toList) = false := beq_eq_false_iff_ne.2 (fun e => h (toList_inj e))
          clear h
          go_wp2
          go_round
          case rel => exact ⟨2, by omega, rfl, E⟩
          case measure => simp [intOf]
      · have c := R.out.n2 _ (Below.refl _ _)
        by_cases h : nms 2 = n
        · have E := Lib.hid (prs_at (by decide) h)
          have h1 : (nm2.toList == n.toList) = true := beq_iff_eq.2 (congrArg ByteArray.toList h)
          have D := Lib.hid h
          clear h
          go_wp2
          go_ret2
          exact ⟨ret2 ⟨E.out.1.symm, E.out.2.symm⟩, rfl⟩
        · have E := Lib.hid (past_next P.out h)
          have h1 : (nm2.toList == n.toList) = false := beq_eq_false_iff_ne.2 (fun e => h (toList_inj e))
          clear h
          go_wp2
          go_round
          case rel => exact ⟨3, by omega, rfl, E⟩
          case measure => simp [intOf]
      · have c := R.out.n3 _ (Below.refl _ _)
        by_cases h : nms 3 = n
        · have E := Lib.hid (prs_at (by decide) h)
          have h1 : (nm3.toList == n.toList) = true := beq_iff_eq.2 (congrArg ByteArray.toList h)
          have D := Lib.hid h
          clear h
          go_wp2
          go_ret2
          exact ⟨ret2 ⟨E.out.1.symm, E.out.2.symm⟩, rfl⟩
        · have E := Lib.hid (past_next P.out h)
          have h1 : (nm3.toList == n.toList) = false := beq_eq_false_iff_ne.2 (fun e => h (toList_inj e))
          clear h
          go_wp2
          go_round
          case rel => exact ⟨4, by omega, rfl, E⟩
          case measure => simp [intOf]
      · have c := R.out.n4 _ (Below.refl _ _)
        by_cases h : nms 4 = n
        · have E := Lib.hid (prs_at (by decide) h)
          have h1 : (nm4.toList == n.toList) = true := beq_iff_eq.2 (congrArg ByteArray.toList h)
          have D := Lib.hid h
          clear h
          go_wp2
          go_ret2
          exact ⟨ret2 ⟨E.out.1.symm, E.out.2.symm⟩, rfl⟩
        · have E := Lib.hid (past_next P.out h)
          have h1 : (nm4.toList == n.toList) = false := beq_eq_false_iff_ne.2 (fun e => h (toList_inj e))
          clear h
          go_wp2
          go_round
          case rel => exact ⟨5, by omega, rfl, E⟩
          case measure => simp [intOf]
set_option maxHeartbeats 4000000 in
/-- The document's. -/
theorem rparse_any (n : ByteArray) (w : World) : Calls Tryd.prog 9 #[.string n] w fun en w' => en = .returned (.tuple #[.int .i64 (prs n), .int .i64 (perr n)]) ∧ w = w' := by
  have P0 := Lib.hid (past_zero n)
  go_enter Tryd.func9, Tryd.ntmps9
  go_wp2
  go_loop [4] (fun i => ∃ k : Nat, k ≤ 5 ∧ i = .int .i64 k ∧ Hid (Past n k)) (fun i => 5 - (intOf i).toNat)
  case atStart => exact ⟨0, by omega, rfl, P0⟩
  case round =>
    clear P0
    obtain ⟨k, hk, rfl, P⟩ := hrel
    by_cases h5 : k = 5
    · subst h5
      have E := Lib.hid (prs_none P.out)
      go_wp2
      go_ret2
      exact ⟨ret2 ⟨E.out.1.symm, E.out.2.symm⟩, rfl⟩
    · have h6 : k = 0 ∨ k = 1 ∨ k = 2 ∨ k = 3 ∨ k = 4 := by omega
      clear hk h5
      rcases h6 with rfl | rfl | rfl | rfl | rfl
      · by_cases h : nms 0 = n
        · have E := Lib.hid (prs_at (by decide) h)
          have h1 : ((name 0).toList == n.toList) = true := beq_iff_eq.2 (congrArg ByteArray.toList h)
          have D := Lib.hid h
          clear h
          go_wp2_with (refine (rname_any 0 _).mono ?_; rintro e w' ⟨rfl, rfl⟩)
          go_ret2
          exact ⟨ret2 ⟨E.out.1.symm, E.out.2.symm⟩, rfl⟩
        · have E := Lib.hid (past_next P.out h)
          have h1 : ((name 0).toList == n.toList) = false := beq_eq_false_iff_ne.2 (fun e => h (toList_inj e))
          clear h
          go_wp2_with (refine (rname_any 0 _).mono ?_; rintro e w' ⟨rfl, rfl⟩)
          go_round
          case rel => exact ⟨1, by omega, rfl, E⟩
          case measure => simp [intOf]
      · by_cases h : nms 1 = n
        · have E := Lib.hid (prs_at (by decide) h)
          have h1 : ((name 1).toList == n.toList) = true := beq_iff_eq.2 (congrArg ByteArray.toList h)
          have D := Lib.hid h
          clear h
          go_wp2_with (refine (rname_any 1 _).mono ?_; rintro e w' ⟨rfl, rfl⟩)
          go_ret2
          exact ⟨ret2 ⟨E.out.1.symm, E.out.2.symm⟩, rfl⟩
        · have E := Lib.hid (past_next P.out h)
          have h1 : ((name 1).toList == n.toList) = false := beq_eq_false_iff_ne.2 (fun e => h (toList_inj e))
          clear h
          go_wp2_with (refine (rname_any 1 _).mono ?_; rintro e w' ⟨rfl, rfl⟩)
          go_round
          case rel => exact ⟨2, by omega, rfl, E⟩
          case measure => simp [intOf]
      · by_cases h : nms 2 = n
        · have E := Lib.hid (prs_at (by decide) h)
          have h1 : ((name 2).toList == n.toList) = true := beq_iff_eq.2 (congrArg ByteArray.toList h)
          have D := Lib.hid h
          clear h
          go_wp2_with (refine (rname_any 2 _).mono ?_; rintro e w' ⟨rfl, rfl⟩)
          go_ret2
          exact ⟨ret2 ⟨E.out.1.symm, E.out.2.symm⟩, rfl⟩
        · have E := Lib.hid (past_next P.out h)
          have h1 : ((name 2).toList == n.toList) = false := beq_eq_false_iff_ne.2 (fun e => h (toList_inj e))
          clear h
          go_wp2_with (refine (rname_any 2 _).mono ?_; rintro e w' ⟨rfl, rfl⟩)
          go_round
          case rel => exact ⟨3, by omega, rfl, E⟩
          case measure => simp [intOf]
      · by_cases h : nms 3 = n
        · have E := Lib.hid (prs_at (by decide) h)
          have h1 : ((name 3).toList == n.toList) = true := beq_iff_eq.2 (congrArg ByteArray.toList h)
          have D := Lib.hid h
          clear h
          go_wp2_with (refine (rname_any 3 _).mono ?_; rintro e w' ⟨rfl, rfl⟩)
          go_ret2
          exact ⟨ret2 ⟨E.out.1.symm, E.out.2.symm⟩, rfl⟩
        · have E := Lib.hid (past_next P.out h)
          have h1 : ((name 3).toList == n.toList) = false := beq_eq_false_iff_ne.2 (fun e => h (toList_inj e))
          clear h
          go_wp2_with (refine (rname_any 3 _).mono ?_; rintro e w' ⟨rfl, rfl⟩)
          go_round
          case rel => exact ⟨4, by omega, rfl, E⟩
          case measure => simp [intOf]
      · by_cases h : nms 4 = n
        · have E := Lib.hid (prs_at (by decide) h)
          have h1 : ((name 4).toList == n.toList) = true := beq_iff_eq.2 (congrArg ByteArray.toList h)
          have D := Lib.hid h
          clear h
          go_wp2_with (refine (rname_any 4 _).mono ?_; rintro e w' ⟨rfl, rfl⟩)
          go_ret2
          exact ⟨ret2 ⟨E.out.1.symm, E.out.2.symm⟩, rfl⟩
        · have E := Lib.hid (past_next P.out h)
          have h1 : ((name 4).toList == n.toList) = false := beq_eq_false_iff_ne.2 (fun e => h (toList_inj e))
          clear h
          go_wp2_with (refine (rname_any 4 _).mono ?_; rintro e w' ⟨rfl, rfl⟩)
          go_round
          case rel => exact ⟨5, by omega, rfl, E⟩
          case measure => simp [intOf]
theorem after_at {s e a f : Int} (h : aft s e = a ∧ err s e = f) (w : World) (hr : Ready w) : Calls Tryd.prog 6 #[.int .i64 s, .int .i64 e] w fun en w' => en = .returned (.tuple #[.int .i64 a, .int .i64 f]) ∧ w = w' := by
  obtain ⟨rfl, rfl⟩ := h
  exact after_any s e w hr
theorem parse_at {n : ByteArray} {a f : Int} (h : prs n = a ∧ perr n = f) (w : World) (hr : Ready w) : Calls Tryd.prog 8 #[.string n] w fun en w' => en = .returned (.tuple #[.int .i64 a, .int .i64 f]) ∧ w = w' := by
  obtain ⟨rfl, rfl⟩ := h
  exact parse_any n w hr
theorem name_at {s : Int} {n : ByteArray} (h : name s = n) (w : World) (hr : Ready w) : Calls Tryd.prog 10 #[.int .i64 s] w fun en w' => en = .returned (.string n) ∧ w = w' := by
  subst h
  exact name_any s w hr
theorem final_at {s : Int} {b : Bool} (h : fin s = b) (w : World) (hr : Ready w) : Calls Tryd.prog 12 #[.int .i64 s] w fun en w' => en = .returned (.bool b) ∧ w = w' := by
  subst h
  exact final_any s w hr
set_option maxRecDepth 100000 in
set_option maxHeartbeats 4000000 in
/-- The live question of layer 11. -/
theorem alive_any (w : World) (hr : Ready w) : Calls Tryd.prog 5 #[] w fun en w' => en = .returned (.bool true) ∧ w = w' := by
  have R := Lib.hid hr
  clear hr
  go_enter Tryd.func5, Tryd.ntmps5
  go_wp2_with fail
  refine (after_at (a := 1) (f := 0) (by decide) _ R.out).mono ?_
  rintro e w' ⟨rfl, rfl⟩
  go_wp2_with fail
  refine (after_at (a := 2) (f := 0) (by decide) _ R.out).mono ?_
  rintro e w' ⟨rfl, rfl⟩
  go_wp2_with fail
  refine (after_at (a := 1) (f := 0) (by decide) _ R.out).mono ?_
  rintro e w' ⟨rfl, rfl⟩
  go_wp2_with fail
  refine (after_at (a := 4) (f := 0) (by decide) _ R.out).mono ?_
  rintro e w' ⟨rfl, rfl⟩
  go_wp2_with fail
  refine (after_at (a := 0) (f := 8) (by decide) _ R.out).mono ?_
  rintro e w' ⟨rfl, rfl⟩
  go_wp2_with fail
  refine (after_at (a := 0) (f := 1) (by decide) _ R.out).mono ?_
  rintro e w' ⟨rfl, rfl⟩
  go_wp2_with fail
  refine (parse_at (a := 3) (f := 0) prs3 _ R.out).mono ?_
  rintro e w' ⟨rfl, rfl⟩
  go_wp2_with fail
  refine (name_at (s := 2) (n := { data := #[104, 101, 108, 100] }) rfl _ R.out).mono ?_
  rintro e w' ⟨rfl, rfl⟩
  go_wp2_with fail
  refine (final_at (b := true) (by decide) _ R.out).mono ?_
  rintro e w' ⟨rfl, rfl⟩
  go_wp2_with fail
  refine (final_at (b := false) (by decide) _ R.out).mono ?_
  rintro e w' ⟨rfl, rfl⟩
  go_wp2
  go_ret
  exact ⟨rfl, rfl⟩
end Su
end Go.Proofs.YtconmgjogcfcbaaDoor
