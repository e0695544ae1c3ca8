/- StatusTells' walk: it answers true. Condition: the table and the names are as the program lays them. -/
import Derived.Test.YtconmgjogcfcbaaDoorSu2
namespace Go.Proofs.YtconmgjogcfcbaaDoor
open Go.RowKit

namespace Su
theorem rname_at {s : Int} {n : ByteArray} (h : name s = n) (w : World) : Calls Tryd.prog 11 #[.int .i64 s] w fun en w' => en = .returned (.string n) ∧ w = w' := by
  subst h
  exact rname_any s w
theorem after_ex (s e : Int) : ∃ a f : Int, (∀ (w : World), Ready w → Calls Tryd.prog 6 #[.int .i64 s, .int .i64 e] w fun en w' => en = .returned (.tuple #[.int .i64 a, .int .i64 f]) ∧ w = w') ∧
    ∀ w : World, Calls Tryd.prog 7 #[.int .i64 s, .int .i64 e] w fun en w' => en = .returned (.tuple #[.int .i64 a, .int .i64 f]) ∧ w = w' :=
  ⟨_, _, fun w hr => after_any s e w hr, fun w => rafter_any s e w⟩
theorem parse_ex (n : ByteArray) : ∃ a f : Int, (∀ (w : World), Ready w → Calls Tryd.prog 8 #[.string n] w fun en w' => en = .returned (.tuple #[.int .i64 a, .int .i64 f]) ∧ w = w') ∧
    ∀ w : World, Calls Tryd.prog 9 #[.string n] w fun en w' => en = .returned (.tuple #[.int .i64 a, .int .i64 f]) ∧ w = w' :=
  ⟨_, _, fun w hr => parse_any n w hr, fun w => rparse_any n w⟩
theorem prs_empty : prs { data := #[] } = 0 ∧ perr { data := #[] } = 2 := prs_none (fun j hj => by
  have h5 : j = 0 ∨ j = 1 ∨ j = 2 ∨ j = 3 ∨ j = 4 := by omega
  rcases h5 with rfl | rfl | rfl | rfl | rfl <;> decide +kernel)

set_option maxRecDepth 100000 in
set_option maxHeartbeats 4000000 in
theorem tells_none (s : Int) (e : Int) (n : ByteArray) (hn : n.size ≤ 100) (w : World) (hr : Ready w) (hs : okB s = false) : Calls Tryd.prog 3 #[.int .i64 s, .int .i64 e, .string n] w fun en w' => en = .returned (.bool true) ∧ Below w.heap.size w w' := by
  have R := Lib.hid hr
  have hl : ¬(100 : Int) < n.size := by omega
  obtain ⟨a, f, k1, k2⟩ := after_ex s e
  obtain ⟨b, g, k3, k4⟩ := parse_ex n
  have K1 := Lib.hid k1
  have K2 := Lib.hid k2
  have K3 := Lib.hid k3
  have K4 := Lib.hid k4
  clear hr k1 k2 k3 k4
  have HN := Lib.hid (name_none hs)
  have HF := Lib.hid (show fin s = false by have := okB_no hs; simp [fin]; omega)
  have h3 : (s == 3) = false := by have := okB_no hs; simp; omega
  have h4 : (s == 4) = false := by have := okB_no hs; simp; omega
  clear hs
  go_enter Tryd.func3, Tryd.ntmps3
  go_wp2_with fail
  refine (K1.out _ R.out).mono ?_
  rintro en w' ⟨rfl, rfl⟩
  go_wp2_with fail
  refine (K2.out _).mono ?_
  rintro en w' ⟨rfl, rfl⟩
  clear K1 K2
  go_wp2_with fail
  refine (K3.out _ R.out).mono ?_
  rintro en w' ⟨rfl, rfl⟩
  go_wp2_with fail
  refine (K4.out _).mono ?_
  rintro en w' ⟨rfl, rfl⟩
  clear K3 K4
  go_wp2_with fail
  refine (name_at (n := { data := #[] }) HN.out _ R.out).mono ?_
  rintro en w' ⟨rfl, rfl⟩
  go_wp2_with fail
  refine (parse_at prs_empty _ R.out).mono ?_
  rintro en w' ⟨rfl, rfl⟩
  go_wp2_with fail
  refine (alive_any _ R.out).mono ?_
  rintro en w' ⟨rfl, rfl⟩
  go_wp2_with fail
  refine (rname_at (n := { data := #[] }) HN.out _).mono ?_
  rintro en w' ⟨rfl, rfl⟩
  go_wp2_with fail
  refine (final_at (b := false) HF.out _ R.out).mono ?_
  rintro en w' ⟨rfl, rfl⟩
  go_wp2
  go_ret
  exact ⟨rfl, Below.refl _ _⟩
set_option maxRecDepth 100000 in
set_option maxHeartbeats 4000000 in
theorem tells0 (e : Int) (n : ByteArray) (hn : n.size ≤ 100) (w : World) (hr : Ready w) : Calls Tryd.prog 3 #[.int .i64 0, .int .i64 e, .string n] w fun en w' => en = .returned (.bool true) ∧ Below w.heap.size w w' := by
  have R := Lib.hid hr
  have hl : ¬(100 : Int) < n.size := by omega
  obtain ⟨a, f, k1, k2⟩ := after_ex 0 e
  obtain ⟨b, g, k3, k4⟩ := parse_ex n
  have K1 := Lib.hid k1
  have K2 := Lib.hid k2
  have K3 := Lib.hid k3
  have K4 := Lib.hid k4
  clear hr k1 k2 k3 k4
  have HN := Lib.hid (show name 0 = { data := #[113, 117, 97, 114, 97, 110, 116, 105, 110, 101] } from rfl)
  have HF := Lib.hid (show fin 0 = false by decide)
  go_enter Tryd.func3, Tryd.ntmps3
  go_wp2_with fail
  refine (K1.out _ R.out).mono ?_
  rintro en w' ⟨rfl, rfl⟩
  go_wp2_with fail
  refine (K2.out _).mono ?_
  rintro en w' ⟨rfl, rfl⟩
  clear K1 K2
  go_wp2_with fail
  refine (K3.out _ R.out).mono ?_
  rintro en w' ⟨rfl, rfl⟩
  go_wp2_with fail
  refine (K4.out _).mono ?_
  rintro en w' ⟨rfl, rfl⟩
  clear K3 K4
  go_wp2_with fail
  refine (name_at (n := { data := #[113, 117, 97, 114, 97, 110, 116, 105, 110, 101] }) HN.out _ R.out).mono ?_
  rintro en w' ⟨rfl, rfl⟩
  go_wp2_with fail
  refine (parse_at prs0 _ R.out).mono ?_
  rintro en w' ⟨rfl, rfl⟩
  go_wp2_with fail
  refine (alive_any _ R.out).mono ?_
  rintro en w' ⟨rfl, rfl⟩
  go_wp2_with fail
  refine (rname_at (n := { data := #[113, 117, 97, 114, 97, 110, 116, 105, 110, 101] }) HN.out _).mono ?_
  rintro en w' ⟨rfl, rfl⟩
  go_wp2_with fail
  refine (final_at (b := false) HF.out _ R.out).mono ?_
  rintro en w' ⟨rfl, rfl⟩
  go_wp2
  go_ret
  exact ⟨rfl, Below.refl _ _⟩
set_option maxRecDepth 100000 in
set_option maxHeartbeats 4000000 in
theorem tells1 (e : Int) (n : ByteArray) (hn : n.size ≤ 100) (w : World) (hr : Ready w) : Calls Tryd.prog 3 #[.int .i64 1, .int .i64 e, .string n] w fun en w' => en = .returned (.bool true) ∧ Below w.heap.size w w' := by
  have R := Lib.hid hr
  have hl : ¬(100 : Int) < n.size := by omega
  obtain ⟨a, f, k1, k2⟩ := after_ex 1 e
  obtain ⟨b, g, k3, k4⟩ := parse_ex n
  have K1 := Lib.hid k1
  have K2 := Lib.hid k2
  have K3 := Lib.hid k3
  have K4 := Lib.hid k4
  clear hr k1 k2 k3 k4
  have HN := Lib.hid (show name 1 = { data := #[114, 101, 108, 101, 97, 115, 101, 100] } from rfl)
  have HF := Lib.hid (show fin 1 = false by decide)
  go_enter Tryd.func3, Tryd.ntmps3
  go_wp2_with fail
  refine (K1.out _ R.out).mono ?_
  rintro en w' ⟨rfl, rfl⟩
  go_wp2_with fail
  refine (K2.out _).mono ?_
  rintro en w' ⟨rfl, rfl⟩
  clear K1 K2
  go_wp2_with fail
  refine (K3.out _ R.out).mono ?_
  rintro en w' ⟨rfl, rfl⟩
  go_wp2_with fail
  refine (K4.out _).mono ?_
  rintro en w' ⟨rfl, rfl⟩
  clear K3 K4
  go_wp2_with fail
  refine (name_at (n := { data := #[114, 101, 108, 101, 97, 115, 101, 100] }) HN.out _ R.out).mono ?_
  rintro en w' ⟨rfl, rfl⟩
  go_wp2_with fail
  refine (parse_at prs1 _ R.out).mono ?_
  rintro en w' ⟨rfl, rfl⟩
  go_wp2_with fail
  refine (alive_any _ R.out).mono ?_
  rintro en w' ⟨rfl, rfl⟩
  go_wp2_with fail
  refine (rname_at (n := { data := #[114, 101, 108, 101, 97, 115, 101, 100] }) HN.out _).mono ?_
  rintro en w' ⟨rfl, rfl⟩
  go_wp2_with fail
  refine (final_at (b := false) HF.out _ R.out).mono ?_
  rintro en w' ⟨rfl, rfl⟩
  go_wp2
  go_ret
  exact ⟨rfl, Below.refl _ _⟩
set_option maxRecDepth 100000 in
set_option maxHeartbeats 4000000 in
theorem tells2 (e : Int) (n : ByteArray) (hn : n.size ≤ 100) (w : World) (hr : Ready w) : Calls Tryd.prog 3 #[.int .i64 2, .int .i64 e, .string n] w fun en w' => en = .returned (.bool true) ∧ Below w.heap.size w w' := by
  have R := Lib.hid hr
  have hl : ¬(100 : Int) < n.size := by omega
  obtain ⟨a, f, k1, k2⟩ := after_ex 2 e
  obtain ⟨b, g, k3, k4⟩ := parse_ex n
  have K1 := Lib.hid k1
  have K2 := Lib.hid k2
  have K3 := Lib.hid k3
  have K4 := Lib.hid k4
  clear hr k1 k2 k3 k4
  have HN := Lib.hid (show name 2 = { data := #[104, 101, 108, 100] } from rfl)
  have HF := Lib.hid (show fin 2 = false by decide)
  go_enter Tryd.func3, Tryd.ntmps3
  go_wp2_with fail
  refine (K1.out _ R.out).mono ?_
  rintro en w' ⟨rfl, rfl⟩
  go_wp2_with fail
  refine (K2.out _).mono ?_
  rintro en w' ⟨rfl, rfl⟩
  clear K1 K2
  go_wp2_with fail
  refine (K3.out _ R.out).mono ?_
  rintro en w' ⟨rfl, rfl⟩
  go_wp2_with fail
  refine (K4.out _).mono ?_
  rintro en w' ⟨rfl, rfl⟩
  clear K3 K4
  go_wp2_with fail
  refine (name_at (n := { data := #[104, 101, 108, 100] }) HN.out _ R.out).mono ?_
  rintro en w' ⟨rfl, rfl⟩
  go_wp2_with fail
  refine (parse_at prs2 _ R.out).mono ?_
  rintro en w' ⟨rfl, rfl⟩
  go_wp2_with fail
  refine (alive_any _ R.out).mono ?_
  rintro en w' ⟨rfl, rfl⟩
  go_wp2_with fail
  refine (rname_at (n := { data := #[104, 101, 108, 100] }) HN.out _).mono ?_
  rintro en w' ⟨rfl, rfl⟩
  go_wp2_with fail
  refine (final_at (b := false) HF.out _ R.out).mono ?_
  rintro en w' ⟨rfl, rfl⟩
  go_wp2
  go_ret
  exact ⟨rfl, Below.refl _ _⟩
set_option maxRecDepth 100000 in
set_option maxHeartbeats 4000000 in
theorem tells3 (e : Int) (n : ByteArray) (hn : n.size ≤ 100) (w : World) (hr : Ready w) : Calls Tryd.prog 3 #[.int .i64 3, .int .i64 e, .string n] w fun en w' => en = .returned (.bool true) ∧ Below w.heap.size w w' := by
  have R := Lib.hid hr
  have hl : ¬(100 : Int) < n.size := by omega
  obtain ⟨a, f, k1, k2⟩ := after_ex 3 e
  obtain ⟨b, g, k3, k4⟩ := parse_ex n
  have K1 := Lib.hid k1
  have K2 := Lib.hid k2
  have K3 := Lib.hid k3
  have K4 := Lib.hid k4
  clear hr k1 k2 k3 k4
  have HN := Lib.hid (show name 3 = { data := #[114, 101, 106, 101, 99, 116, 101, 100] } from rfl)
  have HF := Lib.hid (show fin 3 = true by decide)
  go_enter Tryd.func3, Tryd.ntmps3
  go_wp2_with fail
  refine (K1.out _ R.out).mono ?_
  rintro en w' ⟨rfl, rfl⟩
  go_wp2_with fail
  refine (K2.out _).mono ?_
  rintro en w' ⟨rfl, rfl⟩
  clear K1 K2
  go_wp2_with fail
  refine (K3.out _ R.out).mono ?_
  rintro en w' ⟨rfl, rfl⟩
  go_wp2_with fail
  refine (K4.out _).mono ?_
  rintro en w' ⟨rfl, rfl⟩
  clear K3 K4
  go_wp2_with fail
  refine (name_at (n := { data := #[114, 101, 106, 101, 99, 116, 101, 100] }) HN.out _ R.out).mono ?_
  rintro en w' ⟨rfl, rfl⟩
  go_wp2_with fail
  refine (parse_at prs3 _ R.out).mono ?_
  rintro en w' ⟨rfl, rfl⟩
  go_wp2_with fail
  refine (alive_any _ R.out).mono ?_
  rintro en w' ⟨rfl, rfl⟩
  go_wp2_with fail
  refine (rname_at (n := { data := #[114, 101, 106, 101, 99, 116, 101, 100] }) HN.out _).mono ?_
  rintro en w' ⟨rfl, rfl⟩
  go_wp2_with fail
  refine (final_at (b := true) HF.out _ R.out).mono ?_
  rintro en w' ⟨rfl, rfl⟩
  go_wp2
  go_ret
  exact ⟨rfl, Below.refl _ _⟩
set_option maxRecDepth 100000 in
set_option maxHeartbeats 4000000 in
theorem tells4 (e : Int) (n : ByteArray) (hn : n.size ≤ 100) (w : World) (hr : Ready w) : Calls Tryd.prog 3 #[.int .i64 4, .int .i64 e, .string n] w fun en w' => en = .returned (.bool true) ∧ Below w.heap.size w w' := by
  have R := Lib.hid hr
  have hl : ¬(100 : Int) < n.size := by omega
  obtain ⟨a, f, k1, k2⟩ := after_ex 4 e
  obtain ⟨b, g, k3, k4⟩ := parse_ex n
  have K1 := Lib.hid k1
  have K2 := Lib.hid k2
  have K3 := Lib.hid k3
  have K4 := Lib.hid k4
  clear hr k1 k2 k3 k4
  have HN := Lib.hid (show name 4 = { data := #[115, 104, 105, 112, 112, 101, 100] } from rfl)
  have HF := Lib.hid (show fin 4 = true by decide)
  go_enter Tryd.func3, Tryd.ntmps3
  go_wp2_with fail
  refine (K1.out _ R.out).mono ?_
  rintro en w' ⟨rfl, rfl⟩
  go_wp2_with fail
  refine (K2.out _).mono ?_
  rintro en w' ⟨rfl, rfl⟩
  clear K1 K2
  go_wp2_with fail
  refine (K3.out _ R.out).mono ?_
  rintro en w' ⟨rfl, rfl⟩
  go_wp2_with fail
  refine (K4.out _).mono ?_
  rintro en w' ⟨rfl, rfl⟩
  clear K3 K4
  go_wp2_with fail
  refine (name_at (n := { data := #[115, 104, 105, 112, 112, 101, 100] }) HN.out _ R.out).mono ?_
  rintro en w' ⟨rfl, rfl⟩
  go_wp2_with fail
  refine (parse_at prs4 _ R.out).mono ?_
  rintro en w' ⟨rfl, rfl⟩
  go_wp2_with fail
  refine (alive_any _ R.out).mono ?_
  rintro en w' ⟨rfl, rfl⟩
  go_wp2_with fail
  refine (rname_at (n := { data := #[115, 104, 105, 112, 112, 101, 100] }) HN.out _).mono ?_
  rintro en w' ⟨rfl, rfl⟩
  go_wp2_with fail
  refine (final_at (b := true) HF.out _ R.out).mono ?_
  rintro en w' ⟨rfl, rfl⟩
  go_wp2
  go_ret
  exact ⟨rfl, Below.refl _ _⟩
set_option maxHeartbeats 4000000 in
theorem tells_long (s e : Int) (n : ByteArray) (hn : ¬n.size ≤ 100) (w : World) (hr : Ready w) : Calls Tryd.prog 3 #[.int .i64 s, .int .i64 e, .string n] w fun en w' => en = .returned (.bool true) ∧ Below w.heap.size w w' := by
  have R := Lib.hid hr
  have hl : (100 : Int) < n.size := by omega
  clear hr
  go_enter Tryd.func3, Tryd.ntmps3
  go_wp2_with fail
  refine (alive_any _ R.out).mono ?_
  rintro en w' ⟨rfl, rfl⟩
  go_wp2
  go_ret
  exact ⟨rfl, Below.refl _ _⟩
/-- StatusTells, as the law's last text wants it. -/
theorem tells_in (s : Int) (_hs : (Lit.int .i64 s).wf = true) (e : Int) (_he : (Lit.int .i64 e).wf = true) (n : ByteArray) (_hn : n.size ≤ maxLen) (w : World) (hr : Ready w) :
    Calls Tryd.prog 3 #[.int .i64 s, .int .i64 e, .string n] w fun en w' => en = .returned (.bool true) ∧ Below w.heap.size w w' := by
  by_cases hn : n.size ≤ 100
  · cases hs : okB s with
    | false => exact tells_none s e n hn w hr hs
    | true =>
      rcases five hs with rfl | rfl | rfl | rfl | rfl
      · exact tells0 e n hn w hr
      · exact tells1 e n hn w hr
      · exact tells2 e n hn w hr
      · exact tells3 e n hn w hr
      · exact tells4 e n hn w hr
  · exact tells_long s e n hn w hr
end Su
end Go.Proofs.YtconmgjogcfcbaaDoor
