/- The live question of layer 6's laws: it returns true. Condition: the contracts of package series. -/
import Derived.Test.YthlpbkkglaaofaaSeFace
namespace Go.Proofs.Ythlpbkkglaaofaa
open Go.RowKit

namespace Se
def s1 : List Rd := [⟨10, 2, 40⟩]
def s2 : List Rd := [⟨10, 1, 70⟩, ⟨10, 2, 40⟩]
def s4 : List Rd := [⟨10, 1, 70⟩, ⟨10, 2, 50⟩]
theorem q1 : putR [] ⟨10, 2, 40⟩ = (true, 0, s1) ∧ sortL s1 = s1 := by decide
theorem q2 : putR s1 ⟨10, 1, 70⟩ = (true, 0, [⟨10, 2, 40⟩, ⟨10, 1, 70⟩]) ∧ sortL [⟨10, 2, 40⟩, ⟨10, 1, 70⟩] = s2 := by decide
theorem q3 : putR s2 ⟨10, 2, 30⟩ = (false, 0, s2) ∧ sortL s2 = s2 := by decide
theorem q4 : putR s2 ⟨10, 2, 50⟩ = (true, 0, s4) ∧ sortL s4 = s4 := by decide
theorem q5 : putR s4 ⟨-1, 0, 0⟩ = (false, 1, s4) := by decide
theorem q6 : air 99 5 s4 9 = 99 ∧ air 99 5 s4 15 = 50 ∧ air 99 5 s4 16 = 99 ∧ next 5 s4 3 = 10 ∧ next 5 s4 10 = 16 ∧ next 5 s4 16 = -1 := by decide
theorem sorted_s1 : Sorted s1 := by unfold Sorted s1; decide
theorem sorted_s2 : Sorted s2 := by unfold Sorted s2; decide
theorem sorted_s4 : Sorted s4 := by unfold Sorted s4; decide
theorem right_s1 : ∀ x ∈ s1, rightB x = true := by decide
theorem right_s2 : ∀ x ∈ s2, rightB x = true := by decide
theorem right_s4 : ∀ x ∈ s4, rightB x = true := by decide
set_option maxRecDepth 100000 in
set_option maxHeartbeats 8000000 in
/-- The live question. -/
theorem alive_any (I : Face) (w : World) : Calls Try.prog 6 #[] w fun e w' => e = .returned (.bool true) ∧ Below w.heap.size w w' := by
  have N := Lib.hid (I.new_yes 99 5 w (by decide))
  have P1 := Lib.hid (fun h F W (hp : I.PS W w.heap.size h F 99 5 []) => I.put _ h F 99 5 [] ⟨10, 2, 40⟩ W hp (by unfold Sorted; decide) (by decide) (by decide))
  have P2 := Lib.hid (fun h F W (hp : I.PS W w.heap.size h F 99 5 s1) => I.put _ h F 99 5 s1 ⟨10, 1, 70⟩ W hp sorted_s1 right_s1 (by decide))
  have P3 := Lib.hid (fun h F W (hp : I.PS W w.heap.size h F 99 5 s2) => I.put _ h F 99 5 s2 ⟨10, 2, 30⟩ W hp sorted_s2 right_s2 (by decide))
  have P4 := Lib.hid (fun h F W (hp : I.PS W w.heap.size h F 99 5 s2) => I.put _ h F 99 5 s2 ⟨10, 2, 50⟩ W hp sorted_s2 right_s2 (by decide))
  have P5 := Lib.hid (fun h F W (hp : I.PS W w.heap.size h F 99 5 s4) => I.put _ h F 99 5 s4 ⟨-1, 0, 0⟩ W hp sorted_s4 right_s4 (by decide))
  have T6 := Lib.hid (fun h F W (hp : I.PS W w.heap.size h F 99 5 s4) => I.told _ h F 99 5 s4 W hp sorted_s4 (by decide))
  have A7 := Lib.hid (fun m h F W (hp : I.PS W w.heap.size h F 99 5 s4) (h1 : (-9223372036854775808 : Int) ≤ m) (h2 : m ≤ (9223372036854775807 : Int)) => I.airAt _ h F 99 5 s4 m W hp sorted_s4 right_s4 (by decide) (by decide) h1 h2)
  have X7 := Lib.hid (fun m h F W (hp : I.PS W w.heap.size h F 99 5 s4) (h1 : (-9223372036854775808 : Int) ≤ m) (h2 : m ≤ (9223372036854775807 : Int)) => I.nextAt _ h F 99 5 s4 m W hp sorted_s4 right_s4 (by decide) (by decide) h1 h2)
  rw [q1.1] at P1
  rw [q2.1] at P2
  rw [q3.1] at P3
  rw [q4.1] at P4
  rw [q5] at P5
  simp only [q1.2, q2.2, q3.2, q4.2] at P1 P2 P3 P4 P5
  unfold rval at P1 P2 P3 P4 P5
  simp only at P1 P2 P3 P4 P5
  go_enter Try.func6, Try.ntmps6
  go_wp2_with fail
  refine N.out.mono ?_
  rintro e w1 ⟨h, F1, rfl, hp, hb⟩
  have S1 := Lib.hid hp
  have B1 := Lib.hid hb
  clear hp hb N
  go_wp2_with fail
  refine (P1.out h F1 _ S1.out).mono ?_
  rintro e w2 ⟨rfl, hp⟩
  obtain ⟨F2, hp, hb⟩ := I.next_below S1.out B1.out B1.out.size hp
  have S2 := Lib.hid hp
  have B2 := Lib.hid hb
  clear hp hb S1 B1 P1
  go_wp2_with fail
  refine (P2.out h F2 _ S2.out).mono ?_
  rintro e w3 ⟨rfl, hp⟩
  obtain ⟨F3, hp, hb⟩ := I.next_below S2.out B2.out B2.out.size hp
  have S3 := Lib.hid hp
  have B3 := Lib.hid hb
  clear hp hb S2 B2 P2
  go_wp2_with fail
  refine (P3.out h F3 _ S3.out).mono ?_
  rintro e w4 ⟨rfl, hp⟩
  obtain ⟨F4, hp, hb⟩ := I.next_below S3.out B3.out B3.out.size hp
  have S4 := Lib.hid hp
  have B4 := Lib.hid hb
  clear hp hb S3 B3 P3
  go_wp2_with fail
  refine (P4.out h F4 _ S4.out).mono ?_
  rintro e w5 ⟨rfl, hp⟩
  obtain ⟨F5, hp, hb⟩ := I.next_below S4.out B4.out B4.out.size hp
  have S5 := Lib.hid hp
  have B5 := Lib.hid hb
  clear hp hb S4 B4 P4
  go_wp2_with fail
  refine (P5.out h F5 _ S5.out).mono ?_
  rintro e w6 ⟨rfl, hp⟩
  obtain ⟨F6, hp, hb⟩ := I.next_below S5.out B5.out B5.out.size hp
  have S6 := Lib.hid hp
  have B6 := Lib.hid hb
  clear hp hb S5 B5 P5
  go_wp2_with fail
  refine (T6.out h F6 _ S6.out).mono ?_
  rintro e w7 ⟨v, rfl, ho, hb⟩
  obtain ⟨b, c, e, _, _, hc⟩ := own_some ho (by decide)
  subst e
  have S7 := Lib.hid (I.keep S6.out hb)
  have B7 := Lib.hid (B6.out.trans (hb.mono B6.out.size))
  have e1 : w7.cell? ⟨b, 1, none⟩ = some (.int .i64 1) := row_cell rcells_len ho rfl (j := 0) (x := ⟨10, 1, 70⟩) rfl (i := 1) (by decide)
  have e5 : w7.cell? ⟨b, 5, none⟩ = some (.int .i64 50) := row_cell rcells_len ho rfl (j := 1) (x := ⟨10, 2, 50⟩) rfl (i := 2) (by decide)
  have hl : s4.length = 2 := rfl
  rw [hl]
  rw [hl] at hc
  clear ho hb S6 B6 T6 hl
  go_wp2_with fail
  refine (A7.out 9 h F6 _ S7.out (by decide) (by decide)).mono ?_
  rintro e w8 ⟨rfl, hb⟩
  rw [q6.1]
  have S8 := Lib.hid (I.keep S7.out hb)
  have B8 := Lib.hid (B7.out.trans (hb.mono B7.out.size))
  clear hb e1 e5 S7 B7
  go_wp2_with fail
  refine (A7.out 15 h F6 _ S8.out (by decide) (by decide)).mono ?_
  rintro e w9 ⟨rfl, hb⟩
  rw [q6.2.1]
  have S9 := Lib.hid (I.keep S8.out hb)
  have B9 := Lib.hid (B8.out.trans (hb.mono B8.out.size))
  clear hb S8 B8
  go_wp2_with fail
  refine (A7.out 16 h F6 _ S9.out (by decide) (by decide)).mono ?_
  rintro e w10 ⟨rfl, hb⟩
  rw [q6.2.2.1]
  have S10 := Lib.hid (I.keep S9.out hb)
  have B10 := Lib.hid (B9.out.trans (hb.mono B9.out.size))
  clear hb S9 B9
  go_wp2_with fail
  refine (X7.out 3 h F6 _ S10.out (by decide) (by decide)).mono ?_
  rintro e w11 ⟨rfl, hb⟩
  rw [q6.2.2.2.1]
  have S11 := Lib.hid (I.keep S10.out hb)
  have B11 := Lib.hid (B10.out.trans (hb.mono B10.out.size))
  clear hb S10 B10
  go_wp2_with fail
  refine (X7.out 10 h F6 _ S11.out (by decide) (by decide)).mono ?_
  rintro e w12 ⟨rfl, hb⟩
  rw [q6.2.2.2.2.1]
  have S12 := Lib.hid (I.keep S11.out hb)
  have B12 := Lib.hid (B11.out.trans (hb.mono B11.out.size))
  clear hb S11 B11
  go_wp2_with fail
  refine (X7.out 16 h F6 _ S12.out (by decide) (by decide)).mono ?_
  rintro e w13 ⟨rfl, hb⟩
  rw [q6.2.2.2.2.2]
  have B13 := Lib.hid (B12.out.trans (hb.mono B12.out.size))
  clear hb S12 B12
  go_wp2
  go_ret
  exact ⟨rfl, B13.out⟩
end Se
end Go.Proofs.Ythlpbkkglaaofaa
