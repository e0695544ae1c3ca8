/- The live question of layer 8's laws: it returns true. Condition: the contracts of package door. -/
import Derived.Test.YtfdakkghikimcaaDr8
namespace Go.Proofs.Ytfdakkghikimcaa
open Go.RowKit

namespace Dr
open Se
def s1 : List Rd := [⟨5, 1, 1⟩]
def s2 : List Rd := [⟨5, 1, 1⟩, ⟨9, 0, 1⟩]
def s3 : List Rd := [⟨5, 1, 1⟩, ⟨9, 0, 1⟩, ⟨12, 0, 0⟩]
theorem q1 : putM [] ⟨5, 1, 1⟩ = (true, 0, s1) := by decide
theorem q2 : putM s1 ⟨9, 0, 1⟩ = (true, 0, s2) := by decide
theorem q3 : putM s2 ⟨12, 0, 0⟩ = (true, 0, s3) := by decide
theorem q4 : putM s3 ⟨5, 1, 0⟩ = (false, 0, s3) := by decide
theorem q5 : putM s3 ⟨1048576, 0, 0⟩ = (false, 1, s3) := by decide
theorem g1 : Good s1 := ⟨by unfold Sorted s1; decide, by decide, by decide⟩
theorem g2 : Good s2 := ⟨by unfold Sorted s2; decide, by decide, by decide⟩
theorem g3 : Good s3 := ⟨by unfold Sorted s3; decide, by decide, by decide⟩
theorem o3 : ∀ n : Nat, n < 20 → (opn s3 (n : Int) = true ↔ 5 ≤ n ∧ n < 12) := by decide
theorem run_to {e b : Nat} (he : e ≤ 20) (h5 : 5 < b) (hb : b ≤ e) (hbe : b = 12 ∨ b = e ∧ e < 12) : RunsOf (opn s3) (e : Int) [⟨5, (b : Int)⟩] := by
  refine ⟨fun r hr => ?_, by simp, fun t t0 t1 ht => ?_⟩
  · rw [List.mem_singleton.1 hr]
    refine ⟨by simp only; omega, by simp only; omega, by simp only; omega, fun t a c => ?_⟩
    simp only at a c
    obtain ⟨n, rfl⟩ : ∃ n : Nat, t = n := ⟨t.toNat, by omega⟩
    exact (o3 n (by omega)).2 (by omega)
  · obtain ⟨n, rfl⟩ : ∃ n : Nat, t = n := ⟨t.toNat, by omega⟩
    have := (o3 n (by omega)).1 ht
    exact ⟨⟨5, (b : Int)⟩, by simp, by simp only; omega, by simp only; omega⟩
theorem r20 {R : List Ru} (h : RunsOf (opn s3) (min 20 1048576) R) : R = [⟨5, 12⟩] := runs_unique h (run_to (e := 20) (b := 12) (by decide) (by decide) (by decide) (.inl rfl))
theorem r8 {R : List Ru} (h : RunsOf (opn s3) (min 8 1048576) R) : R = [⟨5, 8⟩] := runs_unique h (run_to (e := 8) (b := 8) (by decide) (by decide) (by decide) (.inr ⟨rfl, by decide⟩))
theorem a67 : [(⟨5, 12⟩ : Ru)].filter (longB 7) = [] ∧ [(⟨5, 12⟩ : Ru)].filter (longB 6) = [⟨5, 12⟩] := by decide
theorem o67 : opn s3 11 = true ∧ opn s3 12 = false := by decide
set_option maxRecDepth 100000 in
set_option maxHeartbeats 8000000 in
/-- The live question. -/
theorem alive_any (I : Face) (w : World) : Calls Try.prog 6 #[] w fun e w' => e = .returned (.bool true) ∧ Below w.heap.size w w' := by
  have N := Lib.hid (I.new w)
  have P1 := Lib.hid (fun h F W (hp : I.DB W w.heap.size h F []) => I.put _ h F [] ⟨5, 1, 1⟩ W hp good_nil (by decide) (by decide))
  rw [q1, show mval ⟨5, 1, 1⟩ = .agg #[.int .i64 5, .int .i64 1, .bool true] from rfl] at P1
  have P2 := Lib.hid (fun h F W (hp : I.DB W w.heap.size h F s1) => I.put _ h F s1 ⟨9, 0, 1⟩ W hp g1 (by decide) (by decide))
  rw [q2, show mval ⟨9, 0, 1⟩ = .agg #[.int .i64 9, .int .i64 0, .bool true] from rfl] at P2
  have P3 := Lib.hid (fun h F W (hp : I.DB W w.heap.size h F s2) => I.put _ h F s2 ⟨12, 0, 0⟩ W hp g2 (by decide) (by decide))
  rw [q3, show mval ⟨12, 0, 0⟩ = .agg #[.int .i64 12, .int .i64 0, .bool false] from rfl] at P3
  have P4 := Lib.hid (fun h F W (hp : I.DB W w.heap.size h F s3) => I.put _ h F s3 ⟨5, 1, 0⟩ W hp g3 (by decide) (by decide))
  rw [q4, show mval ⟨5, 1, 0⟩ = .agg #[.int .i64 5, .int .i64 1, .bool false] from rfl] at P4
  have P5 := Lib.hid (fun h F W (hp : I.DB W w.heap.size h F s3) => I.put _ h F s3 ⟨1048576, 0, 0⟩ W hp g3 (by decide) (by decide))
  rw [q5, show mval ⟨1048576, 0, 0⟩ = .agg #[.int .i64 1048576, .int .i64 0, .bool false] from rfl] at P5
  simp only at P1 P2 P3 P4 P5
  have RU := Lib.hid (fun now h F W (hp : I.DB W w.heap.size h F s3) (h1 : (-9223372036854775808 : Int) ≤ now) (h2 : now ≤ (9223372036854775807 : Int)) => I.runs _ h F s3 now W hp g3 (by decide) h1 h2)
  have AL := Lib.hid (fun j h F W (hp : I.DB W w.heap.size h F s3) (h1 : (-9223372036854775808 : Int) ≤ j) (h2 : j ≤ (9223372036854775807 : Int)) => I.alarms _ h F s3 j 20 W hp g3 (by decide) h1 h2 (by decide) (by decide))
  have OP := Lib.hid (fun m h F W (hp : I.DB W w.heap.size h F s3) (h1 : (-9223372036854775808 : Int) ≤ m) (h2 : m ≤ (9223372036854775807 : Int)) => I.isOpen _ h F s3 m W hp g3 (by decide) h1 h2)
  go_enter Try.func6, Try.ntmps6
  go_wp2_with fail
  refine N.out.mono ?_
  rintro e w1 ⟨h, F1, rfl, hp, hb⟩
  have S1 := Lib.hid hp
  have B1 := Lib.hid hb
  clear hp hb N
  go_wp2_with fail
  refine (P1.out h F1 _ S1.out).mono ?_
  rintro e w2 ⟨rfl, hp⟩
  obtain ⟨F2, hp, hb⟩ := I.next_below S1.out B1.out B1.out.size hp
  have S2 := Lib.hid hp
  have B2 := Lib.hid hb
  clear hp hb S1 B1 P1
  go_wp2_with fail
  refine (P2.out h F2 _ S2.out).mono ?_
  rintro e w3 ⟨rfl, hp⟩
  obtain ⟨F3, hp, hb⟩ := I.next_below S2.out B2.out B2.out.size hp
  have S3 := Lib.hid hp
  have B3 := Lib.hid hb
  clear hp hb S2 B2 P2
  go_wp2_with fail
  refine (P3.out h F3 _ S3.out).mono ?_
  rintro e w4 ⟨rfl, hp⟩
  obtain ⟨F4, hp, hb⟩ := I.next_below S3.out B3.out B3.out.size hp
  have S4 := Lib.hid hp
  have B4 := Lib.hid hb
  clear hp hb S3 B3 P3
  go_wp2_with fail
  refine (P4.out h F4 _ S4.out).mono ?_
  rintro e w5 ⟨rfl, hp⟩
  obtain ⟨F5, hp, hb⟩ := I.next_below S4.out B4.out B4.out.size hp
  have S5 := Lib.hid hp
  have B5 := Lib.hid hb
  clear hp hb S4 B4 P4
  go_wp2_with fail
  refine (P5.out h F5 _ S5.out).mono ?_
  rintro e w6 ⟨rfl, hp⟩
  obtain ⟨F6, hp, hb⟩ := I.next_below S5.out B5.out B5.out.size hp
  have S6 := Lib.hid hp
  have B6 := Lib.hid hb
  clear hp hb S5 B5 P5
  go_wp2_with fail
  refine (RU.out 20 h F6 _ S6.out (by decide) (by decide)).mono ?_
  rintro e w7 ⟨v, R, rfl, hR, hl, ho, hb⟩
  obtain rfl := r20 hR
  have S7 := Lib.hid (I.keep S6.out hb)
  have B7 := Lib.hid (B6.out.trans (hb.mono B6.out.size))
  obtain ⟨b, c, e, _, lb, hc⟩ := own_some ho (by decide)
  subst e
  have O7 := Lib.hid ho
  simp only [List.length_cons, List.length_nil, Nat.zero_add] at hc ⊢
  clear ho hb S6 B6 hR hl
  go_wp2_with fail
  refine (RU.out 8 h F6 _ S7.out (by decide) (by decide)).mono ?_
  rintro e w8 ⟨v, R, rfl, hR, hl, ho, hb⟩
  obtain rfl := r8 hR
  have S8 := Lib.hid (I.keep S7.out hb)
  have B8 := Lib.hid (B7.out.trans (hb.mono B7.out.size))
  obtain ⟨b2, c2, e, _, lb2, hc2⟩ := own_some ho (by decide)
  subst e
  have O8 := own_turn O7.out (Turn.of_below (S := fun _ => False) hb) (fun _ _ hf => hf)
  have e0 : w8.cell? ⟨b, 0, none⟩ = some (.int .i64 5) := row_cell ucells_len O8 rfl (j := 0) (x := ⟨5, 12⟩) rfl (i := 0) (by decide)
  have e1 : w8.cell? ⟨b, 1, none⟩ = some (.int .i64 12) := row_cell ucells_len O8 rfl (j := 0) (x := ⟨5, 12⟩) rfl (i := 1) (by decide)
  have f0 : w8.cell? ⟨b2, 0, none⟩ = some (.int .i64 5) := row_cell ucells_len ho rfl (j := 0) (x := ⟨5, 8⟩) rfl (i := 0) (by decide)
  have f1 : w8.cell? ⟨b2, 1, none⟩ = some (.int .i64 8) := row_cell ucells_len ho rfl (j := 0) (x := ⟨5, 8⟩) rfl (i := 1) (by decide)
  simp only [List.length_cons, List.length_nil, Nat.zero_add] at hc2 ⊢
  clear ho hb S7 B7 hR hl O7 O8 lb lb2
  go_wp2_with fail
  refine (AL.out 7 h F6 _ S8.out (by decide) (by decide)).mono ?_
  rintro e w9 ⟨v, R, rfl, hR, hl, ho, hb⟩
  obtain rfl := r20 hR
  rw [a67.1] at ho
  have S9 := Lib.hid (I.keep S8.out hb)
  have B9 := Lib.hid (B8.out.trans (hb.mono B8.out.size))
  obtain ⟨q3, c3, rfl⟩ := own_slice ho
  simp only [List.length_nil]
  clear ho hb S8 B8 hR hl e0 e1 f0 f1
  go_wp2_with fail
  refine (AL.out 6 h F6 _ S9.out (by decide) (by decide)).mono ?_
  rintro e w10 ⟨v, R, rfl, hR, hl, ho, hb⟩
  obtain rfl := r20 hR
  rw [a67.2] at ho
  have S10 := Lib.hid (I.keep S9.out hb)
  have B10 := Lib.hid (B9.out.trans (hb.mono B9.out.size))
  obtain ⟨q4, c4, rfl⟩ := own_slice ho
  simp only [List.length_cons, List.length_nil, Nat.zero_add]
  clear ho hb S9 B9 hR hl
  go_wp2_with fail
  refine (OP.out 11 h F6 _ S10.out (by decide) (by decide)).mono ?_
  rintro e w11 ⟨rfl, hb⟩
  rw [o67.1]
  have S11 := Lib.hid (I.keep S10.out hb)
  have B11 := Lib.hid (B10.out.trans (hb.mono B10.out.size))
  clear hb S10 B10
  go_wp2_with fail
  refine (OP.out 12 h F6 _ S11.out (by decide) (by decide)).mono ?_
  rintro e w12 ⟨rfl, hb⟩
  rw [o67.2]
  have S12 := Lib.hid (I.keep S11.out hb)
  have B12 := Lib.hid (B11.out.trans (hb.mono B11.out.size))
  clear hb S11 B11
  go_wp2
  go_ret
  exact ⟨rfl, B12.out⟩
end Dr
end Go.Proofs.Ytfdakkghikimcaa
