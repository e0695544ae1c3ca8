/- Walks over the document's answer of layer 8: what may be, which is ahead. No condition but those written. -/
import Derived.Test.YtfdakkghikimcaaRw
import Derived.Test.YtfdakkghikimcaaDrNum
import Derived.Deep.RegionHeld3
import Derived.RegionTactic
namespace Go.Proofs.Ytfdakkghikimcaa
open Go.RowKit

namespace Dr
open Se
def mcells (r : Rd) : List Value := [.int .i64 r.min, .int .i64 r.seq, .bool (opB r)]
def mval (r : Rd) : Value := .agg #[.int .i64 r.min, .int .i64 r.seq, .bool (opB r)]
theorem mcells_len (r : Rd) : (mcells r).length = 3 := rfl
/-- May a mark be? -/
def rightM (r : Rd) : Bool := decide (0 ≤ r.min) && decide (r.min ≤ 1048575) && decide (0 ≤ r.seq) && decide (r.seq ≤ 65535)
set_option maxRecDepth 100000 in
set_option maxHeartbeats 1000000 in
theorem dright_any (r : Rd) (w : World) : Calls Try.prog 19 #[mval r] w fun e w' => e = .returned (.bool (rightM r)) ∧ Below w.heap.size w w' := by
  unfold rightM mval
  generalize opB r = o
  obtain ⟨m, s, t⟩ := r
  simp only
  by_cases h1 : 0 ≤ m
  · rw [decide_eq_true h1, Bool.true_and]
    by_cases h2 : m ≤ 1048575
    · rw [decide_eq_true h2, Bool.true_and]
      by_cases h3 : 0 ≤ s
      · rw [decide_eq_true h3, Bool.true_and]
        go_enter Try.func19, Try.ntmps19
        go_wp2
        all_goals
          go_ret
          exact ⟨rfl, alloc_below w _⟩
      · have h3' : s < 0 := by omega
        rw [decide_eq_false h3, Bool.false_and]
        go_enter Try.func19, Try.ntmps19
        go_wp2
        go_ret
        exact ⟨rfl, alloc_below w _⟩
    · have h2' : 1048575 < m := by omega
      rw [decide_eq_false h2, Bool.false_and, Bool.false_and]
      go_enter Try.func19, Try.ntmps19
      go_wp2
      go_ret
      exact ⟨rfl, alloc_below w _⟩
  · have h1' : m < 0 := by omega
    rw [decide_eq_false h1, Bool.false_and, Bool.false_and, Bool.false_and]
    go_enter Try.func19, Try.ntmps19
    go_wp2
    go_ret
    exact ⟨rfl, alloc_below w _⟩
set_option maxRecDepth 100000 in
set_option maxHeartbeats 1000000 in
theorem dahead_any (a b : Rd) (w : World) : Calls Try.prog 21 #[mval a, mval b] w fun e w' => e = .returned (.bool (ltB a b)) ∧ Below w.heap.size w w' := by
  have hlt : ltB a b = (decide (a.min < b.min) || (decide (a.min = b.min) && decide (a.seq < b.seq))) := by
    rw [Bool.eq_iff_iff]
    unfold ltB
    rw [decide_eq_true_iff]
    unfold lt
    simp only [decide_eq_true_eq, Bool.or_eq_true, Bool.and_eq_true]
  have HL := Lib.hid hlt
  clear hlt
  unfold mval
  generalize opB a = oa
  generalize opB b = ob
  obtain ⟨m, s, t⟩ := a
  obtain ⟨n, u, v⟩ := b
  simp only at HL
  have B := Lib.hid ((alloc_below w (.cells #[.int .i64 m, .int .i64 s, .bool oa] 31)).alloc (size_alloc _ _) (.cells #[.int .i64 n, .int .i64 u, .bool ob] 31))
  simp only
  by_cases h1 : m < n
  · have E := Lib.hid (show ltB ⟨m, s, t⟩ ⟨n, u, v⟩ = true by rw [HL.out, decide_eq_true h1]; rfl)
    go_enter Try.func21, Try.ntmps21
    go_wp2
    go_ret
    exact ⟨by rw [E.out]; rfl, B.out⟩
  · by_cases h2 : m = n
    · subst h2
      have E := Lib.hid (show ltB ⟨m, s, t⟩ ⟨m, u, v⟩ = decide (s < u) by rw [HL.out, decide_eq_false h1, decide_eq_true rfl]; simp)
      have t1 : decide (m < m) = false := by simp
      go_enter Try.func21, Try.ntmps21
      go_wp2
      all_goals
        go_ret
        exact ⟨by rw [E.out]; rfl, B.out⟩
    · have E := Lib.hid (show ltB ⟨m, s, t⟩ ⟨n, u, v⟩ = false by rw [HL.out, decide_eq_false h1, decide_eq_false h2]; rfl)
      have t2 : (m == n) = false := by simp [h2]
      clear h2
      go_enter Try.func21, Try.ntmps21
      go_wp2
      go_ret
      exact ⟨by rw [E.out]; rfl, B.out⟩
end Dr
end Go.Proofs.Ytfdakkghikimcaa
