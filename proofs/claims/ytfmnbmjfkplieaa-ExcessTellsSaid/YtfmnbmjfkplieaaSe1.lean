/- Walks over the document's answer of layer 6: what may be, which is ahead, whether two lists are one. No condition but those written. -/
import Derived.Test.YtfmnbmjfkplieaaRw
import Derived.Test.YtfmnbmjfkplieaaSeNum
import Derived.Deep.RegionHeld3
import Derived.RegionTactic
namespace Go.Proofs.Ytfmnbmjfkplieaa
open Go.RowKit

namespace Se
def rval (r : Rd) : Value := .agg #[.int .i64 r.min, .int .i64 r.seq, .int .i64 r.ten]
def rcells (r : Rd) : List Value := [.int .i64 r.min, .int .i64 r.seq, .int .i64 r.ten]
theorem rcells_len (r : Rd) : (rcells r).length = 3 := rfl
theorem rten_any (t : Int) (w : World) : Calls Try.prog 21 #[.int .i64 t] w fun e w' => e = .returned (.bool (tenB t)) ∧ w = w' := by
  unfold tenB
  by_cases h1 : -1099511627776 ≤ t
  · by_cases h2 : t ≤ 1099511627776
    · rw [decide_eq_true (show _ ∧ _ from ⟨h1, h2⟩)]
      go_enter Try.func21, Try.ntmps21
      go_wp2
      go_ret
      exact ⟨rfl, rfl⟩
    · rw [decide_eq_false (show ¬ (_ ∧ _) from fun h => h2 h.2)]
      have h2' : 1099511627776 < t := by omega
      go_enter Try.func21, Try.ntmps21
      go_wp2
      go_ret
      exact ⟨rfl, rfl⟩
  · rw [decide_eq_false (show ¬ (_ ∧ _) from fun h => h1 h.1)]
    have h1' : t < -1099511627776 := by omega
    go_enter Try.func21, Try.ntmps21
    go_wp2
    go_ret
    exact ⟨rfl, rfl⟩
set_option maxRecDepth 100000 in
set_option maxHeartbeats 1000000 in
theorem rright_any (r : Rd) (w : World) : Calls Try.prog 24 #[rval r] w fun e w' => e = .returned (.bool (rightB r)) ∧ Below w.heap.size w w' := by
  have T := Lib.hid (fun W => rten_any r.ten W)
  have E : rightB r = (tenB r.ten && decide (0 ≤ r.min) && decide (r.min ≤ 1048575) && decide (0 ≤ r.seq) && decide (r.seq ≤ 65535)) := by
    rw [Bool.eq_iff_iff]
    simp [rightB, tenB]
    omega
  rw [E]
  clear E
  generalize tenB r.ten = t at *
  obtain ⟨m, s, u⟩ := r
  unfold rval
  simp only
  by_cases h1 : 0 ≤ m
  · by_cases h2 : m ≤ 1048575
    · by_cases h3 : 0 ≤ s
      · rw [decide_eq_true h1, decide_eq_true h2, decide_eq_true h3]
        go_enter Try.func24, Try.ntmps24
        go_wp2_with fail
        refine (T.out _).mono ?_
        rintro e w1 ⟨rfl, rfl⟩
        cases t
        all_goals
          go_wp2
          go_ret
          exact ⟨rfl, alloc_below w _⟩
      · have h3' : s < 0 := by omega
        rw [decide_eq_false h3, Bool.and_false, Bool.false_and]
        go_enter Try.func24, Try.ntmps24
        go_wp2_with fail
        refine (T.out _).mono ?_
        rintro e w1 ⟨rfl, rfl⟩
        cases t
        all_goals
          go_wp2
          go_ret
          exact ⟨rfl, alloc_below w _⟩
    · have h2' : 1048575 < m := by omega
      rw [decide_eq_false h2, Bool.and_false, Bool.false_and, Bool.false_and]
      go_enter Try.func24, Try.ntmps24
      go_wp2_with fail
      refine (T.out _).mono ?_
      rintro e w1 ⟨rfl, rfl⟩
      cases t
      all_goals
        go_wp2
        go_ret
        exact ⟨rfl, alloc_below w _⟩
  · have h1' : m < 0 := by omega
    rw [decide_eq_false h1, Bool.and_false, Bool.false_and, Bool.false_and, Bool.false_and]
    go_enter Try.func24, Try.ntmps24
    go_wp2_with fail
    refine (T.out _).mono ?_
    rintro e w1 ⟨rfl, rfl⟩
    cases t
    all_goals
      go_wp2
      go_ret
      exact ⟨rfl, alloc_below w _⟩
theorem rmay_any (a b : Int) (w : World) : Calls Try.prog 9 #[.int .i64 a, .int .i64 b] w fun e w' => e = .returned (.bool (mayB a b)) ∧ w = w' := by
  have T := Lib.hid (fun W => rten_any a W)
  have E : mayB a b = (tenB a && decide (0 ≤ b) && decide (b ≤ 1048575)) := by
    rw [Bool.eq_iff_iff]
    simp [mayB, tenB]
    omega
  rw [E]
  clear E
  generalize tenB a = t at *
  by_cases h1 : 0 ≤ b
  · rw [decide_eq_true h1]
    go_enter Try.func9, Try.ntmps9
    go_wp2_with fail
    refine (T.out _).mono ?_
    rintro e w1 ⟨rfl, rfl⟩
    cases t
    all_goals
      go_wp2
      go_ret
      exact ⟨rfl, rfl⟩
  · have h1' : b < 0 := by omega
    rw [decide_eq_false h1, Bool.and_false, Bool.false_and]
    go_enter Try.func9, Try.ntmps9
    go_wp2_with fail
    refine (T.out _).mono ?_
    rintro e w1 ⟨rfl, rfl⟩
    cases t
    all_goals
      go_wp2
      go_ret
      exact ⟨rfl, rfl⟩
set_option maxRecDepth 100000 in
set_option maxHeartbeats 1000000 in
theorem rahead_any (a b : Rd) (w : World) : Calls Try.prog 32 #[rval a, rval b] w fun e w' => e = .returned (.bool (ltB a b)) ∧ Below w.heap.size w w' := by
  have hlt : ltB a b = (decide (a.min < b.min) || (decide (a.min = b.min) && decide (a.seq < b.seq))) := by
    rw [Bool.eq_iff_iff]
    unfold ltB
    rw [decide_eq_true_iff]
    unfold lt
    simp only [decide_eq_true_eq, Bool.or_eq_true, Bool.and_eq_true]
  have HL := Lib.hid hlt
  clear hlt
  obtain ⟨m, s, t⟩ := a
  obtain ⟨n, u, v⟩ := b
  simp only at HL
  have B := Lib.hid ((alloc_below w (.cells #[.int .i64 m, .int .i64 s, .int .i64 t] 37)).alloc (size_alloc _ _) (.cells #[.int .i64 n, .int .i64 u, .int .i64 v] 37))
  unfold rval
  simp only
  by_cases h1 : m < n
  · have E := Lib.hid (show ltB ⟨m, s, t⟩ ⟨n, u, v⟩ = true by rw [HL.out, decide_eq_true h1]; rfl)
    go_enter Try.func32, Try.ntmps32
    go_wp2
    go_ret
    exact ⟨by rw [E.out]; rfl, B.out⟩
  · by_cases h2 : m = n
    · subst h2
      have E := Lib.hid (show ltB ⟨m, s, t⟩ ⟨m, u, v⟩ = decide (s < u) by rw [HL.out, decide_eq_false h1, decide_eq_true rfl]; simp)
      have t1 : decide (m < m) = false := by simp
      go_enter Try.func32, Try.ntmps32
      go_wp2
      all_goals
        go_ret
        exact ⟨by rw [E.out]; rfl, B.out⟩
    · have E := Lib.hid (show ltB ⟨m, s, t⟩ ⟨n, u, v⟩ = false by rw [HL.out, decide_eq_false h1, decide_eq_false h2]; rfl)
      have t2 : (m == n) = false := by simp [h2]
      clear h2
      go_enter Try.func32, Try.ntmps32
      go_wp2
      go_ret
      exact ⟨by rw [E.out]; rfl, B.out⟩
end Se
end Go.Proofs.Ytfmnbmjfkplieaa
