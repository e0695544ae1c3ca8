/- What may be done with a lot, in plain words. No condition but those written. -/
import Derived.Test.YtgmjmkkhoibbcaaDoorLoMem
import Derived.Test.YtgmjmkkhoibbcaaDoorStNum
import Derived.Test.YtgmjmkkhoibbcaaDoorSuNum
import Derived.Test.YtgmjmkkhoibbcaaDoorMsNum
namespace Go.Proofs.YtgmjmkkhoibbcaaDoor.Kp
open Lo

/-- A lot's allowance. -/
def allow (p : Ms.Pd) (x : Lt) : Int := St.St.cap (St.St.fit p.budget + St.St.fit x.grant)
/-- Is it over? -/
def overB (p : Ms.Pd) (x : Lt) (e : Int) : Bool := decide (allow p x < e)
def lt0 : Lt := ⟨0, 0, 0, 0, 0, 0, 0, []⟩
/-- A lot of which nothing is known. -/
def lv0 : Lv := ⟨lt0, none, 0, 0⟩
def judgeL (p : Ms.Pd) (y : Lv) (e : Int) : Lv × Bool := if (decide (y.x.status = 1) && overB p y.x e) = true then ({ y with x := { y.x with status := 2, order := 0 } }, true) else (y, false)
def mayL (p : Ms.Pd) (x : Lt) (e now : Int) : Int := if x.status ≠ 1 then 8 else if x.expiry ≤ now then 10 else if overB p x e = true then 9 else 0
def relL (p : Ms.Pd) (y : Lv) (e : Int) : Lv × Int := if Su.err y.x.status 0 ≠ 0 then (lv0, Su.err y.x.status 0) else if overB p y.x e = true then (lv0, 9) else ({ y with x := { y.x with status := Su.aft y.x.status 0 } }, 0)
def holdL (y : Lv) : Lv × Int := if Su.err y.x.status 1 ≠ 0 then (lv0, Su.err y.x.status 1) else ({ y with x := { y.x with status := Su.aft y.x.status 1, order := 0 } }, 0)
/-- With a grant more. -/
def grantL (y : Lv) (g : Int) : Lv := { y with x := { y.x with status := Su.aft y.x.status 2, grant := St.St.cap (St.St.fit y.x.grant + St.St.fit g) } }
def revL (p : Ms.Pd) (y : Lv) (e g : Int) : Lv × Int := if g < 0 ∨ 4611686018427387904 < g then (lv0, 1) else if Su.err y.x.status 2 ≠ 0 then (lv0, Su.err y.x.status 2) else if overB p (grantL y g).x e = true then (lv0, 9) else (grantL y g, 0)
def rejL (y : Lv) : Lv × Int := if Su.err y.x.status 3 ≠ 0 then (lv0, Su.err y.x.status 3) else ({ y with x := { y.x with status := Su.aft y.x.status 3, order := 0 } }, 0)
theorem err0 {s : Int} (h : Su.err s 0 = 0) : Su.aft s 0 = 1 := by
  obtain ⟨h1, _, _⟩ := Su.aft_ok h
  rcases Su.five h1 with rfl | rfl | rfl | rfl | rfl <;> first | (revert h; decide) | decide
theorem err2 {s : Int} (h : Su.err s 2 = 0) : Su.aft s 2 = 1 := by
  obtain ⟨h1, _, _⟩ := Su.aft_ok h
  rcases Su.five h1 with rfl | rfl | rfl | rfl | rfl <;> first | (revert h; decide) | decide
theorem over_iff {p : Ms.Pd} {x : Lt} {e : Int} : overB p x e = true ↔ allow p x < e := by unfold overB; exact decide_eq_true_iff
theorem over_no {p : Ms.Pd} {x : Lt} {e : Int} : overB p x e = false ↔ e ≤ allow p x := by unfold overB; rw [decide_eq_false_iff_not]; omega
theorem judge_never {p : Ms.Pd} {y : Lv} {e : Int} (h : (judgeL p y e).1.x.status = 1) : e ≤ allow p (judgeL p y e).1.x := by
  unfold judgeL at *
  by_cases hc : (decide (y.x.status = 1) && overB p y.x e) = true
  · rw [if_pos hc] at h
    exact absurd (show (2 : Int) = 1 from h) (by decide)
  · rw [if_neg hc] at h ⊢
    rw [h] at hc
    exact over_no.1 (by simpa using hc)
theorem judge_held {p : Ms.Pd} {y : Lv} {e : Int} (h : (judgeL p y e).2 = true) : (judgeL p y e).1.x.status = 2 ∧ (judgeL p y e).1.x.order = 0 ∧ y.x.status = 1 := by
  unfold judgeL at *
  by_cases hc : (decide (y.x.status = 1) && overB p y.x e) = true
  · rw [if_pos hc]
    simp only [Bool.and_eq_true, decide_eq_true_eq] at hc
    exact ⟨rfl, rfl, hc.1⟩
  · rw [if_neg hc] at h
    cases h
theorem rel_ok {p : Ms.Pd} {y : Lv} {e : Int} : (relL p y e).2 = 0 ↔ Su.err y.x.status 0 = 0 ∧ e ≤ allow p y.x := by
  unfold relL
  by_cases h1 : Su.err y.x.status 0 ≠ 0
  · rw [if_pos h1]
    exact ⟨fun h => absurd h h1, fun h => absurd h.1 h1⟩
  · rw [if_neg h1]
    by_cases h2 : overB p y.x e = true
    · rw [if_pos h2]
      have := over_iff.1 h2
      exact ⟨fun h => absurd h (by decide), fun h => by omega⟩
    · rw [if_neg h2]
      have := over_no.1 (by simpa using h2)
      exact ⟨fun _ => ⟨by omega, this⟩, fun _ => rfl⟩
theorem rel_told {p : Ms.Pd} {y : Lv} {e : Int} (h : (relL p y e).2 = 0) : (relL p y e).1.x.status = 1 ∧ e ≤ allow p (relL p y e).1.x := by
  obtain ⟨h1, h2⟩ := rel_ok.1 h
  unfold relL
  rw [if_neg (by omega), if_neg (by rw [over_no.2 h2]; exact Bool.false_ne_true)]
  exact ⟨err0 h1, h2⟩
theorem rel_empty {p : Ms.Pd} {y : Lv} {e : Int} (h : (relL p y e).2 ≠ 0) : (relL p y e).1 = lv0 := by
  unfold relL at *
  split
  · rfl
  · rename_i h1
    rw [if_neg h1] at h
    split
    · rfl
    · rename_i h2
      rw [if_neg h2] at h
      exact absurd rfl h
theorem rev_ok {p : Ms.Pd} {y : Lv} {e g : Int} : (revL p y e g).2 = 0 ↔ (0 ≤ g ∧ g ≤ 4611686018427387904) ∧ Su.err y.x.status 2 = 0 ∧ e ≤ allow p (grantL y g).x := by
  unfold revL
  by_cases h0 : g < 0 ∨ 4611686018427387904 < g
  · rw [if_pos h0]
    exact ⟨fun h => absurd h (by decide), fun h => by omega⟩
  · rw [if_neg h0]
    by_cases h1 : Su.err y.x.status 2 ≠ 0
    · rw [if_pos h1]
      exact ⟨fun h => absurd h h1, fun h => absurd h.2.1 h1⟩
    · rw [if_neg h1]
      by_cases h2 : overB p (grantL y g).x e = true
      · rw [if_pos h2]
        have := over_iff.1 h2
        exact ⟨fun h => absurd h (by decide), fun h => by omega⟩
      · rw [if_neg h2]
        have := over_no.1 (by simpa using h2)
        exact ⟨fun _ => ⟨by omega, by omega, this⟩, fun _ => rfl⟩
theorem rev_told {p : Ms.Pd} {y : Lv} {e g : Int} (h : (revL p y e g).2 = 0) : (revL p y e g).1.x.status = 1 ∧ e ≤ allow p (revL p y e g).1.x := by
  obtain ⟨h0, h1, h2⟩ := rev_ok.1 h
  unfold revL
  rw [if_neg (by omega), if_neg (by omega), if_neg (by rw [over_no.2 h2]; exact Bool.false_ne_true)]
  exact ⟨err2 h1, h2⟩
theorem rev_empty {p : Ms.Pd} {y : Lv} {e g : Int} (h : (revL p y e g).2 ≠ 0) : (revL p y e g).1 = lv0 := by
  unfold revL at *
  split
  · rfl
  · rename_i h0
    rw [if_neg h0] at h
    split
    · rfl
    · rename_i h1
      rw [if_neg h1] at h
      split
      · rfl
      · rename_i h2
        rw [if_neg h2] at h
        exact absurd rfl h
theorem rel_more {p : Ms.Pd} {y : Lv} {e e' : Int} (h : e ≤ e') (hk : (relL p y e').2 = 0) : (relL p y e).2 = 0 := by
  obtain ⟨h1, h2⟩ := rel_ok.1 hk
  exact rel_ok.2 ⟨h1, by omega⟩
theorem rev_more {p : Ms.Pd} {y : Lv} {e e' g : Int} (h : e ≤ e') (hk : (revL p y e' g).2 = 0) : (revL p y e g).2 = 0 := by
  obtain ⟨h0, h1, h2⟩ := rev_ok.1 hk
  exact rev_ok.2 ⟨h0, h1, by omega⟩
theorem rev_most {p : Ms.Pd} {y : Lv} {e g : Int} (hk : (revL p y e g).2 = 0) : (revL p y e 4611686018427387904).2 = 0 := by
  obtain ⟨h0, h1, h2⟩ := rev_ok.1 hk
  refine rev_ok.2 ⟨by omega, h1, ?_⟩
  unfold allow grantL at *
  simp only at *
  unfold St.St.cap St.St.fit at *
  omega
theorem may_ok {p : Ms.Pd} {x : Lt} {e now : Int} : mayL p x e now = 0 ↔ x.status = 1 ∧ now < x.expiry ∧ e ≤ allow p x := by
  unfold mayL
  by_cases h1 : x.status ≠ 1
  · rw [if_pos h1]
    exact ⟨fun h => absurd h (by decide), fun h => absurd h.1 h1⟩
  · rw [if_neg h1]
    by_cases h2 : x.expiry ≤ now
    · rw [if_pos h2]
      exact ⟨fun h => absurd h (by decide), fun h => by omega⟩
    · rw [if_neg h2]
      by_cases h3 : overB p x e = true
      · rw [if_pos h3]
        have := over_iff.1 h3
        exact ⟨fun h => absurd h (by decide), fun h => by omega⟩
      · rw [if_neg h3]
        have := over_no.1 (by simpa using h3)
        exact ⟨fun _ => ⟨by omega, by omega, this⟩, fun _ => rfl⟩
theorem may_more {p : Ms.Pd} {x : Lt} {e e' now : Int} (h : e ≤ e') (hk : mayL p x e' now = 0) : mayL p x e now = 0 := by
  obtain ⟨h1, h2, h3⟩ := may_ok.1 hk
  exact may_ok.2 ⟨h1, h2, by omega⟩
end Go.Proofs.YtgmjmkkhoibbcaaDoor.Kp
