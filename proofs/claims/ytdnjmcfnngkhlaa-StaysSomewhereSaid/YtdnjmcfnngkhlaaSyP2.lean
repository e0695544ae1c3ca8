/- Walks over package stays: does the last one go on, may something be done now, which one has a minute. Condition: the list reads as stays. -/
import Derived.Test.YtdnjmcfnngkhlaaSyP1
import Derived.WalkMore
namespace Go.Proofs.Ytdnjmcfnngkhlaa
open Go.RowKit

namespace Sy
def onB (S : List Sy) : Bool := match S.getLast? with | none => false | some s => decide (s.to = -1)
theorem on_B {S : List Sy} : onB S = true ↔ On S := by
  rcases ends_of S with rfl | ⟨A, s, rfl⟩
  · constructor
    · intro h
      cases h
    · rintro ⟨A, x, h, _⟩
      simp at h
  · unfold onB
    rw [List.getLast?_concat]
    constructor
    · intro h
      exact ⟨A, s, rfl, by simpa using h⟩
    · rintro ⟨B, x, h, hx⟩
      have := (List.append_inj' h rfl).2
      simp only [List.cons.injEq, and_true] at this
      subst this
      simp [hx]
theorem on_no {S : List Sy} (h : ¬ On S) : onB S = false := by
  cases hb : onB S
  · rfl
  · exact absurd (on_B.1 hb) h
theorem last_at {S : List Sy} {n : Nat} (hn : S.length = n) (h0 : 0 < n) : ∃ x, S[n - 1]? = some x ∧ S.getLast? = some x := by
  have : n - 1 < S.length := by omega
  exact ⟨_, List.getElem?_eq_getElem this, by rw [List.getLast?_eq_getElem?, hn, List.getElem?_eq_getElem this]⟩
set_option maxRecDepth 100000 in
set_option maxHeartbeats 4000000 in
theorem pon_any (p : Option Addr) (n c : Nat) (S : List Sy) (w : World) (h : Rw 3 scells w p n S) (hn : n ≤ 1000000) :
    Calls Try.prog 13 #[.slice p n c] w fun e w' => e = .returned (.bool (onB S)) ∧ w = w' := by
  have hn' : (n : Int) ≤ 1000000 := by omega
  rcases Nat.lt_or_ge 0 n with h0 | h0
  · obtain ⟨x, hx, hl⟩ := last_at h.1 h0
    obtain ⟨b, o, rfl, e0, e1, e2⟩ := rw_at h hx
    have gk : decide (0 < n) = true := by simp; omega
    have hw2 : IntKind.i64.wrap ((n : Int) - 1) = ((n - 1 : Nat) : Int) := by rw [show (n : Int) - 1 = ((n - 1 : Nat) : Int) by omega]; exact IntWalk.i64_in _ (by omega)
    have hj3 : ((n - 1 : Nat) : Int) < (n : Int) := by omega
    have HO : Hid (onB S = decide (x.to = -1)) := Lib.hid (by unfold onB; rw [hl])
    clear h hx hl e0 e1
    obtain ⟨j, hj⟩ : ∃ j, n - 1 = j := ⟨_, rfl⟩
    rw [hj] at hw2 hj3 e2
    clear hj
    by_cases ht : x.to = -1
    · have te : (x.to == -1) = true := by simp [ht]
      have HE : Hid (onB S = true) := Lib.hid (by rw [HO.out]; simp [ht])
      clear ht HO
      go_enter Try.func13, Try.ntmps13
      go_wp2
      go_ret
      exact ⟨by rw [HE.out]; rfl, rfl⟩
    · have te : (x.to == -1) = false := by simp [ht]
      have HE : Hid (onB S = false) := Lib.hid (by rw [HO.out]; simp [ht])
      clear ht HO
      go_enter Try.func13, Try.ntmps13
      go_wp2
      go_ret
      exact ⟨by rw [HE.out]; rfl, rfl⟩
  · obtain rfl : n = 0 := by omega
    have hS := List.eq_nil_of_length_eq_zero h.1
    subst hS
    clear h
    go_enter Try.func13, Try.ntmps13
    go_wp2
    go_ret
    exact ⟨rfl, rfl⟩
/-- May something be done now with stays that may be? -/
def mayB (S : List Sy) (now : Int) : Bool := match S.getLast? with | none => decide (0 ≤ now) | some s => if s.to = -1 then decide (s.frm ≤ now) else decide (now = s.to)
theorem may_B {S : List Sy} {now : Int} (h : Right S) : mayB S now = true ↔ May S now := by
  rcases ends_of S with rfl | ⟨A, s, rfl⟩
  · constructor
    · intro hb
      exact ⟨h, by simpa [mayB] using hb, fun s hs => by cases hs⟩
    · intro hm
      have := hm.2.1
      simpa [mayB] using this
  · unfold mayB
    rw [List.getLast?_concat]
    simp only
    obtain ⟨h1, h2, h3, h4, h5⟩ := right_snoc.1 h
    constructor
    · intro hb
      by_cases hc : s.to = -1
      · rw [if_pos hc, decide_eq_true_eq] at hb
        refine ⟨h, by omega, fun x hx => ?_⟩
        rw [List.getLast?_concat] at hx
        rw [← Option.some.inj hx]
        exact .inl ⟨hc, hb⟩
      · rw [if_neg hc, decide_eq_true_eq] at hb
        refine ⟨h, by omega, fun x hx => ?_⟩
        rw [List.getLast?_concat] at hx
        rw [← Option.some.inj hx]
        exact .inr hb.symm
    · intro hm
      rcases may_last hm with ⟨e, hf⟩ | e
      · rw [if_pos e, decide_eq_true_eq]
        exact hf
      · have := hm.2.1
        rw [if_neg (by omega), decide_eq_true_eq]
        exact e.symm
theorem may_no {S : List Sy} {now : Int} (h : Right S) (hm : ¬ May S now) : mayB S now = false := by
  cases hb : mayB S now
  · rfl
  · exact absurd ((may_B h).1 hb) hm
set_option maxRecDepth 100000 in
set_option maxHeartbeats 8000000 in
theorem pmay_any (p : Option Addr) (n c : Nat) (S : List Sy) (now : Int) (w : World) (h : Rw 3 scells w p n S) (hn : n ≤ 1000000) :
    Calls Try.prog 12 #[.slice p n c, .int .i64 now] w fun e w' => e = .returned (.bool (mayB S now)) ∧ w = w' := by
  have hn' : (n : Int) ≤ 1000000 := by omega
  rcases Nat.lt_or_ge 0 n with h0 | h0
  · obtain ⟨x, hx, hl⟩ := last_at h.1 h0
    have CO := Lib.hid (fun W (hW : Rw 3 scells W p n S) => pon_any p n c S W hW hn)
    have HR := Lib.hid h
    obtain ⟨b, o, rfl, e0, e1, e2⟩ := rw_at h hx
    have hne : ((n : Int) == 0) = false := by simp; omega
    have hw2 : IntKind.i64.wrap ((n : Int) - 1) = ((n - 1 : Nat) : Int) := by rw [show (n : Int) - 1 = ((n - 1 : Nat) : Int) by omega]; exact IntWalk.i64_in _ (by omega)
    have hw3 : (n : Int) - 1 = ((n - 1 : Nat) : Int) := by omega
    have hj3 : ((n - 1 : Nat) : Int) < (n : Int) := by omega
    have HO : Hid (onB S = decide (x.to = -1)) := Lib.hid (by unfold onB; rw [hl])
    have HM : Hid (mayB S now = if x.to = -1 then decide (x.frm ≤ now) else decide (now = x.to)) := Lib.hid (by unfold mayB; rw [hl])
    clear h hx hl e0
    obtain ⟨j, hj⟩ : ∃ j, n - 1 = j := ⟨_, rfl⟩
    rw [hj] at hw2 hw3 hj3 e2 e1
    clear hj
    by_cases ht : x.to = -1
    · have HE : Hid (onB S = true) := Lib.hid (by rw [HO.out]; simp [ht])
      have HF : Hid (mayB S now = decide (x.frm ≤ now)) := Lib.hid (by rw [HM.out, if_pos ht])
      rw [HF.out]
      clear ht HO HM
      go_enter Try.func12, Try.ntmps12
      go_wp2_with fail
      refine (CO.out _ HR.out).mono ?_
      rintro e w1 ⟨rfl, rfl⟩
      rw [HE.out]
      clear CO HR HE HF
      go_wp2
      go_ret
      exact ⟨by simp, rfl⟩
    · have HE : Hid (onB S = false) := Lib.hid (by rw [HO.out]; simp [ht])
      have HF : Hid (mayB S now = decide (now = x.to)) := Lib.hid (by rw [HM.out, if_neg ht])
      rw [HF.out]
      clear ht HO HM
      go_enter Try.func12, Try.ntmps12
      go_wp2_with fail
      refine (CO.out _ HR.out).mono ?_
      rintro e w1 ⟨rfl, rfl⟩
      rw [HE.out]
      clear CO HR HE HF
      go_wp2
      go_ret
      exact ⟨by simp; rw [Bool.eq_iff_iff]; simp, rfl⟩
  · obtain rfl : n = 0 := by omega
    have hS := List.eq_nil_of_length_eq_zero h.1
    subst hS
    clear h
    go_enter Try.func12, Try.ntmps12
    go_wp2
    go_ret
    exact ⟨by simp [mayB], rfl⟩
end Sy
end Go.Proofs.Ytdnjmcfnngkhlaa
