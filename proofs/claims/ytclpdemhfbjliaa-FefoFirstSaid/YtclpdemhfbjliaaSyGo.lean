/- Stays in plain words: what a step makes of them; how many minutes they have. No condition but those written. -/
import Derived.Test.YtclpdemhfbjliaaSyNum
namespace Go.Proofs.Ytclpdemhfbjliaa.Sy

/-- Stays, the last of which ends, if it goes on. -/
def untilS (l : List Sy) (now : Int) : List Sy := match l.getLast? with
  | none => l
  | some s => if s.to = -1 then (if s.frm < now then l.dropLast ++ [⟨s.zone, s.frm, now⟩] else l.dropLast) else l
theorem until_cut {A : List Sy} {s : Sy} {now : Int} (h : s.to = -1) (hn : s.frm < now) : untilS (A ++ [s]) now = A ++ [⟨s.zone, s.frm, now⟩] := by simp [untilS, h, hn]
theorem until_drop {A : List Sy} {s : Sy} {now : Int} (h : s.to = -1) (hn : ¬ s.frm < now) : untilS (A ++ [s]) now = A := by simp [untilS, h, hn]
theorem until_shut {A : List Sy} {s : Sy} {now : Int} (h : s.to ≠ -1) : untilS (A ++ [s]) now = A ++ [s] := by simp [untilS, h]
/-- From now on in a zone. -/
def goS (U : List Sy) (z now : Int) : List Sy := match U.getLast? with
  | none => U ++ [⟨z, now, -1⟩]
  | some u => if u.zone = z then U.dropLast ++ [⟨u.zone, u.frm, -1⟩] else U ++ [⟨z, now, -1⟩]
theorem go_nil (z now : Int) : goS [] z now = [⟨z, now, -1⟩] := rfl
theorem go_same {B : List Sy} {u : Sy} {now : Int} : goS (B ++ [u]) u.zone now = B ++ [⟨u.zone, u.frm, -1⟩] := by simp [goS]
theorem go_new {B : List Sy} {u : Sy} {z now : Int} (h : u.zone ≠ z) : goS (B ++ [u]) z now = B ++ [u] ++ [⟨z, now, -1⟩] := by simp [goS, h]
/-- May something be done now? -/
def May (l : List Sy) (now : Int) : Prop := Right l ∧ 0 ≤ now ∧ ∀ s, l.getLast? = some s → s.to = -1 ∧ s.frm ≤ now ∨ s.to = now
theorem may_last {A : List Sy} {s : Sy} {now : Int} (h : May (A ++ [s]) now) : s.to = -1 ∧ s.frm ≤ now ∨ s.to = now := h.2.2 s (by rw [List.getLast?_concat])
theorem until_ok {l : List Sy} {now : Int} (h : May l now) : Shut (untilS l now) ∧ Ends (untilS l now) now := by
  rcases ends_of l with rfl | ⟨A, s, rfl⟩
  · exact ⟨shut_nil, ends_nil now⟩
  · obtain ⟨h1, h2, h3, h4, h5⟩ := right_snoc.1 h.1
    have h0 := h.2.1
    rcases may_last h with ⟨e, hf⟩ | e
    · by_cases hn : s.frm < now
      · rw [until_cut e hn]
        exact ⟨shut_snoc.2 ⟨h1, h2, h3, hn, h5⟩, ends_snoc A _⟩
      · rw [until_drop e hn]
        have : s.frm = now := by omega
        exact ⟨h1, this ▸ h5⟩
    · have hne : s.to ≠ -1 := by omega
      rw [until_shut hne]
      refine ⟨shut_snoc.2 ⟨h1, h2, h3, ?_, h5⟩, e ▸ ends_snoc A s⟩
      rcases h4 with h4 | h4
      · exact h4
      · exact absurd h4 hne
theorem zone_until {l : List Sy} {now m : Int} (h : May l now) (hm : m < now) : zoneS (untilS l now) m = zoneS l m := by
  rcases ends_of l with rfl | ⟨A, s, rfl⟩
  · rfl
  · obtain ⟨h1, h2, h3, h4, h5⟩ := right_snoc.1 h.1
    rcases may_last h with ⟨e, hf⟩ | e
    · by_cases hn : s.frm < now
      · rw [until_cut e hn]
        by_cases hf : m < s.frm
        · rw [zone_ahead hf, zone_ahead (s := ⟨s.zone, s.frm, now⟩) hf]
        · rw [zone_last h1 h5 (by omega), zone_last (s := ⟨s.zone, s.frm, now⟩) h1 h5 (by simp only; omega), if_pos (.inr hm), if_pos (.inl e)]
      · rw [until_drop e hn, zone_ahead (by omega)]
    · rw [until_shut (by have := h.2.1; omega)]
theorem go_ok {U : List Sy} {z now : Int} (h : Shut U) (he : Ends U now) (h0 : 0 ≤ now) (hz : 1 ≤ z) : Right (goS U z now) ∧ ∃ A x, goS U z now = A ++ [x] ∧ x.to = -1 ∧ x.frm ≤ now ∧ x.zone = z := by
  rcases ends_of U with rfl | ⟨B, u, rfl⟩
  · rw [go_nil]
    exact ⟨(right_snoc (A := []) (s := ⟨z, now, -1⟩)).2 ⟨shut_nil, hz, h0, .inr rfl, ends_nil _⟩, [], _, rfl, rfl, Int.le_refl _, rfl⟩
  · obtain ⟨h1, h2, h3, h4, h5⟩ := shut_snoc.1 h
    have e := ends_eq he
    by_cases hc : u.zone = z
    · subst hc
      rw [go_same]
      exact ⟨right_snoc.2 ⟨h1, h2, h3, .inr rfl, h5⟩, B, _, rfl, rfl, by simp only; omega, rfl⟩
    · rw [go_new hc]
      exact ⟨right_snoc.2 ⟨h, hz, h0, .inr rfl, he⟩, _, _, rfl, rfl, Int.le_refl _, rfl⟩
theorem zone_go {U : List Sy} {z now : Int} (h : Shut U) (he : Ends U now) (m : Int) : zoneS (goS U z now) m = if m < now then zoneS U m else z := by
  rcases ends_of U with rfl | ⟨B, u, rfl⟩
  · rw [go_nil]
    by_cases hm : m < now
    · rw [if_pos hm, show [(⟨z, now, -1⟩ : Sy)] = [] ++ [⟨z, now, -1⟩] from rfl, zone_ahead hm]
    · rw [if_neg hm, show [(⟨z, now, -1⟩ : Sy)] = [] ++ [⟨z, now, -1⟩] from rfl, zone_last shut_nil (ends_nil _) (by simp only; omega), if_pos (.inl rfl)]
  · obtain ⟨h1, h2, h3, h4, h5⟩ := shut_snoc.1 h
    have e := ends_eq he
    by_cases hc : u.zone = z
    · subst hc
      rw [go_same]
      by_cases hf : m < u.frm
      · rw [zone_ahead hf, zone_ahead (s := ⟨u.zone, u.frm, -1⟩) hf, if_pos (by omega)]
      · rw [zone_last h1 h5 (by omega), zone_last (s := ⟨u.zone, u.frm, -1⟩) h1 h5 (by simp only; omega), if_pos (.inl rfl)]
        by_cases hm : m < now
        · rw [if_pos hm, if_pos (.inr (by omega))]
        · rw [if_neg hm]
    · rw [go_new hc]
      by_cases hm : m < now
      · rw [if_pos hm, zone_ahead (s := ⟨z, now, -1⟩) hm]
      · rw [if_neg hm, zone_last (s := ⟨z, now, -1⟩) h he (by simp only; omega), if_pos (.inl rfl)]
/-- How many minutes up to one a stay has. -/
def minS (M : Int) (s : Sy) : Int := if s.frm < M then (if s.to = -1 ∨ M < s.to then M else s.to) - s.frm else 0
def minutesS (l : List Sy) (M : Int) : Int := l.foldl (fun n s => n + minS M s) 0
theorem minutes_snoc (A : List Sy) (s : Sy) (M : Int) : minutesS (A ++ [s]) M = minutesS A M + minS M s := by simp [minutesS]
theorem min_step {s : Sy} {M : Int} (ht : s.frm < s.to ∨ s.to = -1) : minS (M + 1) s - minS M s = if s.frm ≤ M ∧ (s.to = -1 ∨ M < s.to) then 1 else 0 := by
  unfold minS
  repeat' split
  all_goals omega
/-- How many of the first minutes have a zone. -/
def cntS (l : List Sy) : Nat → Int
  | 0 => 0
  | M + 1 => cntS l M + if 0 < zoneS l (M : Int) then 1 else 0
theorem minutes_step_shut {A : List Sy} (h : Shut A) (M : Int) : minutesS A (M + 1) - minutesS A M = if 0 < zoneS A M then 1 else 0 := by
  suffices H : ∀ k : List Sy, Shut k.reverse → minutesS k.reverse (M + 1) - minutesS k.reverse M = if 0 < zoneS k.reverse M then 1 else 0 by
    have := H A.reverse
    rw [List.reverse_reverse] at this
    exact this h
  intro k
  induction k with
  | nil => intro _; rfl
  | cons s k ih =>
    intro h
    rw [List.reverse_cons] at h ⊢
    obtain ⟨h1, h2, h3, h4, h5⟩ := shut_snoc.1 h
    have h6 := ih h1
    have h7 := min_step (M := M) (.inl h4)
    rw [minutes_snoc, minutes_snoc]
    by_cases hf : M < s.frm
    · rw [zone_ahead hf]
      rw [if_neg (by omega)] at h7
      omega
    · rw [zone_last h1 h5 (by omega)]
      rw [zone_shut h1 h5 (by omega), if_neg (by decide)] at h6
      by_cases hc : s.to = -1 ∨ M < s.to
      · rw [if_pos hc, if_pos (by omega)]
        rw [if_pos ⟨by omega, hc⟩] at h7
        omega
      · rw [if_neg hc, if_neg (by decide)]
        rw [if_neg (fun h8 => hc h8.2)] at h7
        omega
theorem minutes_step {l : List Sy} (h : Right l) (M : Int) : minutesS l (M + 1) - minutesS l M = if 0 < zoneS l M then 1 else 0 := by
  rcases ends_of l with rfl | ⟨A, s, rfl⟩
  · rfl
  · obtain ⟨h1, h2, h3, h4, h5⟩ := right_snoc.1 h
    have h6 := minutes_step_shut h1 M
    have h7 := min_step (M := M) h4
    rw [minutes_snoc, minutes_snoc]
    by_cases hf : M < s.frm
    · rw [zone_ahead hf]
      rw [if_neg (by omega)] at h7
      omega
    · rw [zone_last h1 h5 (by omega)]
      rw [zone_shut h1 h5 (by omega), if_neg (by decide)] at h6
      by_cases hc : s.to = -1 ∨ M < s.to
      · rw [if_pos hc, if_pos (by omega)]
        rw [if_pos ⟨by omega, hc⟩] at h7
        omega
      · rw [if_neg hc, if_neg (by decide)]
        rw [if_neg (fun h8 => hc h8.2)] at h7
        omega
theorem minutes_zero {l : List Sy} (h : Right l) : minutesS l 0 = 0 := by
  have h0 : ∀ s ∈ l, minS 0 s = 0 := by
    intro s hs
    obtain ⟨i, hi⟩ := List.mem_iff_getElem?.1 hs
    have := (h i s hi).2.1
    unfold minS
    rw [if_neg (by omega)]
  clear h
  suffices H : ∀ k : List Sy, (∀ s ∈ k.reverse, minS 0 s = 0) → minutesS k.reverse 0 = 0 by
    have := H l.reverse
    rw [List.reverse_reverse] at this
    exact this h0
  intro k
  induction k with
  | nil => intro _; rfl
  | cons s k ih =>
    intro h
    rw [List.reverse_cons] at h ⊢
    rw [minutes_snoc, ih (fun t ht => h t (by simp at ht; simp [ht])), h s (by simp)]
    rfl
/-- Stays up to a minute have as many minutes as there were with a zone. -/
theorem minutes_cnt {l : List Sy} (h : Right l) : ∀ M : Nat, minutesS l (M : Int) = cntS l M
  | 0 => minutes_zero h
  | M + 1 => by
    have h1 := minutes_cnt h M
    have h2 := minutes_step h (M : Int)
    rw [cntS, ← h1]
    rw [show ((M + 1 : Nat) : Int) = (M : Int) + 1 by omega]
    omega
end Go.Proofs.Ytclpdemhfbjliaa.Sy
