/- Stays in plain words: where something was. No condition but those written. Stays in plain words: what a step makes of them; how many minutes they have. No condition but those written. Stays in plain words: may they be, one by one; those up to a minute; their minutes, added. No condition but those written. A ledger in plain words: zones, each with its readings; the exposure of stays. No condition but those written. Walks over the document's answer of layer 6: what may be, which is ahead, whether two lists are one. No condition but those written. Walks over the document's answer of layer 6: a reading is put. No condition but those written. Walks over the document's answer of layer 6: whether two lists are one, the reading that counts, the air. No condition but those written. -/
import Derived.Test.YtehiclmkdpcplaaQ01
import Derived.Test.YtehiclmkdpcplaaQ02
import Derived.Deep.RegionHeld3
import Derived.RegionTactic
import Derived.Deep.RegionLaw
import Derived.Deep.AppendLies
import Derived.ChangeAlike
import Derived.BigRegion
import Derived.StillTailTactics
namespace Go.Proofs.Ytehiclmkdpcplaa.Sy

/-- A stay. -/
structure Sy where
  zone : Int
  frm : Int
  to : Int
  deriving DecidableEq
/-- Does a stay have a minute? -/
def has (m : Int) (s : Sy) : Bool := decide (s.frm ≤ m) && (decide (s.to = -1) || decide (m < s.to))
theorem has_iff {m : Int} {s : Sy} : has m s = true ↔ s.frm ≤ m ∧ (s.to = -1 ∨ m < s.to) := by simp [has]
/-- May stays be? -/
def Right (l : List Sy) : Prop := ∀ (i : Nat) (s : Sy), l[i]? = some s → 1 ≤ s.zone ∧ 0 ≤ s.frm ∧ (s.frm < s.to ∨ s.to = -1 ∧ i + 1 = l.length) ∧ ∀ t : Sy, l[i + 1]? = some t → t.frm = s.to
/-- Stays that all ended, the last one at a minute. -/
def Shut (l : List Sy) : Prop := ∀ (i : Nat) (s : Sy), l[i]? = some s → 1 ≤ s.zone ∧ 0 ≤ s.frm ∧ s.frm < s.to ∧ ∀ t : Sy, l[i + 1]? = some t → t.frm = s.to
def Ends (l : List Sy) (e : Int) : Prop := ∀ s : Sy, l.getLast? = some s → s.to = e
theorem right_nil : Right [] := fun i s h => by simp at h
theorem shut_nil : Shut [] := fun i s h => by simp at h
theorem ends_nil (e : Int) : Ends [] e := fun s h => by simp at h
theorem ends_snoc (A : List Sy) (s : Sy) : Ends (A ++ [s]) s.to := fun t h => by
  rw [List.getLast?_concat] at h
  rw [Option.some.inj h]
theorem ends_eq {A : List Sy} {s : Sy} {e : Int} (h : Ends (A ++ [s]) e) : s.to = e := h s (by rw [List.getLast?_concat])
theorem shut_right {l : List Sy} (h : Shut l) : Right l := fun i s hs => by
  obtain ⟨a, b, c, d⟩ := h i s hs
  exact ⟨a, b, .inl c, d⟩
/-- One more, behind. -/
theorem right_snoc {A : List Sy} {s : Sy} : Right (A ++ [s]) ↔ Shut A ∧ 1 ≤ s.zone ∧ 0 ≤ s.frm ∧ (s.frm < s.to ∨ s.to = -1) ∧ Ends A s.frm := by
  constructor
  · intro h
    refine ⟨fun i a ha => ?_, ?_⟩
    · have hi : i < A.length := (List.getElem?_eq_some_iff.1 ha).1
      have h1 := h i a (by rw [List.getElem?_append_left hi]; exact ha)
      refine ⟨h1.1, h1.2.1, ?_, fun t ht => ?_⟩
      · rcases h1.2.2.1 with h2 | h2
        · exact h2
        · have := h2.2
          simp at this
          omega
      · have hi' : i + 1 < A.length := (List.getElem?_eq_some_iff.1 ht).1
        exact h1.2.2.2 t (by rw [List.getElem?_append_left hi']; exact ht)
    · have h1 := h A.length s (by simp)
      refine ⟨h1.1, h1.2.1, ?_, fun a ha => ?_⟩
      · rcases h1.2.2.1 with h2 | h2
        · exact .inl h2
        · exact .inr h2.1
      · rw [List.getLast?_eq_getElem?] at ha
        have hlt := (List.getElem?_eq_some_iff.1 ha).1
        have h2 := h (A.length - 1) a (by rw [List.getElem?_append_left hlt]; exact ha)
        exact (h2.2.2.2 s (by rw [show A.length - 1 + 1 = A.length by omega]; simp)).symm
  · rintro ⟨hA, z, f, t, e⟩ i a ha
    by_cases hi : i < A.length
    · rw [List.getElem?_append_left hi] at ha
      obtain ⟨h1, h2, h3, h4⟩ := hA i a ha
      refine ⟨h1, h2, .inl h3, fun b hb => ?_⟩
      by_cases hi' : i + 1 < A.length
      · rw [List.getElem?_append_left hi'] at hb
        exact h4 b hb
      · have : i + 1 = A.length := by omega
        rw [List.getElem?_append_right (by omega), this, Nat.sub_self] at hb
        simp at hb
        subst hb
        exact (e a (by rw [List.getLast?_eq_getElem?, show A.length - 1 = i by omega]; exact ha)).symm
    · have hl : i < (A ++ [s]).length := (List.getElem?_eq_some_iff.1 ha).1
      have : i = A.length := by
        simp at hl
        omega
      subst this
      simp at ha
      subst ha
      refine ⟨z, f, ?_, fun b hb => ?_⟩
      · rcases t with t | t
        · exact .inl t
        · exact .inr ⟨t, by simp⟩
      · have := (List.getElem?_eq_some_iff.1 hb).1
        simp at this
theorem shut_snoc {A : List Sy} {s : Sy} : Shut (A ++ [s]) ↔ Shut A ∧ 1 ≤ s.zone ∧ 0 ≤ s.frm ∧ s.frm < s.to ∧ Ends A s.frm := by
  constructor
  · intro h
    have h1 := right_snoc.1 (shut_right h)
    have h2 := h A.length s (by simp)
    exact ⟨h1.1, h1.2.1, h1.2.2.1, h2.2.2.1, h1.2.2.2.2⟩
  · rintro ⟨hA, z, f, t, e⟩ i a ha
    have h1 := right_snoc.2 ⟨hA, z, f, .inl t, e⟩ i a ha
    refine ⟨h1.1, h1.2.1, ?_, h1.2.2.2⟩
    rcases h1.2.2.1 with h2 | h2
    · exact h2
    · have : i = A.length := by have := h2.2; simp at this; omega
      subst this
      simp at ha
      subst ha
      exact t
theorem ends_of (l : List Sy) : l = [] ∨ ∃ A s, l = A ++ [s] := by
  rcases List.eq_nil_or_concat l with h | ⟨A, s, h⟩
  · exact .inl h
  · exact .inr ⟨A, s, by rw [h, List.concat_eq_append]⟩
/-- The zone of the stay that has a minute; 0, if none has. -/
def zoneS (l : List Sy) (m : Int) : Int := match l.find? (has m) with
  | none => 0
  | some s => s.zone
theorem zone_snoc (A : List Sy) (s : Sy) (m : Int) : zoneS (A ++ [s]) m = if zoneS A m ≠ 0 ∨ (A.find? (has m)).isSome then zoneS A m else if has m s then s.zone else 0 := by
  unfold zoneS
  rw [List.find?_append]
  cases h : A.find? (has m) with
  | none =>
    simp only [Option.none_or, List.find?_cons, List.find?_nil]
    cases has m s <;> simp
  | some a => simp
/-- Of stays that ended no one has a minute behind the end. -/
theorem shut_le {A : List Sy} {e : Int} (h : Shut A) (he : Ends A e) : ∀ s ∈ A, s.to ≤ e ∧ s.frm < s.to := by
  suffices H : ∀ (k : List Sy) (e : Int), Shut k.reverse → Ends k.reverse e → ∀ s ∈ k.reverse, s.to ≤ e ∧ s.frm < s.to by
    have := H A.reverse e
    rw [List.reverse_reverse] at this
    exact this h he
  intro k
  induction k with
  | nil => intro e _ _ s hs; simp at hs
  | cons x k ih =>
    intro e h he s hs
    rw [List.reverse_cons] at h he hs
    have h1 := shut_snoc.1 h
    have h2 := ends_eq he
    rcases List.mem_append.1 hs with hs | hs
    · have h3 := ih x.frm h1.1 h1.2.2.2.2 s hs
      have := h1.2.2.2.1
      omega
    · rw [List.mem_singleton.1 hs]
      exact ⟨by omega, h1.2.2.2.1⟩
theorem find_none {A : List Sy} {e m : Int} (h : Shut A) (he : Ends A e) (hm : e ≤ m) : A.find? (has m) = none := by
  rw [List.find?_eq_none]
  intro s hs hh
  have h1 := shut_le h he s hs
  rw [has_iff] at hh
  have h2 : 0 ≤ s.frm := by
    obtain ⟨i, hi⟩ := List.mem_iff_getElem?.1 hs
    exact (h i s hi).2.1
  omega
theorem zone_shut {A : List Sy} {e m : Int} (h : Shut A) (he : Ends A e) (hm : e ≤ m) : zoneS A m = 0 := by
  unfold zoneS
  rw [find_none h he hm]
/-- Ahead of the last one's From, the last one makes no difference. -/
theorem zone_ahead {A : List Sy} {s : Sy} {m : Int} (hm : m < s.frm) : zoneS (A ++ [s]) m = zoneS A m := by
  unfold zoneS
  rw [List.find?_append]
  have h1 : has m s = false := by
    cases h : has m s
    · rfl
    · rw [has_iff] at h
      omega
  cases h : A.find? (has m) with
  | none => simp [h1]
  | some a => simp
/-- From there on, it alone counts. -/
theorem zone_last {A : List Sy} {s : Sy} {m : Int} (h : Shut A) (he : Ends A s.frm) (hm : s.frm ≤ m) : zoneS (A ++ [s]) m = if s.to = -1 ∨ m < s.to then s.zone else 0 := by
  unfold zoneS
  rw [List.find?_append, find_none h he hm]
  by_cases hc : s.to = -1 ∨ m < s.to
  · rw [if_pos hc]
    simp [has_iff.2 ⟨hm, hc⟩]
  · rw [if_neg hc]
    have h1 : has m s = false := by
      cases h : has m s
      · rfl
      · rw [has_iff] at h
        exact absurd h.2 hc
    simp [h1]
end Go.Proofs.Ytehiclmkdpcplaa.Sy

namespace Go.Proofs.Ytehiclmkdpcplaa.Sy

/-- Stays, the last of which ends, if it goes on. -/
def untilS (l : List Sy) (now : Int) : List Sy := match l.getLast? with
  | none => l
  | some s => if s.to = -1 then (if s.frm < now then l.dropLast ++ [⟨s.zone, s.frm, now⟩] else l.dropLast) else l
theorem until_cut {A : List Sy} {s : Sy} {now : Int} (h : s.to = -1) (hn : s.frm < now) : untilS (A ++ [s]) now = A ++ [⟨s.zone, s.frm, now⟩] := by simp [untilS, h, hn]
theorem until_drop {A : List Sy} {s : Sy} {now : Int} (h : s.to = -1) (hn : ¬ s.frm < now) : untilS (A ++ [s]) now = A := by simp [untilS, h, hn]
theorem until_shut {A : List Sy} {s : Sy} {now : Int} (h : s.to ≠ -1) : untilS (A ++ [s]) now = A ++ [s] := by simp [untilS, h]
/-- From now on in a zone. -/
def goS (U : List Sy) (z now : Int) : List Sy := match U.getLast? with
  | none => U ++ [⟨z, now, -1⟩]
  | some u => if u.zone = z then U.dropLast ++ [⟨u.zone, u.frm, -1⟩] else U ++ [⟨z, now, -1⟩]
theorem go_nil (z now : Int) : goS [] z now = [⟨z, now, -1⟩] := rfl
theorem go_same {B : List Sy} {u : Sy} {now : Int} : goS (B ++ [u]) u.zone now = B ++ [⟨u.zone, u.frm, -1⟩] := by simp [goS]
theorem go_new {B : List Sy} {u : Sy} {z now : Int} (h : u.zone ≠ z) : goS (B ++ [u]) z now = B ++ [u] ++ [⟨z, now, -1⟩] := by simp [goS, h]
/-- May something be done now? -/
def May (l : List Sy) (now : Int) : Prop := Right l ∧ 0 ≤ now ∧ ∀ s, l.getLast? = some s → s.to = -1 ∧ s.frm ≤ now ∨ s.to = now
theorem may_last {A : List Sy} {s : Sy} {now : Int} (h : May (A ++ [s]) now) : s.to = -1 ∧ s.frm ≤ now ∨ s.to = now := h.2.2 s (by rw [List.getLast?_concat])
theorem until_ok {l : List Sy} {now : Int} (h : May l now) : Shut (untilS l now) ∧ Ends (untilS l now) now := by
  rcases ends_of l with rfl | ⟨A, s, rfl⟩
  · exact ⟨shut_nil, ends_nil now⟩
  · obtain ⟨h1, h2, h3, h4, h5⟩ := right_snoc.1 h.1
    have h0 := h.2.1
    rcases may_last h with ⟨e, hf⟩ | e
    · by_cases hn : s.frm < now
      · rw [until_cut e hn]
        exact ⟨shut_snoc.2 ⟨h1, h2, h3, hn, h5⟩, ends_snoc A _⟩
      · rw [until_drop e hn]
        have : s.frm = now := by omega
        exact ⟨h1, this ▸ h5⟩
    · have hne : s.to ≠ -1 := by omega
      rw [until_shut hne]
      refine ⟨shut_snoc.2 ⟨h1, h2, h3, ?_, h5⟩, e ▸ ends_snoc A s⟩
      rcases h4 with h4 | h4
      · exact h4
      · exact absurd h4 hne
theorem zone_until {l : List Sy} {now m : Int} (h : May l now) (hm : m < now) : zoneS (untilS l now) m = zoneS l m := by
  rcases ends_of l with rfl | ⟨A, s, rfl⟩
  · rfl
  · obtain ⟨h1, h2, h3, h4, h5⟩ := right_snoc.1 h.1
    rcases may_last h with ⟨e, hf⟩ | e
    · by_cases hn : s.frm < now
      · rw [until_cut e hn]
        by_cases hf : m < s.frm
        · rw [zone_ahead hf, zone_ahead (s := ⟨s.zone, s.frm, now⟩) hf]
        · rw [zone_last h1 h5 (by omega), zone_last (s := ⟨s.zone, s.frm, now⟩) h1 h5 (by simp only; omega), if_pos (.inr hm), if_pos (.inl e)]
      · rw [until_drop e hn, zone_ahead (by omega)]
    · rw [until_shut (by have := h.2.1; omega)]
theorem go_ok {U : List Sy} {z now : Int} (h : Shut U) (he : Ends U now) (h0 : 0 ≤ now) (hz : 1 ≤ z) : Right (goS U z now) ∧ ∃ A x, goS U z now = A ++ [x] ∧ x.to = -1 ∧ x.frm ≤ now ∧ x.zone = z := by
  rcases ends_of U with rfl | ⟨B, u, rfl⟩
  · rw [go_nil]
    exact ⟨(right_snoc (A := []) (s := ⟨z, now, -1⟩)).2 ⟨shut_nil, hz, h0, .inr rfl, ends_nil _⟩, [], _, rfl, rfl, Int.le_refl _, rfl⟩
  · obtain ⟨h1, h2, h3, h4, h5⟩ := shut_snoc.1 h
    have e := ends_eq he
    by_cases hc : u.zone = z
    · subst hc
      rw [go_same]
      exact ⟨right_snoc.2 ⟨h1, h2, h3, .inr rfl, h5⟩, B, _, rfl, rfl, by simp only; omega, rfl⟩
    · rw [go_new hc]
      exact ⟨right_snoc.2 ⟨h, hz, h0, .inr rfl, he⟩, _, _, rfl, rfl, Int.le_refl _, rfl⟩
theorem zone_go {U : List Sy} {z now : Int} (h : Shut U) (he : Ends U now) (m : Int) : zoneS (goS U z now) m = if m < now then zoneS U m else z := by
  rcases ends_of U with rfl | ⟨B, u, rfl⟩
  · rw [go_nil]
    by_cases hm : m < now
    · rw [if_pos hm, show [(⟨z, now, -1⟩ : Sy)] = [] ++ [⟨z, now, -1⟩] from rfl, zone_ahead hm]
    · rw [if_neg hm, show [(⟨z, now, -1⟩ : Sy)] = [] ++ [⟨z, now, -1⟩] from rfl, zone_last shut_nil (ends_nil _) (by simp only; omega), if_pos (.inl rfl)]
  · obtain ⟨h1, h2, h3, h4, h5⟩ := shut_snoc.1 h
    have e := ends_eq he
    by_cases hc : u.zone = z
    · subst hc
      rw [go_same]
      by_cases hf : m < u.frm
      · rw [zone_ahead hf, zone_ahead (s := ⟨u.zone, u.frm, -1⟩) hf, if_pos (by omega)]
      · rw [zone_last h1 h5 (by omega), zone_last (s := ⟨u.zone, u.frm, -1⟩) h1 h5 (by simp only; omega), if_pos (.inl rfl)]
        by_cases hm : m < now
        · rw [if_pos hm, if_pos (.inr (by omega))]
        · rw [if_neg hm]
    · rw [go_new hc]
      by_cases hm : m < now
      · rw [if_pos hm, zone_ahead (s := ⟨z, now, -1⟩) hm]
      · rw [if_neg hm, zone_last (s := ⟨z, now, -1⟩) h he (by simp only; omega), if_pos (.inl rfl)]
/-- How many minutes up to one a stay has. -/
def minS (M : Int) (s : Sy) : Int := if s.frm < M then (if s.to = -1 ∨ M < s.to then M else s.to) - s.frm else 0
def minutesS (l : List Sy) (M : Int) : Int := l.foldl (fun n s => n + minS M s) 0
theorem minutes_snoc (A : List Sy) (s : Sy) (M : Int) : minutesS (A ++ [s]) M = minutesS A M + minS M s := by simp [minutesS]
theorem min_step {s : Sy} {M : Int} (ht : s.frm < s.to ∨ s.to = -1) : minS (M + 1) s - minS M s = if s.frm ≤ M ∧ (s.to = -1 ∨ M < s.to) then 1 else 0 := by
  unfold minS
  repeat' split
  all_goals omega
/-- How many of the first minutes have a zone. -/
def cntS (l : List Sy) : Nat → Int
  | 0 => 0
  | M + 1 => cntS l M + if 0 < zoneS l (M : Int) then 1 else 0
theorem minutes_step_shut {A : List Sy} (h : Shut A) (M : Int) : minutesS A (M + 1) - minutesS A M = if 0 < zoneS A M then 1 else 0 := by
  suffices H : ∀ k : List Sy, Shut k.reverse → minutesS k.reverse (M + 1) - minutesS k.reverse M = if 0 < zoneS k.reverse M then 1 else 0 by
    have := H A.reverse
    rw [List.reverse_reverse] at this
    exact this h
  intro k
  induction k with
  | nil => intro _; rfl
  | cons s k ih =>
    intro h
    rw [List.reverse_cons] at h ⊢
    obtain ⟨h1, h2, h3, h4, h5⟩ := shut_snoc.1 h
    have h6 := ih h1
    have h7 := min_step (M := M) (.inl h4)
    rw [minutes_snoc, minutes_snoc]
    by_cases hf : M < s.frm
    · rw [zone_ahead hf]
      rw [if_neg (by omega)] at h7
      omega
    · rw [zone_last h1 h5 (by omega)]
      rw [zone_shut h1 h5 (by omega), if_neg (by decide)] at h6
      by_cases hc : s.to = -1 ∨ M < s.to
      · rw [if_pos hc, if_pos (by omega)]
        rw [if_pos ⟨by omega, hc⟩] at h7
        omega
      · rw [if_neg hc, if_neg (by decide)]
        rw [if_neg (fun h8 => hc h8.2)] at h7
        omega
theorem minutes_step {l : List Sy} (h : Right l) (M : Int) : minutesS l (M + 1) - minutesS l M = if 0 < zoneS l M then 1 else 0 := by
  rcases ends_of l with rfl | ⟨A, s, rfl⟩
  · rfl
  · obtain ⟨h1, h2, h3, h4, h5⟩ := right_snoc.1 h
    have h6 := minutes_step_shut h1 M
    have h7 := min_step (M := M) h4
    rw [minutes_snoc, minutes_snoc]
    by_cases hf : M < s.frm
    · rw [zone_ahead hf]
      rw [if_neg (by omega)] at h7
      omega
    · rw [zone_last h1 h5 (by omega)]
      rw [zone_shut h1 h5 (by omega), if_neg (by decide)] at h6
      by_cases hc : s.to = -1 ∨ M < s.to
      · rw [if_pos hc, if_pos (by omega)]
        rw [if_pos ⟨by omega, hc⟩] at h7
        omega
      · rw [if_neg hc, if_neg (by decide)]
        rw [if_neg (fun h8 => hc h8.2)] at h7
        omega
theorem minutes_zero {l : List Sy} (h : Right l) : minutesS l 0 = 0 := by
  have h0 : ∀ s ∈ l, minS 0 s = 0 := by
    intro s hs
    obtain ⟨i, hi⟩ := List.mem_iff_getElem?.1 hs
    have := (h i s hi).2.1
    unfold minS
    rw [if_neg (by omega)]
  clear h
  suffices H : ∀ k : List Sy, (∀ s ∈ k.reverse, minS 0 s = 0) → minutesS k.reverse 0 = 0 by
    have := H l.reverse
    rw [List.reverse_reverse] at this
    exact this h0
  intro k
  induction k with
  | nil => intro _; rfl
  | cons s k ih =>
    intro h
    rw [List.reverse_cons] at h ⊢
    rw [minutes_snoc, ih (fun t ht => h t (by simp at ht; simp [ht])), h s (by simp)]
    rfl
/-- Stays up to a minute have as many minutes as there were with a zone. -/
theorem minutes_cnt {l : List Sy} (h : Right l) : ∀ M : Nat, minutesS l (M : Int) = cntS l M
  | 0 => minutes_zero h
  | M + 1 => by
    have h1 := minutes_cnt h M
    have h2 := minutes_step h (M : Int)
    rw [cntS, ← h1]
    rw [show ((M + 1 : Nat) : Int) = (M : Int) + 1 by omega]
    omega
end Go.Proofs.Ytehiclmkdpcplaa.Sy

namespace Go.Proofs.Ytehiclmkdpcplaa.Sy

/-- Is a stay as it may be, behind the one ahead of it? -/
def okP (t : Option Sy) (s : Sy) : Bool := decide (1 ≤ s.zone) && (decide (0 ≤ s.frm) && ((decide (s.frm < s.to) || decide (s.to = -1)) && (match t with | none => true | some t => decide (s.frm = t.to))))
def rightF : Option Sy → List Sy → Bool
  | _, [] => true
  | t, s :: l => okP t s && rightF (some s) l
/-- May stays be? -/
def rightB (l : List Sy) : Bool := rightF none l
theorem okP_iff {t : Option Sy} {s : Sy} : okP t s = true ↔ 1 ≤ s.zone ∧ 0 ≤ s.frm ∧ (s.frm < s.to ∨ s.to = -1) ∧ ∀ x, t = some x → s.frm = x.to := by
  cases t with
  | none => simp [okP]
  | some x => simp [okP]
theorem rightF_iff : ∀ (l : List Sy) (t : Option Sy), rightF t l = true ↔ ∀ (i : Nat) (s : Sy), l[i]? = some s → okP (if i = 0 then t else l[i - 1]?) s = true
  | [], t => by simp [rightF]
  | x :: l, t => by
    rw [rightF, Bool.and_eq_true, rightF_iff l (some x)]
    constructor
    · rintro ⟨h0, h⟩ i s hs
      cases i with
      | zero =>
        rw [List.getElem?_cons_zero] at hs
        rw [if_pos rfl, ← Option.some.inj hs]
        exact h0
      | succ i =>
        rw [List.getElem?_cons_succ] at hs
        have := h i s hs
        rw [if_neg (Nat.succ_ne_zero i), Nat.add_sub_cancel]
        cases i with
        | zero => simpa using this
        | succ i => simpa using this
    · intro h
      refine ⟨by simpa using h 0 x rfl, fun i s hs => ?_⟩
      have := h (i + 1) s (by rw [List.getElem?_cons_succ]; exact hs)
      rw [if_neg (Nat.succ_ne_zero i), Nat.add_sub_cancel] at this
      cases i with
      | zero => simpa using this
      | succ i => simpa using this
theorem rightB_iff {l : List Sy} : rightB l = true ↔ ∀ (i : Nat) (s : Sy), l[i]? = some s → 1 ≤ s.zone ∧ 0 ≤ s.frm ∧ (s.frm < s.to ∨ s.to = -1) ∧ ∀ t, 0 < i → l[i - 1]? = some t → s.frm = t.to := by
  rw [rightB, rightF_iff]
  refine forall_congr' fun i => forall_congr' fun s => ⟨fun h hs => ?_, fun h hs => ?_⟩
  · have := okP_iff.1 (h hs)
    refine ⟨this.1, this.2.1, this.2.2.1, fun t hi ht => this.2.2.2 t ?_⟩
    rw [if_neg (by omega)]
    exact ht
  · have := h hs
    refine okP_iff.2 ⟨this.1, this.2.1, this.2.2.1, fun t ht => ?_⟩
    by_cases hi : i = 0
    · rw [if_pos hi] at ht
      cases ht
    · rw [if_neg hi] at ht
      exact this.2.2.2 t (by omega) ht
theorem right_B {l : List Sy} : rightB l = true ↔ Right l := by
  rw [rightB_iff]
  constructor
  · intro h i s hs
    obtain ⟨h1, h2, h3, _⟩ := h i s hs
    have hn : ∀ t, l[i + 1]? = some t → t.frm = s.to := fun t ht => (h (i + 1) t ht).2.2.2 s (by omega) (by rw [Nat.add_sub_cancel]; exact hs)
    refine ⟨h1, h2, ?_, hn⟩
    rcases h3 with h3 | h3
    · exact .inl h3
    · refine .inr ⟨h3, ?_⟩
      have hlt := (List.getElem?_eq_some_iff.1 hs).1
      by_cases he : i + 1 = l.length
      · exact he
      · have hl : i + 1 < l.length := by omega
        have e := hn _ (List.getElem?_eq_getElem hl)
        have p := (h (i + 1) _ (List.getElem?_eq_getElem hl)).2.1
        omega
  · intro h i s hs
    obtain ⟨h1, h2, h3, h4⟩ := h i s hs
    refine ⟨h1, h2, h3.imp id (fun h => h.1), fun t hi ht => ?_⟩
    have := (h (i - 1) t ht).2.2.2 s (by rw [show i - 1 + 1 = i by omega]; exact hs)
    exact this
theorem right_no {l : List Sy} (h : ¬ Right l) : rightB l = false := by
  cases hb : rightB l
  · rfl
  · exact absurd (right_B.1 hb) h
theorem right_yes {l : List Sy} (h : Right l) : rightB l = true := right_B.2 h
/-- One that is not as it may be. -/
theorem right_bad {l : List Sy} {i : Nat} {s : Sy} (hs : l[i]? = some s) (h : ¬ (1 ≤ s.zone ∧ 0 ≤ s.frm ∧ (s.frm < s.to ∨ s.to = -1) ∧ ∀ t, 0 < i → l[i - 1]? = some t → s.frm = t.to)) : rightB l = false := by
  cases hb : rightB l
  · rfl
  · exact absurd (rightB_iff.1 hb i s hs) h

/-- A stay up to a minute. -/
def cut (m : Int) (s : Sy) : Sy := if s.to = -1 ∨ m < s.to then ⟨s.zone, s.frm, m⟩ else s
/-- The stays up to a minute. -/
def uptoS (l : List Sy) (m : Int) : List Sy := (l.filter fun s => decide (s.frm < m)).map (cut m)
theorem upto_nil (m : Int) : uptoS [] m = [] := rfl
theorem upto_len (l : List Sy) (m : Int) : (uptoS l m).length ≤ l.length := by
  rw [uptoS, List.length_map]
  exact List.length_filter_le ..
theorem upto_snoc (A : List Sy) (s : Sy) (m : Int) : uptoS (A ++ [s]) m = uptoS A m ++ if s.frm < m then [cut m s] else [] := by
  unfold uptoS
  rw [List.filter_append, List.map_append]
  by_cases h : s.frm < m
  · rw [if_pos h]
    simp [h]
  · rw [if_neg h]
    simp [h]
/-- Stays that ended, none of them behind a minute, stay whole. -/
theorem upto_whole {A : List Sy} {e m : Int} (h : Shut A) (he : Ends A e) (hm : e ≤ m) : uptoS A m = A := by
  have h1 := shut_le h he
  unfold uptoS
  have h2 : A.filter (fun s => decide (s.frm < m)) = A := by
    rw [List.filter_eq_self]
    intro s hs
    have := h1 s hs
    rw [decide_eq_true_eq]
    omega
  rw [h2]
  have h3 : ∀ s ∈ A, cut m s = id s := by
    intro s hs
    have h4 := h1 s hs
    have h5 : 0 ≤ s.frm := by
      obtain ⟨i, hi⟩ := List.mem_iff_getElem?.1 hs
      exact (h i s hi).2.1
    unfold cut
    rw [if_neg (by omega)]
    rfl
  rw [List.map_congr_left h3, List.map_id]
theorem upto_until {l : List Sy} {now : Int} (h : May l now) : uptoS l now = untilS l now := by
  rcases ends_of l with rfl | ⟨A, s, rfl⟩
  · rfl
  · obtain ⟨h1, h2, h3, h4, h5⟩ := right_snoc.1 h.1
    have h0 := h.2.1
    rw [upto_snoc]
    rcases may_last h with ⟨e, hf⟩ | e
    · rw [upto_whole h1 h5 hf]
      by_cases hn : s.frm < now
      · rw [until_cut e hn, if_pos hn, cut, if_pos (.inl e)]
      · rw [until_drop e hn, if_neg hn, List.append_nil]
    · have hne : s.to ≠ -1 := by omega
      have hn : s.frm < now := by
        rcases h4 with h4 | h4
        · omega
        · exact absurd h4 hne
      rw [upto_whole h1 h5 (by omega), if_pos hn, until_shut hne, cut, if_neg (by omega)]
/-- As the program finds them: all up to a place, the last one cut. -/
def cutL (l : List Sy) (k : Nat) (m : Int) : List Sy := if h : 0 < k ∧ k ≤ l.length then l.take (k - 1) ++ [cut m (l[k - 1]'(by omega))] else []
theorem rights_up {l : List Sy} (h : Right l) {i : Nat} {a b : Sy} (ha : l[i]? = some a) (hb : l[i + 1]? = some b) : a.frm < b.frm ∧ a.to = b.frm ∧ a.to ≠ -1 := by
  have h1 := h i a ha
  have h2 := h (i + 1) b hb
  have h3 := h1.2.2.2 b hb
  have h4 := h2.2.1
  rcases h1.2.2.1 with h5 | h5
  · omega
  · omega
theorem upto_take {l : List Sy} (h : Right l) (m : Int) : ∀ k, k ≤ l.length → (∀ i s, i < k → l[i]? = some s → s.frm < m) → uptoS (l.take k) m = cutL l k m
  | 0, _, _ => by
    rw [cutL, dif_neg (by omega)]
    rfl
  | k + 1, hk, hlt => by
    have hk' : k < l.length := by omega
    rw [cutL, dif_pos ⟨by omega, hk⟩]
    have e := List.getElem?_eq_getElem hk'
    rw [List.take_add_one, e, Option.toList_some, upto_snoc, if_pos (hlt k _ (by omega) e)]
    have e2 : k + 1 - 1 = k := rfl
    simp only [e2]
    congr 1
    -- what stands ahead ended, and stays whole
    have hs : Shut (l.take k) ∧ Ends (l.take k) l[k].frm := by
      have h1 : Right (l.take (k + 1)) := by
        intro i s hs
        have hi : i < k + 1 := by
          have := (List.getElem?_eq_some_iff.1 hs).1
          rw [List.length_take] at this
          omega
        rw [List.getElem?_take_of_lt hi] at hs
        obtain ⟨a1, a2, a3, a4⟩ := h i s hs
        refine ⟨a1, a2, ?_, fun t ht => ?_⟩
        · rcases a3 with a3 | a3
          · exact .inl a3
          · refine .inr ⟨a3.1, ?_⟩
            rw [List.length_take]
            omega
        · have hi2 : i + 1 < k + 1 := by
            have := (List.getElem?_eq_some_iff.1 ht).1
            rw [List.length_take] at this
            omega
          rw [List.getElem?_take_of_lt hi2] at ht
          exact a4 t ht
      rw [List.take_add_one, e, Option.toList_some] at h1
      have := right_snoc.1 h1
      exact ⟨this.1, this.2.2.2.2⟩
    exact upto_whole hs.1 hs.2 (by have := hlt k _ (by omega) e; omega)
theorem rights_le {l : List Sy} (h : Right l) {i : Nat} {a : Sy} (ha : l[i]? = some a) : ∀ d b, l[i + d]? = some b → a.frm ≤ b.frm
  | 0, b, hb => by
    rw [Nat.add_zero, ha] at hb
    rw [← Option.some.inj hb]
    exact Int.le_refl _
  | d + 1, b, hb => by
    have hlt := (List.getElem?_eq_some_iff.1 hb).1
    have hd : i + d < l.length := by omega
    have h1 := rights_le h ha d _ (List.getElem?_eq_getElem hd)
    have h2 := rights_up h (List.getElem?_eq_getElem hd) hb
    omega
/-- Where the first one stands that is not ahead of a minute, the stays up to it end. -/
theorem upto_stop {l : List Sy} (h : Right l) (m : Int) {k : Nat} (hk : k ≤ l.length) (h0 : ∀ s, l[k]? = some s → m ≤ s.frm) : uptoS l m = uptoS (l.take k) m := by
  have h1 : uptoS (l.drop k) m = [] := by
    unfold uptoS
    have h2 : (l.drop k).filter (fun s => decide (s.frm < m)) = [] := by
      rw [List.filter_eq_nil_iff]
      intro s hs
      obtain ⟨j, hj⟩ := List.mem_iff_getElem?.1 hs
      rw [List.getElem?_drop] at hj
      have hkl : k < l.length := by
        have := (List.getElem?_eq_some_iff.1 hj).1
        omega
      have e := List.getElem?_eq_getElem hkl
      have h3 := h0 _ e
      have h4 := rights_le h e j s hj
      rw [decide_eq_true_eq]
      omega
    rw [h2]
    rfl
  have h2 : uptoS l m = uptoS (l.take k) m ++ uptoS (l.drop k) m := by
    unfold uptoS
    rw [← List.map_append, ← List.filter_append, List.take_append_drop]
  rw [h2, h1, List.append_nil]
/-- What stays up to a minute have, added. -/
def sumS (l : List Sy) : Int := l.foldl (fun n s => n + (s.to - s.frm)) 0
theorem sum_snoc (A : List Sy) (s : Sy) : sumS (A ++ [s]) = sumS A + (s.to - s.frm) := by simp [sumS]
theorem rev_ind {P : List Sy → Prop} (h0 : P []) (h1 : ∀ A s, P A → P (A ++ [s])) (l : List Sy) : P l := by
  have : ∀ k : List Sy, P k.reverse := by
    intro k
    induction k with
    | nil => exact h0
    | cons s k ih =>
      rw [List.reverse_cons]
      exact h1 _ _ ih
  have h := this l.reverse
  rwa [List.reverse_reverse] at h
theorem sum_upto (l : List Sy) (m : Int) : sumS (uptoS l m) = minutesS l m := by
  refine rev_ind (P := fun l => sumS (uptoS l m) = minutesS l m) rfl (fun A s ih => ?_) l
  rw [upto_snoc, minutes_snoc, ← ih]
  by_cases h : s.frm < m
  · rw [if_pos h, sum_snoc, minS, if_pos h, cut]
    by_cases hc : s.to = -1 ∨ m < s.to
    · rw [if_pos hc, if_pos hc]
    · rw [if_neg hc, if_neg hc]
  · rw [if_neg h, minS, if_neg h, List.append_nil, Int.add_zero]
/-- Stays that ended have at most as many minutes as lie ahead of their end. -/
theorem sum_shut : ∀ (l : List Sy), Shut l → 0 ≤ sumS l ∧ ∀ s, l.getLast? = some s → sumS l ≤ s.to := by
  intro l
  refine rev_ind (P := fun l => Shut l → 0 ≤ sumS l ∧ ∀ s, l.getLast? = some s → sumS l ≤ s.to) (fun _ => ⟨Int.le_refl _, fun s h => by cases h⟩) (fun A s ih h => ?_) l
  obtain ⟨h1, h2, h3, h4, h5⟩ := shut_snoc.1 h
  obtain ⟨i1, i2⟩ := ih h1
  rw [sum_snoc]
  have h6 : sumS A ≤ s.frm := by
    cases hl : A.getLast? with
    | none =>
      rw [List.getLast?_eq_none_iff] at hl
      subst hl
      exact h3
    | some t =>
      have := i2 t hl
      have := h5 t hl
      omega
  refine ⟨by omega, fun t ht => ?_⟩
  rw [List.getLast?_concat] at ht
  rw [← Option.some.inj ht]
  omega
theorem upto_mem {l : List Sy} {m : Int} {s : Sy} (h : s ∈ uptoS l m) : ∃ t ∈ l, t.frm < m ∧ s = cut m t := by
  unfold uptoS at h
  obtain ⟨t, ht, e⟩ := List.mem_map.1 h
  rw [List.mem_filter, decide_eq_true_eq] at ht
  exact ⟨t, ht.1, ht.2, e.symm⟩
/-- The stays up to a minute all ended, at most there. -/
theorem upto_shut {l : List Sy} (h : Right l) (m : Int) : Shut (uptoS l m) := by
  refine rev_ind (P := fun l => Right l → Shut (uptoS l m)) (fun _ => shut_nil) (fun A s ih h => ?_) l h
  obtain ⟨h1, h2, h3, h4, h5⟩ := right_snoc.1 h
  rw [upto_snoc]
  by_cases hn : s.frm < m
  · rw [if_pos hn, upto_whole h1 h5 (by omega)]
    by_cases hc : s.to = -1 ∨ m < s.to
    · rw [cut, if_pos hc]
      exact shut_snoc.2 ⟨h1, h2, h3, hn, h5⟩
    · rw [cut, if_neg hc]
      refine shut_snoc.2 ⟨h1, h2, h3, ?_, h5⟩
      rcases h4 with h4 | h4
      · exact h4
      · exact absurd (.inl h4) hc
  · rw [if_neg hn, List.append_nil]
    exact ih (shut_right h1)
theorem upto_to {l : List Sy} {m : Int} {s : Sy} (h : s ∈ uptoS l m) : s.to ≤ m ∧ s.frm < m := by
  obtain ⟨t, _, h1, rfl⟩ := upto_mem h
  unfold cut
  split
  · exact ⟨Int.le_refl _, by assumption⟩
  · exact ⟨by omega, by assumption⟩
/-- Part of what stays up to a minute have, added, is between 0 and that minute. -/
theorem sum_part {l : List Sy} (h : Right l) (m : Int) (k : Nat) : 0 ≤ sumS ((uptoS l m).take k) ∧ (sumS ((uptoS l m).take k) ≤ m ∨ sumS ((uptoS l m).take k) = 0) := by
  have h1 : Shut ((uptoS l m).take k) := by
    have h0 := upto_shut h m
    intro i s hs
    have hi : i < k := by
      have := (List.getElem?_eq_some_iff.1 hs).1
      rw [List.length_take] at this
      omega
    rw [List.getElem?_take_of_lt hi] at hs
    obtain ⟨a1, a2, a3, a4⟩ := h0 i s hs
    refine ⟨a1, a2, a3, fun t ht => ?_⟩
    have hi2 : i + 1 < k := by
      have := (List.getElem?_eq_some_iff.1 ht).1
      rw [List.length_take] at this
      omega
    rw [List.getElem?_take_of_lt hi2] at ht
    exact a4 t ht
  obtain ⟨h2, h3⟩ := sum_shut _ h1
  refine ⟨h2, ?_⟩
  cases hl : ((uptoS l m).take k).getLast? with
  | none =>
    right
    rw [List.getLast?_eq_none_iff] at hl
    rw [hl]
    rfl
  | some s =>
    left
    have h4 := h3 s hl
    have h5 := (upto_to (List.mem_of_mem_take (List.mem_of_getLast? hl))).1
    omega
/-- As the program tells them: of stays that may not be nothing. -/
def uptoV (S : List Sy) (m : Int) : List Sy := if rightB S = true then uptoS S m else []
def minutesV (S : List Sy) (m : Int) : Int := if rightB S = true then minutesS S m else 0
def zoneV (S : List Sy) (m : Int) : Int := if rightB S = true then zoneS S m else 0
end Go.Proofs.Ytehiclmkdpcplaa.Sy

namespace Go.Proofs.Ytehiclmkdpcplaa.Lg
open Se Ex

/-- A zone: its worst and gap, its readings in order. -/
structure Zl where
  id : Int
  wo : Int
  ga : Int
  S : List Rd
/-- Its place; none: there is none. -/
def atZ (id : Int) : List Zl → Option Nat
  | [] => none
  | x :: l => if x.id = id then some 0 else (atZ id l).map (· + 1)
theorem at_some {id : Int} : ∀ {l : List Zl} {i : Nat}, atZ id l = some i → ∃ x, l[i]? = some x ∧ x.id = id
  | [], i, h => by simp [atZ] at h
  | x :: l, i, h => by
    unfold atZ at h
    by_cases hx : x.id = id
    · rw [if_pos hx] at h
      rw [← Option.some.inj h]
      exact ⟨x, rfl, hx⟩
    · rw [if_neg hx, Option.map_eq_some_iff] at h
      obtain ⟨j, hj, rfl⟩ := h
      obtain ⟨y, hy, e⟩ := at_some hj
      exact ⟨y, by rw [List.getElem?_cons_succ]; exact hy, e⟩
theorem at_none {id : Int} : ∀ {l : List Zl}, atZ id l = none ↔ ∀ x ∈ l, x.id ≠ id
  | [] => by simp [atZ]
  | x :: l => by
    unfold atZ
    by_cases hx : x.id = id
    · rw [if_pos hx]
      simp [hx]
    · rw [if_neg hx, Option.map_eq_none_iff, at_none]
      simp [hx]
theorem at_first {id : Int} : ∀ {l : List Zl} {i : Nat} {x : Zl}, l[i]? = some x → x.id = id → (∀ y ∈ l.take i, y.id ≠ id) → atZ id l = some i
  | [], i, x, h, _, _ => by simp at h
  | y :: l, 0, x, h, e, _ => by
    rw [List.getElem?_cons_zero] at h
    rw [Option.some.inj h, atZ, if_pos e]
  | y :: l, i + 1, x, h, e, hn => by
    rw [List.getElem?_cons_succ] at h
    rw [List.take_succ_cons] at hn
    rw [atZ, if_neg (hn y (by simp)), at_first h e (fun z hz => hn z (List.mem_cons_of_mem _ hz))]
    rfl
theorem at_lt {id : Int} {l : List Zl} {i : Nat} (h : atZ id l = some i) : i < l.length := by
  obtain ⟨x, hx, _⟩ := at_some h
  exact (List.getElem?_eq_some_iff.1 hx).1
/-- Its place, as a number. -/
def atI (id : Int) (l : List Zl) : Int := match atZ id l with
  | some i => (i : Nat)
  | none => -1
theorem atI_some {id : Int} {l : List Zl} {i : Nat} (h : atZ id l = some i) : atI id l = (i : Nat) := by unfold atI; rw [h]
theorem atI_none {id : Int} {l : List Zl} (h : atZ id l = none) : atI id l = -1 := by unfold atI; rw [h]
theorem at_set {id : Int} {x x' : Zl} (he : x'.id = x.id) : ∀ {l : List Zl} {i : Nat}, l[i]? = some x → atZ id (l.set i x') = atZ id l
  | [], i, h => by simp at h
  | y :: l, 0, h => by
    rw [List.getElem?_cons_zero] at h
    rw [List.set_cons_zero, atZ, atZ, he, Option.some.inj h]
  | y :: l, i + 1, h => by
    rw [List.getElem?_cons_succ] at h
    rw [List.set_cons_succ, atZ, atZ, at_set he h]
/-- A zone comes: the error, what is there then. -/
def addZ (l : List Zl) (z : Ms.Zn) : Nat × List Zl :=
  if z.id < 1 ∨ mayB z.worst z.gap = false then (1, l) else match atZ z.id l with
    | some _ => (6, l)
    | none => (0, l ++ [⟨z.id, z.worst, z.gap, []⟩])
/-- A reading is put. -/
def putZ (l : List Zl) (zone : Int) (r : Rd) : (Bool × Nat) × List Zl := match atZ zone l with
  | none => ((false, 5), l)
  | some i => match l[i]? with
    | none => ((false, 5), l)
    | some x => (((putR x.S r).1, (putR x.S r).2.1), l.set i { x with S := sortL (putR x.S r).2.2 })
/-- The sum of a zone's series over a limit. -/
def totV (lim : Int) (x : Zl) (a b : Int) : Int := if tenB lim = true then tot x.wo x.ga lim x.S a b else 0
/-- What a stay adds. -/
def stepE (l : List Zl) (lim : Int) (o : Int) (t : Sy.Sy) : Int := match atZ t.zone l with
  | none => o
  | some i => match l[i]? with
    | none => o
    | some x => St.St.cap (St.St.fit o + St.St.fit (totV lim x t.frm t.to))
/-- The exposure of stays over a limit, up to a minute. -/
def expo (l : List Zl) (lim : Int) (S : List Sy.Sy) (m : Int) : Int := (Sy.uptoV S m).foldl (stepE l lim) 0
def airZ (l : List Zl) (zone m : Int) : Int × Nat := match atZ zone l with
  | none => (0, 5)
  | some i => match l[i]? with
    | none => (0, 5)
    | some x => (air x.wo x.ga x.S m, 0)
def readZ (l : List Zl) (zone : Int) : List Rd := match atZ zone l with
  | none => []
  | some i => match l[i]? with
    | none => []
    | some x => x.S
/-- A zone as it may be. -/
structure GoodZ (x : Zl) (m : Nat) : Prop where
  may : mayB x.wo x.ga = true
  sorted : Sorted x.S
  right : ∀ r ∈ x.S, rightB r = true
  len : x.S.length ≤ m
theorem GoodZ.mono {x : Zl} {m k : Nat} (h : GoodZ x m) (hk : m ≤ k) : GoodZ x k := ⟨h.may, h.sorted, h.right, Nat.le_trans h.len hk⟩
def Good (l : List Zl) (m : Nat) : Prop := ∀ x ∈ l, GoodZ x m
theorem good_nil (m : Nat) : Good [] m := fun x hx => by simp at hx
theorem Good.mono {l : List Zl} {m k : Nat} (h : Good l m) (hk : m ≤ k) : Good l k := fun x hx => (h x hx).mono hk
theorem good_add {l : List Zl} {m : Nat} (h : Good l m) (z : Ms.Zn) : Good (addZ l z).2 m := by
  unfold addZ
  split
  · exact h
  · rename_i hz
    split
    · exact h
    · intro x hx
      rcases List.mem_append.1 hx with hx | hx
      · exact h x hx
      · rw [List.mem_singleton.1 hx]
        refine ⟨?_, List.Pairwise.nil, fun r hr => by simp at hr, Nat.zero_le _⟩
        cases hm : mayB z.worst z.gap with
        | true => rfl
        | false => exact absurd (.inr hm) hz
theorem add_len (l : List Zl) (z : Ms.Zn) : (addZ l z).2.length ≤ l.length + 1 := by
  unfold addZ
  split
  · exact Nat.le_succ _
  · split
    · exact Nat.le_succ _
    · simp
theorem putR_ok {S : List Rd} {m : Nat} (hs : Sorted S) (hr : ∀ r ∈ S, rightB r = true) (hl : S.length ≤ m) (r : Rd) : Sorted (sortL (putR S r).2.2) ∧ (∀ x ∈ sortL (putR S r).2.2, rightB x = true) ∧ (sortL (putR S r).2.2).length ≤ m + 1 := by
  rw [len_sort]
  unfold putR
  split
  · rename_i hR
    exact ⟨sorted_sort (put_apart (sorted_apart hs) r), fun x hx => put_right hr hR x ((mem_sort _ x).1 hx), Nat.le_trans (put_len S r) (by omega)⟩
  · exact ⟨sorted_sort (sorted_apart hs), fun x hx => hr x ((mem_sort _ x).1 hx), by simp only; omega⟩
theorem good_put {l : List Zl} {m : Nat} (h : Good l m) (zone : Int) (r : Rd) : Good (putZ l zone r).2 (m + 1) := by
  unfold putZ
  split
  · exact h.mono (Nat.le_succ _)
  · split
    · exact h.mono (Nat.le_succ _)
    · rename_i x hx
      intro y hy
      rcases List.mem_or_eq_of_mem_set hy with hy | rfl
      · exact (h y hy).mono (Nat.le_succ _)
      · have g := h x (List.mem_of_getElem? hx)
        obtain ⟨h1, h2, h3⟩ := putR_ok g.sorted g.right g.len r
        exact ⟨g.may, h1, h2, h3⟩
theorem put_length (l : List Zl) (zone : Int) (r : Rd) : (putZ l zone r).2.length = l.length := by
  unfold putZ
  split
  · rfl
  · split
    · rfl
    · simp
/-- The readings that lie in another order. -/
theorem putR_like {S L : List Rd} (hs : Apart S) (hl : Apart L) (h : Like S L) (r : Rd) : (putR S r).1 = (putR L r).1 ∧ (putR S r).2.1 = (putR L r).2.1 ∧ Like (sortL (putR S r).2.2) (putR L r).2.2 ∧ Apart (putR L r).2.2 := by
  unfold putR
  split
  · exact ⟨like_fst hs hl h r, rfl, fun x => (mem_sort _ x).trans (like_put hs hl h r x), put_apart hl r⟩
  · exact ⟨rfl, rfl, fun x => (mem_sort _ x).trans (h x), hl⟩
theorem expo_nn {l : List Zl} {lim : Int} : ∀ (U : List Sy.Sy) (o : Int), 0 ≤ o → o ≤ 4611686018427387904 → 0 ≤ U.foldl (stepE l lim) o ∧ U.foldl (stepE l lim) o ≤ 4611686018427387904
  | [], o, h0, h1 => ⟨h0, h1⟩
  | t :: U, o, h0, h1 => by
    rw [List.foldl_cons]
    have key : 0 ≤ stepE l lim o t ∧ stepE l lim o t ≤ 4611686018427387904 := by
      unfold stepE
      split
      · exact ⟨h0, h1⟩
      · split
        · exact ⟨h0, h1⟩
        · exact St.St.cap_bd (by have a := St.St.fit_bd o; rename_i x _; have b := St.St.fit_bd (totV lim x t.frm t.to); omega)
    exact expo_nn U _ key.1 key.2
end Go.Proofs.Ytehiclmkdpcplaa.Lg

namespace Go.Proofs.Ytehiclmkdpcplaa
open Go.RowKit

namespace Se
def rval (r : Rd) : Value := .agg #[.int .i64 r.min, .int .i64 r.seq, .int .i64 r.ten]
def rcells (r : Rd) : List Value := [.int .i64 r.min, .int .i64 r.seq, .int .i64 r.ten]
theorem rcells_len (r : Rd) : (rcells r).length = 3 := rfl
theorem rten_any (t : Int) (w : World) : Calls Try.prog 48 #[.int .i64 t] w fun e w' => e = .returned (.bool (tenB t)) ∧ w = w' := by
  unfold tenB
  by_cases h1 : -1099511627776 ≤ t
  · by_cases h2 : t ≤ 1099511627776
    · rw [decide_eq_true (show _ ∧ _ from ⟨h1, h2⟩)]
      go_enter Try.func48, Try.ntmps48
      go_wp2
      go_ret
      exact ⟨rfl, rfl⟩
    · rw [decide_eq_false (show ¬ (_ ∧ _) from fun h => h2 h.2)]
      have h2' : 1099511627776 < t := by omega
      go_enter Try.func48, Try.ntmps48
      go_wp2
      go_ret
      exact ⟨rfl, rfl⟩
  · rw [decide_eq_false (show ¬ (_ ∧ _) from fun h => h1 h.1)]
    have h1' : t < -1099511627776 := by omega
    go_enter Try.func48, Try.ntmps48
    go_wp2
    go_ret
    exact ⟨rfl, rfl⟩
set_option maxRecDepth 100000 in
set_option maxHeartbeats 1000000 in
theorem rright_any (r : Rd) (w : World) : Calls Try.prog 39 #[rval r] w fun e w' => e = .returned (.bool (rightB r)) ∧ Below w.heap.size w w' := by
  have T := Lib.hid (fun W => rten_any r.ten W)
  have E : rightB r = (tenB r.ten && decide (0 ≤ r.min) && decide (r.min ≤ 1048575) && decide (0 ≤ r.seq) && decide (r.seq ≤ 65535)) := by
    rw [Bool.eq_iff_iff]
    simp [rightB, tenB]
    omega
  rw [E]
  clear E
  generalize tenB r.ten = t at *
  obtain ⟨m, s, u⟩ := r
  unfold rval
  simp only
  by_cases h1 : 0 ≤ m
  · by_cases h2 : m ≤ 1048575
    · by_cases h3 : 0 ≤ s
      · rw [decide_eq_true h1, decide_eq_true h2, decide_eq_true h3]
        go_enter Try.func39, Try.ntmps39
        go_wp2_with fail
        refine (T.out _).mono ?_
        rintro e w1 ⟨rfl, rfl⟩
        cases t
        all_goals
          go_wp2
          go_ret
          exact ⟨rfl, alloc_below w _⟩
      · have h3' : s < 0 := by omega
        rw [decide_eq_false h3, Bool.and_false, Bool.false_and]
        go_enter Try.func39, Try.ntmps39
        go_wp2_with fail
        refine (T.out _).mono ?_
        rintro e w1 ⟨rfl, rfl⟩
        cases t
        all_goals
          go_wp2
          go_ret
          exact ⟨rfl, alloc_below w _⟩
    · have h2' : 1048575 < m := by omega
      rw [decide_eq_false h2, Bool.and_false, Bool.false_and, Bool.false_and]
      go_enter Try.func39, Try.ntmps39
      go_wp2_with fail
      refine (T.out _).mono ?_
      rintro e w1 ⟨rfl, rfl⟩
      cases t
      all_goals
        go_wp2
        go_ret
        exact ⟨rfl, alloc_below w _⟩
  · have h1' : m < 0 := by omega
    rw [decide_eq_false h1, Bool.and_false, Bool.false_and, Bool.false_and, Bool.false_and]
    go_enter Try.func39, Try.ntmps39
    go_wp2_with fail
    refine (T.out _).mono ?_
    rintro e w1 ⟨rfl, rfl⟩
    cases t
    all_goals
      go_wp2
      go_ret
      exact ⟨rfl, alloc_below w _⟩
theorem rmay_any (a b : Int) (w : World) : Calls Try.prog 36 #[.int .i64 a, .int .i64 b] w fun e w' => e = .returned (.bool (mayB a b)) ∧ w = w' := by
  have T := Lib.hid (fun W => rten_any a W)
  have E : mayB a b = (tenB a && decide (0 ≤ b) && decide (b ≤ 1048575)) := by
    rw [Bool.eq_iff_iff]
    simp [mayB, tenB]
    omega
  rw [E]
  clear E
  generalize tenB a = t at *
  by_cases h1 : 0 ≤ b
  · rw [decide_eq_true h1]
    go_enter Try.func36, Try.ntmps36
    go_wp2_with fail
    refine (T.out _).mono ?_
    rintro e w1 ⟨rfl, rfl⟩
    cases t
    all_goals
      go_wp2
      go_ret
      exact ⟨rfl, rfl⟩
  · have h1' : b < 0 := by omega
    rw [decide_eq_false h1, Bool.and_false, Bool.false_and]
    go_enter Try.func36, Try.ntmps36
    go_wp2_with fail
    refine (T.out _).mono ?_
    rintro e w1 ⟨rfl, rfl⟩
    cases t
    all_goals
      go_wp2
      go_ret
      exact ⟨rfl, rfl⟩
set_option maxRecDepth 100000 in
set_option maxHeartbeats 1000000 in
theorem rahead_any (a b : Rd) (w : World) : Calls Try.prog 54 #[rval a, rval b] w fun e w' => e = .returned (.bool (ltB a b)) ∧ Below w.heap.size w w' := by
  have hlt : ltB a b = (decide (a.min < b.min) || (decide (a.min = b.min) && decide (a.seq < b.seq))) := by
    rw [Bool.eq_iff_iff]
    unfold ltB
    rw [decide_eq_true_iff]
    unfold lt
    simp only [decide_eq_true_eq, Bool.or_eq_true, Bool.and_eq_true]
  have HL := Lib.hid hlt
  clear hlt
  obtain ⟨m, s, t⟩ := a
  obtain ⟨n, u, v⟩ := b
  simp only at HL
  have B := Lib.hid ((alloc_below w (.cells #[.int .i64 m, .int .i64 s, .int .i64 t] 37)).alloc (size_alloc _ _) (.cells #[.int .i64 n, .int .i64 u, .int .i64 v] 37))
  unfold rval
  simp only
  by_cases h1 : m < n
  · have E := Lib.hid (show ltB ⟨m, s, t⟩ ⟨n, u, v⟩ = true by rw [HL.out, decide_eq_true h1]; rfl)
    go_enter Try.func54, Try.ntmps54
    go_wp2
    go_ret
    exact ⟨by rw [E.out]; rfl, B.out⟩
  · by_cases h2 : m = n
    · subst h2
      have E := Lib.hid (show ltB ⟨m, s, t⟩ ⟨m, u, v⟩ = decide (s < u) by rw [HL.out, decide_eq_false h1, decide_eq_true rfl]; simp)
      have t1 : decide (m < m) = false := by simp
      go_enter Try.func54, Try.ntmps54
      go_wp2
      all_goals
        go_ret
        exact ⟨by rw [E.out]; rfl, B.out⟩
    · have E := Lib.hid (show ltB ⟨m, s, t⟩ ⟨n, u, v⟩ = false by rw [HL.out, decide_eq_false h1, decide_eq_false h2]; rfl)
      have t2 : (m == n) = false := by simp [h2]
      clear h2
      go_enter Try.func54, Try.ntmps54
      go_wp2
      go_ret
      exact ⟨by rw [E.out]; rfl, B.out⟩
end Se
end Go.Proofs.Ytehiclmkdpcplaa

namespace Go.Proofs.Ytehiclmkdpcplaa
open Go.RowKit

namespace Se
theorem infoR : (Try.prog.info? 37).map (fun i => (i.zero, i.size, i.bytes)) = some (some (.agg #[.int .i64 0, .int .i64 0, .int .i64 0]), 3, 24) := by kernel_rfl
/-- The document's series: at block g, its readings' slice v. -/
def RSer (w : World) (B g : Nat) (v : Value) (wo ga : Int) (L : List Rd) : Prop :=
  B ≤ g ∧ Lies w g 83 #[.int .i64 wo, .int .i64 ga, v] ∧ w.ownsRow B 37 3 v L.length (L.flatMap rcells)
theorem RSer.turn {w w' : World} {B g : Nat} {v : Value} {wo ga : Int} {L : List Rd} {S : Nat → Prop} (h : RSer w B g v wo ga L) (ht : Turn S w w') (hs : ∀ k, Feet g v k → ¬ S k) : RSer w' B g v wo ga L :=
  ⟨h.1, h.2.1.turn ht (hs g (.inl rfl)), own_turn h.2.2 ht (fun k hk => hs k (.inr hk))⟩
theorem RSer.foot {w : World} {B g : Nat} {v : Value} {wo ga : Int} {L : List Rd} (h : RSer w B g v wo ga L) {k : Nat} (hk : Feet g v k) : B ≤ k ∧ k < w.heap.size := by
  rcases hk with rfl | hk
  · exact ⟨h.1, h.2.1.lt⟩
  · exact own_lt h.2.2 hk
theorem RSer.below {w w' : World} {B g : Nat} {v : Value} {wo ga : Int} {L : List Rd} (h : RSer w B g v wo ga L) (hb : Below w.heap.size w w') : RSer w' B g v wo ga L :=
  h.turn (S := fun _ => False) (Turn.of_below hb) (fun _ _ hf => hf)
/-- What a call leaves that writes. -/
def RPut (w : World) (B g : Nat) (v : Value) (wo ga : Int) (L : List Rd) (w' : World) : Prop :=
  ∃ v', RSer w' B g v' wo ga L ∧ Turn (Feet g v) w w' ∧ ∀ b, v'.ownBlock = some b → v.ownBlock = some b ∨ w.heap.size ≤ b
theorem rput_below {w wi w' : World} {B g : Nat} {v : Value} {wo ga : Int} {L L' : List Rd} (hp : RSer wi B g v wo ga L) (hb : Below B w wi) (h : RPut wi B g v wo ga L' w') : ∃ v', RSer w' B g v' wo ga L' ∧ Below B w w' := by
  obtain ⟨v', hp', ht, _⟩ := h
  exact ⟨v', hp', ht.below hb (Nat.le_trans hp.1 (Nat.le_of_lt (hp.foot (.inl rfl)).2)) (fun i hi => (hp.foot hi).1)⟩
set_option maxRecDepth 100000 in
set_option maxHeartbeats 1000000 in
theorem rput_no (B g : Nat) (v : Value) (wo ga : Int) (L : List Rd) (r : Rd) (w : World) (h : RSer w B g v wo ga L) (hr : rightB r = false) :
    Calls Try.prog 24 #[.pointer (some ⟨g, 0, none⟩), rval r] w fun e w' => e = .returned (.tuple #[.bool false, .int .i64 1]) ∧ RPut w B g v wo ga L w' := by
  have R := Lib.hid (fun W => rright_any r W)
  rw [hr] at R
  have H := Lib.hid h
  have B0 := Lib.hid (alloc_below w (.cells #[.int .i64 r.min, .int .i64 r.seq, .int .i64 r.ten] 37))
  clear h hr
  obtain ⟨m, s, t⟩ := r
  unfold rval at *
  simp only at *
  go_enter Try.func24, Try.ntmps24
  go_wp2_with fail
  refine (R.out _).mono ?_
  rintro e w1 ⟨rfl, hb⟩
  have B1 := Lib.hid (B0.out.trans (hb.mono B0.out.size))
  clear hb
  go_wp2
  go_ret2
  exact ⟨rfl, v, H.out.below B1.out, Turn.of_below B1.out, fun _ h => .inl h⟩
theorem rput_same {w w1 : World} {B g : Nat} {v : Value} {wo ga : Int} {L : List Rd} (hb : Below w.heap.size w w1) (h : RSer w1 B g v wo ga L) (j : Nat) : RPut w B g v wo ga L (w1.drewN j) :=
  ⟨_, h.turn (S := fun _ => False) (turn_drewN _ _ _) (fun _ _ hf => hf), (Turn.of_below hb).drewN j, fun _ h => .inl h⟩
theorem rput_set {w w1 : World} {B g b n d k : Nat} {wo ga t : Int} {L : List Rd} {x : Rd} (hb : Below w.heap.size w w1) (h : RSer w1 B g (.slice (some ⟨b, 0, none⟩) n d) wo ga L) (hx : L[k]? = some x) (j : Nat) :
    RPut w B g (.slice (some ⟨b, 0, none⟩) n d) wo ga (L.set k ⟨x.min, x.seq, t⟩) ((w1.drewN j).setCell ⟨b, k * 3 + 2, none⟩ (.int .i64 t)) := by
  have hne : b ≠ g := fun e => own_blk_ne h.2.2 h.2.1 (by decide) (by rw [e]; rfl)
  have h' : RSer (w1.drewN j) B g (.slice (some ⟨b, 0, none⟩) n d) wo ga L := h.turn (S := fun _ => False) (turn_drewN _ _ _) (fun _ _ hf => hf)
  have ht : Turn (fun k => k = b) (w1.drewN j) ((w1.drewN j).setCell ⟨b, k * 3 + 2, none⟩ (.int .i64 t)) := (Turn.refl (fun k => k = b) _).setCell (p := ⟨b, k * 3 + 2, none⟩) (.inl rfl) _
  refine ⟨_, ⟨h.1, h'.2.1.turn ht (fun e => hne e.symm), ?_⟩, ((Turn.of_below hb).drewN j).setCell (p := ⟨b, k * 3 + 2, none⟩) (.inl (.inr rfl)) _, fun _ h => .inl h⟩
  have e : n = L.length := by
    rcases h.2.2.2 with ⟨e, _⟩ | ⟨_, _, _, e, _⟩
    · cases e
    · cases e
      rfl
  subst e
  rw [List.length_set]
  exact row_store rcells_len h'.2.2 hx (i := 2) (by decide) rfl
theorem rput_app {w wr w2 : World} {B g gg cap : Nat} {v : Value} {wo ga : Int} {L : List Rd} {r : Rd} (hb : Below w.heap.size w wr) (h : RSer wr B g v wo ga L)
    (hown : w2.ownsRow B 37 3 (.slice (some ⟨gg, 0, none⟩) (L.length + 1) cap) (L.length + 1) (L.flatMap rcells ++ [.int .i64 r.min, .int .i64 r.seq, .int .i64 r.ten]))
    (hg : (wr.alloc (.cells #[.int .i64 r.min, .int .i64 r.seq, .int .i64 r.ten] 37)).drew.grownBy w2 v.ownBlock) (hat : v.ownBlock = some gg ∨ gg = wr.heap.size + 1)
    (fb : Lies w2 g 83 #[.int .i64 wo, .int .i64 ga, v]) :
    RPut w B g v wo ga (L ++ [r]) (w2.setCell ⟨g, 2, none⟩ (.slice (some ⟨gg, 0, none⟩) (L.length + 1) cap)) := by
  have hsz := hb.size
  have T1 : Turn (Feet g v) w w2 := (((Turn.of_below hb).alloc _).drew).grown hg (fun k hk => .inl (.inr hk))
  have hne : (gg : Nat) ≠ g := fun e => own_blk_ne hown fb (by decide) (by rw [e]; rfl)
  refine ⟨.slice (some ⟨gg, 0, none⟩) (L.length + 1) cap, ⟨h.1, ?_, ?_⟩, T1.setCell (p := ⟨g, 2, none⟩) (.inl (.inl rfl)) _, ?_⟩
  · simpa using fb.set_ 2 (.slice (some ⟨gg, 0, none⟩) (L.length + 1) cap)
  · rw [List.length_append, ← flat_snoc]
    exact own_turn hown ((Turn.refl (fun k => k = g) w2).setCell (p := ⟨g, 2, none⟩) (.inl rfl) _) (fun k hk e => by
      subst e
      exact hne (by simpa [Value.ownBlock] using hk))
  · intro b hb'
    have e : gg = b := by simpa [Value.ownBlock] using hb'
    subst e
    rcases hat with h | h
    · exact .inl h
    · right
      omega
set_option maxRecDepth 100000 in
set_option maxHeartbeats 4000000 in
theorem rput_yes (B g : Nat) (v : Value) (wo ga : Int) (L : List Rd) (r : Rd) (w : World) (h : RSer w B g v wo ga L) (hr : rightB r = true) (hL : L.length ≤ 1000000) :
    Calls Try.prog 24 #[.pointer (some ⟨g, 0, none⟩), rval r] w fun e w' => e = .returned (.tuple #[.bool (put L r).1, .int .i64 0]) ∧ RPut w B g v wo ga (put L r).2 w' := by
  have R := Lib.hid (fun W => rright_any r W)
  rw [hr] at R
  have H := Lib.hid h
  have B0 := Lib.hid (alloc_below w (.cells #[.int .i64 r.min, .int .i64 r.seq, .int .i64 r.ten] 37))
  have X0 := Lib.hid (Lies.new w 37 #[.int .i64 r.min, .int .i64 r.seq, .int .i64 r.ten])
  obtain ⟨q, d, rfl⟩ := own_slice h.2.2
  clear h hr
  obtain ⟨m, s, t⟩ := r
  unfold rval at *
  simp only at *
  go_enter Try.func24, Try.ntmps24
  go_wp2_with fail
  refine (R.out _).mono ?_
  rintro e w1 ⟨rfl, hb⟩
  have B1 := Lib.hid (B0.out.trans (hb.mono B0.out.size))
  have X1 := X0.out.below hb X0.out.lt
  have H1 := Lib.hid (H.out.below B1.out)
  have k0 : w1.cell? ⟨w.heap.size, 0, none⟩ = some (.int .i64 m) := X1.cell 0
  have k1 : w1.cell? ⟨w.heap.size, 1, none⟩ = some (.int .i64 s) := X1.cell 1
  have k2 : w1.cell? ⟨w.heap.size, 2, none⟩ = some (.int .i64 t) := X1.cell 2
  have c2 : w1.cell? ⟨g, 2, none⟩ = some (.slice q L.length d) := H1.out.2.1.cell 2
  have hL' : (L.length : Int) ≤ 1000000 := by omega
  clear hb X1 X0 B0 R H
  go_wp2_with fail
  go_loopw [7] (fun i wr => ∃ (k n : Nat), k ≤ L.length ∧ i = .int .i64 k ∧ wr = w1.drewN n ∧ Hid (∀ j y, j < k → L[j]? = some y → ¬ one y ⟨m, s, t⟩)) (fun i _ => L.length - (RowKit.intOf i).toNat)
  case atStart => exact ⟨0, 0, Nat.zero_le _, rfl, rfl, Lib.hid (fun j y hj => by omega)⟩
  case round =>
    obtain ⟨k, n, hk, rfl, rfl, HN⟩ := hrel
    by_cases hlt : k < L.length
    · obtain ⟨b, c, e, hBb, hbl, hnc⟩ := own_some H1.out.2.2 (Nat.lt_of_le_of_lt (Nat.zero_le _) hlt)
      cases e
      obtain ⟨x, hx⟩ : ∃ x, L[k]? = some x := ⟨_, List.getElem?_eq_getElem hlt⟩
      have e0 : w1.cell? ⟨b, k * 3, none⟩ = some (.int .i64 x.min) := row_cell rcells_len H1.out.2.2 rfl hx (i := 0) (by decide)
      have e1 : w1.cell? ⟨b, k * 3 + 1, none⟩ = some (.int .i64 x.seq) := row_cell rcells_len H1.out.2.2 rfl hx (i := 1) (by decide)
      have e2 : w1.cell? ⟨b, k * 3 + 2, none⟩ = some (.int .i64 x.ten) := row_cell rcells_len H1.out.2.2 rfl hx (i := 2) (by decide)
      have HX := Lib.hid hx
      clear hx
      have hk3 : (k : Int) < (L.length : Int) := by omega
      by_cases t1 : x.min = m
      · have d1 : (x.min == m) = true := by simp [t1]
        by_cases t2 : x.seq = s
        · have d2 : (x.seq == s) = true := by simp [t2]
          have HO := Lib.hid (show one x ⟨m, s, t⟩ from ⟨t1, t2⟩)
          clear t1 t2
          by_cases t3 : t ≤ x.ten
          · have HE := Lib.hid (show put L ⟨m, s, t⟩ = (false, L) by rw [put_here HX.out HO.out HN.out, if_pos t3])
            go_wp2_with fail
            go_quiet (fail)
            go_wp2_with fail
            go_quiet (fail)
            go_wp2
            go_ret2
            rw [HE.out]
            simp only [World.drewN_drewN]
            exact ⟨rfl, rput_same B1.out H1.out _⟩
          · have t3' : x.ten < t := by omega
            have HE := Lib.hid (show put L ⟨m, s, t⟩ = (true, L.set k ⟨x.min, x.seq, t⟩) by rw [put_here HX.out HO.out HN.out, if_neg t3])
            clear t3
            go_wp2_with fail
            go_quiet (fail)
            go_wp2_with fail
            go_quiet (fail)
            have f2 := H1.out.2.2.frozenAt (k * 3 + 2)
            have RS := Lib.hid (fun j => rput_set B1.out H1.out HX.out (t := t) j)
            go_wp2_with fail
            go_region
            all_goals
              go_wp2
              go_ret2
              rw [HE.out]
              exact ⟨rfl, RS.out _⟩
        · have d2 : (x.seq == s) = false := by simp [t2]
          have HN2 := Lib.hid (show ∀ j y, j < k + 1 → L[j]? = some y → ¬ one y ⟨m, s, t⟩ from fun j y hj hy => by
            by_cases hjk : j < k
            · exact HN.out j y hjk hy
            · obtain rfl : j = k := by omega
              rw [HX.out] at hy
              cases hy
              exact fun h => t2 h.2)
          clear t1 t2
          go_wp2_with fail
          go_quiet (fail)
          go_wp2
          go_roundw
          case rel => exact ⟨k + 1, _, by omega, by go_num, rfl, HN2⟩
          case measure => simp [RowKit.intOf]; omega
      · have d1 : (x.min == m) = false := by simp [t1]
        have HN2 := Lib.hid (show ∀ j y, j < k + 1 → L[j]? = some y → ¬ one y ⟨m, s, t⟩ from fun j y hj hy => by
          by_cases hjk : j < k
          · exact HN.out j y hjk hy
          · obtain rfl : j = k := by omega
            rw [HX.out] at hy
            cases hy
            exact fun h => t1 h.1)
        clear t1
        go_wp2_with fail
        go_quiet (fail)
        go_wp2
        go_roundw
        case rel => exact ⟨k + 1, _, by omega, by go_num, rfl, HN2⟩
        case measure => simp [RowKit.intOf]; omega
    · obtain rfl : k = L.length := by omega
      have HE := Lib.hid (put_end HN.out)
      obtain ⟨wr, hwr⟩ : ∃ wr, w1.drewN n = wr := ⟨_, rfl⟩
      rw [hwr]
      have BR := Lib.hid (show Below w.heap.size w wr by rw [← hwr]; exact below_drewN B1.out n)
      have HR : RSer wr B g (.slice q L.length d) wo ga L := by rw [← hwr]; exact H1.out.turn (S := fun _ => False) (turn_drewN _ _ _) (fun _ _ hf => hf)
      have r0 : wr.cell? ⟨w.heap.size, 0, none⟩ = some (.int .i64 m) := by rw [← hwr]; exact k0
      have r1 : wr.cell? ⟨w.heap.size, 1, none⟩ = some (.int .i64 s) := by rw [← hwr]; exact k1
      have r2 : wr.cell? ⟨w.heap.size, 2, none⟩ = some (.int .i64 t) := by rw [← hwr]; exact k2
      have ho := HR.2.2
      have hbb := HR.2.1
      have hB := HR.1
      have h2 : wr.cell? ⟨g, 2, none⟩ = some (.slice q L.length d) := hbb.cell 2
      have ne : (Value.slice q L.length d).ownBlock ≠ some g := own_blk_ne ho hbb (by decide)
      have lg := hbb.lt
      clear hwr k0 k1 k2 c2 HN hlt H1 B1
      obtain ⟨i0, hi, hz0, hz1, hz2⟩ := info_parts infoR
      go_wp2_with fail
      go_region_law
        ((refine step_append_lies _ (by rfl) _ _ _ (by rfl) B 37 i0 _ 3 24 Try.underlying44 hi hz0 hz1 hz2 rfl (by omega) (.slice q L.length d) L.length (L.flatMap rcells) (by rfl) ((ho.alloc _).drew)
            ⟨wr.heap.size, 0, none⟩ 1 1 [.int .i64 m, .int .i64 s, .int .i64 t] (by rfl) (by rfl) (World.news_of_block (cs := #[.int .i64 m, .int .i64 s, .int .i64 t]) (t := 37) (fr := (0, 0)) (heap_alloc_new wr _)) (by simp [Value.oneCell'])
            (by omega) (by unfold maxLen; omega) (by omega) (by simp; omega) (wr.heap.size + 1) (by simp) ?_; intro gg cap w2 hown1 hgrow hat hlt; have fb := ((hbb.alloc (.cells #[.int .i64 m, .int .i64 s, .int .i64 t] 37)).drewN 1).grown (w' := w2) hgrow (Ne.symm ne); have f2 := fb.frozen 2; have c2 : w2.cell? ⟨g, 2, none⟩ = some (.slice q L.length d) := fb.cell 2))
      all_goals
        go_wp2
        go_ret2
        rw [HE.out]
        exact ⟨rfl, rput_app (r := ⟨m, s, t⟩) BR.out HR hown1 hgrow hat fb⟩
theorem rput_any (B g : Nat) (v : Value) (wo ga : Int) (L : List Rd) (r : Rd) (w : World) (h : RSer w B g v wo ga L) (hL : L.length ≤ 1000000) :
    Calls Try.prog 24 #[.pointer (some ⟨g, 0, none⟩), rval r] w fun e w' => e = .returned (.tuple #[.bool (putR L r).1, .int .i64 ((putR L r).2.1 : Nat)]) ∧ RPut w B g v wo ga (putR L r).2.2 w' := by
  unfold putR
  by_cases hr : rightB r = true
  · rw [if_pos hr]
    exact rput_yes B g v wo ga L r w h hr hL
  · rw [if_neg hr]
    exact rput_no B g v wo ga L r w h (by simpa using hr)
end Se
end Go.Proofs.Ytehiclmkdpcplaa

namespace Go.Proofs.Ytehiclmkdpcplaa
open Go.RowKit

namespace Se
theorem rsame_other (p q : Option Addr) (n m c d : Nat) (w : World) (h : ¬ n = m) :
    Calls Try.prog 14 #[.slice p n c, .slice q m d] w fun e w' => e = .returned (.bool false) ∧ w = w' := by
  have h' : ¬ (n : Int) = (m : Int) := by omega
  have h1 : ((n : Int) != (m : Int)) = true := by simp; omega
  go_enter Try.func14, Try.ntmps14
  go_wp2
  go_ret
  exact ⟨rfl, rfl⟩
theorem rsame_nil (p q : Option Addr) (c d : Nat) (w : World) : Calls Try.prog 14 #[.slice p 0 c, .slice q 0 d] w fun e w' => e = .returned (.bool true) ∧ w = w' := by
  go_enter Try.func14, Try.ntmps14
  go_wp2
  go_loop [5] (fun i => i = .int .i64 0) (fun i => 0)
  case atStart => rfl
  case round =>
    obtain rfl := hrel
    go_wp2
    go_ret
    exact ⟨rfl, rfl⟩
theorem take_eq {l l2 : List Rd} {k : Nat} {x : Rd} (h : l.take k = l2.take k) (hx : l[k]? = some x) (hy : l2[k]? = some x) : l.take (k + 1) = l2.take (k + 1) := by
  rw [List.take_add_one, List.take_add_one, h, hx, hy]
theorem not_eq {l l2 : List Rd} {k : Nat} {x y : Rd} (hx : l[k]? = some x) (hy : l2[k]? = some y) (h : x ≠ y) : decide (l = l2) = false := by
  rw [decide_eq_false_iff_not]
  rintro rfl
  rw [hx] at hy
  exact h (Option.some.inj hy)
set_option maxRecDepth 100000 in
set_option maxHeartbeats 2000000 in
theorem rsame_some (b o b2 o2 n c d : Nat) (l l2 : List Rd) (w : World) (hn : l.length = n) (hn2 : l2.length = n) (hbig : n ≤ 9223372036854775807)
    (hc : ∀ j x, l[j]? = some x → ∀ i, i < 3 → w.cell? ⟨b, o + j * 3 + i, none⟩ = (rcells x)[i]?) (hc2 : ∀ j x, l2[j]? = some x → ∀ i, i < 3 → w.cell? ⟨b2, o2 + j * 3 + i, none⟩ = (rcells x)[i]?) :
    Calls Try.prog 14 #[.slice (some ⟨b, o, none⟩) n c, .slice (some ⟨b2, o2, none⟩) n d] w fun e w' => e = .returned (.bool (decide (l = l2))) ∧ ∃ m, w' = w.drewN m := by
  have HC := Lib.hid hc
  have HC2 := Lib.hid hc2
  have HN := Lib.hid hn
  have HN2 := Lib.hid hn2
  clear hc hc2 hn hn2
  go_enter Try.func14, Try.ntmps14
  go_wp2
  go_loopw [5] (fun i wr => ∃ k m : Nat, k ≤ n ∧ i = .int .i64 k ∧ wr = w.drewN m ∧ Hid (l.take k = l2.take k)) (fun i _ => n - (RowKit.intOf i).toNat)
  case atStart => exact ⟨0, 0, Nat.zero_le _, rfl, rfl, Lib.hid (by simp)⟩
  case round =>
    obtain ⟨k, m, hk, rfl, rfl, HT⟩ := hrel
    by_cases hlt : k < n
    · obtain ⟨x, hx⟩ : ∃ x, l[k]? = some x := ⟨_, List.getElem?_eq_getElem (by rw [HN.out]; exact hlt)⟩
      obtain ⟨y, hy⟩ : ∃ y, l2[k]? = some y := ⟨_, List.getElem?_eq_getElem (by rw [HN2.out]; exact hlt)⟩
      have e0 : w.cell? ⟨b, o + k * 3, none⟩ = some (.int .i64 x.min) := HC.out k x hx 0 (by decide)
      have e1 : w.cell? ⟨b, o + k * 3 + 1, none⟩ = some (.int .i64 x.seq) := HC.out k x hx 1 (by decide)
      have e2 : w.cell? ⟨b, o + k * 3 + 2, none⟩ = some (.int .i64 x.ten) := HC.out k x hx 2 (by decide)
      have f0 : w.cell? ⟨b2, o2 + k * 3, none⟩ = some (.int .i64 y.min) := HC2.out k y hy 0 (by decide)
      have f1 : w.cell? ⟨b2, o2 + k * 3 + 1, none⟩ = some (.int .i64 y.seq) := HC2.out k y hy 1 (by decide)
      have f2 : w.cell? ⟨b2, o2 + k * 3 + 2, none⟩ = some (.int .i64 y.ten) := HC2.out k y hy 2 (by decide)
      have hk3 : (k : Int) < (n : Int) := by omega
      by_cases h : x = y
      · subst h
        have HT2 := Lib.hid (take_eq HT.out hx hy)
        clear hx hy
        go_wp2_with fail
        go_quiet (fail)
        go_wp2
        go_roundw
        case rel => exact ⟨k + 1, _, by omega, by go_num, rfl, HT2⟩
        case measure => simp [RowKit.intOf]; omega
      · have HE := Lib.hid (not_eq hx hy h)
        have hor : x.min ≠ y.min ∨ (x.min = y.min ∧ x.seq ≠ y.seq) ∨ (x.min = y.min ∧ x.seq = y.seq ∧ x.ten ≠ y.ten) := by
          by_cases h1 : x.min = y.min
          · by_cases h2 : x.seq = y.seq
            · refine .inr (.inr ⟨h1, h2, fun h3 => h ?_⟩)
              cases x
              cases y
              simp_all
            · exact .inr (.inl ⟨h1, h2⟩)
          · exact .inl h1
        clear hx hy h
        obtain ⟨xm, xs, xt⟩ := x
        obtain ⟨ym, ys, yt⟩ := y
        simp only at hor e0 e1 e2 f0 f1 f2
        rcases hor with h1 | ⟨rfl, h2⟩ | ⟨rfl, rfl, h3⟩
        · have t1 : (xm == ym) = false := by simp [h1]
          clear h1
          go_wp2_with fail
          go_quiet (fail)
          go_wp2
          go_ret
          exact ⟨by rw [HE.out]; rfl, _, World.drewN_drewN _ _ _⟩
        · have t1 : (xs == ys) = false := by simp [h2]
          clear h2
          go_wp2_with fail
          go_quiet (fail)
          go_wp2
          go_ret
          exact ⟨by rw [HE.out]; rfl, _, World.drewN_drewN _ _ _⟩
        · have t1 : (xt == yt) = false := by simp [h3]
          clear h3
          go_wp2_with fail
          go_quiet (fail)
          go_wp2
          go_ret
          exact ⟨by rw [HE.out]; rfl, _, World.drewN_drewN _ _ _⟩
    · obtain rfl : k = n := by omega
      have HE := Lib.hid (show decide (l = l2) = true by
        rw [decide_eq_true_eq]
        have := HT.out
        rwa [List.take_of_length_le (by rw [HN.out]; exact Nat.le_refl _), List.take_of_length_le (by rw [HN2.out]; exact Nat.le_refl _)] at this)
      go_wp2
      go_ret
      exact ⟨by rw [HE.out]; rfl, _, rfl⟩
theorem rsame_any (p q : Option Addr) (n m c d : Nat) (l l2 : List Rd) (w : World) (hn : n ≤ 9223372036854775807) (h : Rw 3 rcells w p n l) (h2 : Rw 3 rcells w q m l2) :
    Calls Try.prog 14 #[.slice p n c, .slice q m d] w fun e w' => e = .returned (.bool (decide (l = l2))) ∧ ∃ m, w' = w.drewN m := by
  by_cases hm : n = m
  · subst hm
    by_cases h0 : 0 < n
    · obtain ⟨b, o, rfl, hc⟩ := h.2 h0
      obtain ⟨b2, o2, rfl, hc2⟩ := h2.2 h0
      exact rsame_some b o b2 o2 n c d l l2 w h.1 h2.1 hn hc hc2
    · obtain rfl : n = 0 := by omega
      have e1 := List.eq_nil_of_length_eq_zero h.1
      have e2 := List.eq_nil_of_length_eq_zero h2.1
      subst e1 e2
      exact (rsame_nil p q c d w).mono fun e w' ⟨he, hw⟩ => ⟨by rw [he]; rfl, 0, hw.symm⟩
  · have e : decide (l = l2) = false := by
      rw [decide_eq_false_iff_not]
      rintro rfl
      exact hm (h.1.symm.trans h2.1)
    rw [e]
    exact (rsame_other p q n m c d w hm).mono fun e w' ⟨he, hw⟩ => ⟨he, 0, hw.symm⟩
end Se
end Go.Proofs.Ytehiclmkdpcplaa
