/- Places of lots, in order, in plain words. No condition but those written. -/
import Derived.Test.YtclpdemhfbjliaaFfNum
namespace Go.Proofs.Ytclpdemhfbjliaa.Ff
open Lo

/-- A lot like none. -/
def no0 : Lt := ⟨0, 0, 0, 0, 0, 0, 0, []⟩
def ltAt (l : List Lt) (i : Nat) : Lt := l.getD i no0
theorem ltAt_of {l : List Lt} {i : Nat} {x : Lt} (h : l[i]? = some x) : ltAt l i = x := by
  unfold ltAt
  rw [List.getD_eq_getElem?_getD, h]
  rfl
/-- One more place, ahead of those that are as good. -/
def insP (l : List Lt) (x : Nat) : List Nat → List Nat
  | [] => [x]
  | y :: s => if bfB (ltAt l y) (ltAt l x) = true then y :: insP l x s else x :: y :: s
def isortP (l : List Lt) : List Nat → List Nat
  | [] => []
  | x :: s => insP l x (isortP l s)
theorem insP_map (l : List Lt) (x : Nat) : ∀ s : List Nat, (insP l x s).map (ltAt l) = ins (ltAt l x) (s.map (ltAt l))
  | [] => rfl
  | y :: s => by
    rw [List.map_cons, insP, ins]
    split
    · rw [List.map_cons, insP_map l x s]
    · rfl
theorem isortP_map (l : List Lt) : ∀ s : List Nat, (isortP l s).map (ltAt l) = isort (s.map (ltAt l))
  | [] => rfl
  | x :: s => by rw [List.map_cons, isortP, isort, insP_map, isortP_map l s]
theorem insP_perm (l : List Lt) (x : Nat) : ∀ s : List Nat, (insP l x s).Perm (x :: s)
  | [] => List.Perm.refl _
  | y :: s => by
    unfold insP
    split
    · exact ((insP_perm l x s).cons y).trans (List.Perm.swap x y s)
    · exact List.Perm.refl _
theorem isortP_perm (l : List Lt) : ∀ s : List Nat, (isortP l s).Perm s
  | [] => List.Perm.refl _
  | x :: s => (insP_perm l x (isortP l s)).trans ((isortP_perm l s).cons x)
/-- The places in order. -/
def places (l : List Lt) : List Nat := isortP l (List.range l.length)
theorem places_map (l : List Lt) : (places l).map (ltAt l) = isort l := by
  unfold places
  rw [isortP_map]
  congr 1
  apply List.ext_getElem?
  intro i
  rw [List.getElem?_map]
  by_cases h : i < l.length
  · rw [List.getElem?_range h, List.getElem?_eq_getElem h]
    exact congrArg some (ltAt_of (List.getElem?_eq_getElem h))
  · rw [List.getElem?_eq_none (by simpa using h), List.getElem?_eq_none (by omega)]
    rfl
theorem places_perm (l : List Lt) : (places l).Perm (List.range l.length) := isortP_perm l _
theorem places_len (l : List Lt) : (places l).length = l.length := by
  rw [(places_perm l).length_eq, List.length_range]
theorem places_lt {l : List Lt} {i : Nat} (h : i ∈ places l) : i < l.length := by
  simpa using (places_perm l).mem_iff.1 h
/-- The lot at a place that comes at a number. -/
theorem places_at {l : List Lt} {k i : Nat} (h : (places l)[k]? = some i) : i < l.length ∧ (isort l)[k]? = l[i]? := by
  have hi := places_lt (List.mem_of_getElem? h)
  refine ⟨hi, ?_⟩
  rw [← places_map, List.getElem?_map, h, List.getElem?_eq_getElem hi]
  exact congrArg some (ltAt_of (List.getElem?_eq_getElem hi))
/-- One place ahead of another one: by the lots there, then by themselves. -/
def Ahd (l : List Lt) (i j : Nat) : Prop := (ltAt l i).expiry < (ltAt l j).expiry ∨ ((ltAt l i).expiry = (ltAt l j).expiry ∧ ((ltAt l i).id < (ltAt l j).id ∨ ((ltAt l i).id = (ltAt l j).id ∧ i < j)))
instance (l : List Lt) (i j : Nat) : Decidable (Ahd l i j) := by
  unfold Ahd
  infer_instance
theorem insP_srt {l : List Lt} {x : Nat} : ∀ {s : List Nat}, s.Pairwise (Ahd l) → (∀ y ∈ s, x < y) → (insP l x s).Pairwise (Ahd l)
  | [], _, _ => List.pairwise_singleton _ _
  | y :: s, h, hx => by
    obtain ⟨h1, h2⟩ := List.pairwise_cons.1 h
    have hxy := hx y (by simp)
    unfold insP
    by_cases hb : bfB (ltAt l y) (ltAt l x) = true
    · rw [if_pos hb]
      refine List.pairwise_cons.2 ⟨fun z hz => ?_, insP_srt h2 (fun z hz => hx z (List.mem_cons_of_mem _ hz))⟩
      rcases List.mem_cons.1 ((insP_perm l x s).mem_iff.1 hz) with rfl | hz
      · have := bf_iff.1 hb
        unfold Ahd
        omega
      · exact h1 z hz
    · rw [if_neg hb]
      have hn := bf_no.1 (by simpa using hb)
      refine List.pairwise_cons.2 ⟨fun z hz => ?_, h⟩
      rcases List.mem_cons.1 hz with rfl | hz
      · unfold Ahd
        omega
      · have h3 := h1 z hz
        have h4 := hx z (List.mem_cons_of_mem _ hz)
        unfold Ahd at *
        omega
theorem isortP_srt {l : List Lt} : ∀ {s : List Nat}, s.Pairwise (· < ·) → (isortP l s).Pairwise (Ahd l)
  | [], _ => List.Pairwise.nil
  | x :: s, h => by
    obtain ⟨h1, h2⟩ := List.pairwise_cons.1 h
    exact insP_srt (isortP_srt h2) (fun y hy => h1 y ((isortP_perm l s).mem_iff.1 hy))
theorem places_srt (l : List Lt) : (places l).Pairwise (Ahd l) := isortP_srt List.pairwise_lt_range
/-- Whatever is sorted so is that. -/
theorem places_uniq {l : List Lt} {S : List Nat} (hp : S.Perm (List.range l.length)) (hs : S.Pairwise (fun a b => ¬ Ahd l b a)) : S = places l := by
  refine List.Perm.eq_of_pairwise (le := fun a b => ¬ Ahd l b a) (fun a b _ _ h1 h2 => ?_) hs ((places_srt l).imp (fun {a b} h => ?_)) (hp.trans (places_perm l).symm)
  · unfold Ahd at *
    omega
  · unfold Ahd at *
    omega
def cmpI (x y : Int) : Int := if x < y then -1 else if y < x then 1 else 0
def orI3 (a b c : Int) : Int := if a = 0 then (if b = 0 then c else b) else a
/-- What the sort is told. -/
def cmpL (l : List Lt) (i j : Nat) : Int := orI3 (cmpI (ltAt l i).expiry (ltAt l j).expiry) (cmpI (ltAt l i).id (ltAt l j).id) (cmpI i j)
theorem cmpL_neg (l : List Lt) (i j : Nat) : cmpL l i j < 0 ↔ Ahd l i j := by
  unfold cmpL Ahd
  generalize (ltAt l i).expiry = a
  generalize (ltAt l j).expiry = b
  generalize (ltAt l i).id = c
  generalize (ltAt l j).id = d
  unfold orI3 cmpI
  by_cases h1 : a < b
  · simp [h1]
  · by_cases h2 : b < a
    · simp [h1, h2]
      omega
    · have h3 : a = b := by omega
      subst h3
      by_cases h4 : c < d
      · simp [h4]
      · by_cases h5 : d < c
        · simp [h4, h5]
          omega
        · have h6 : c = d := by omega
          subst h6
          by_cases h7 : i < j
          · simp [h7]
          · by_cases h8 : j < i <;> simp [h7, h8]
end Go.Proofs.Ytclpdemhfbjliaa.Ff
