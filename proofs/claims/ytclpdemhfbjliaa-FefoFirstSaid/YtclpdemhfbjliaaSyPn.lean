/- Stays in plain words: may they be, one by one; those up to a minute; their minutes, added. No condition but those written. -/
import Derived.Test.YtclpdemhfbjliaaSyGo
namespace Go.Proofs.Ytclpdemhfbjliaa.Sy

/-- Is a stay as it may be, behind the one ahead of it? -/
def okP (t : Option Sy) (s : Sy) : Bool := decide (1 ≤ s.zone) && (decide (0 ≤ s.frm) && ((decide (s.frm < s.to) || decide (s.to = -1)) && (match t with | none => true | some t => decide (s.frm = t.to))))
def rightF : Option Sy → List Sy → Bool
  | _, [] => true
  | t, s :: l => okP t s && rightF (some s) l
/-- May stays be? -/
def rightB (l : List Sy) : Bool := rightF none l
theorem okP_iff {t : Option Sy} {s : Sy} : okP t s = true ↔ 1 ≤ s.zone ∧ 0 ≤ s.frm ∧ (s.frm < s.to ∨ s.to = -1) ∧ ∀ x, t = some x → s.frm = x.to := by
  cases t with
  | none => simp [okP]
  | some x => simp [okP]
theorem rightF_iff : ∀ (l : List Sy) (t : Option Sy), rightF t l = true ↔ ∀ (i : Nat) (s : Sy), l[i]? = some s → okP (if i = 0 then t else l[i - 1]?) s = true
  | [], t => by simp [rightF]
  | x :: l, t => by
    rw [rightF, Bool.and_eq_true, rightF_iff l (some x)]
    constructor
    · rintro ⟨h0, h⟩ i s hs
      cases i with
      | zero =>
        rw [List.getElem?_cons_zero] at hs
        rw [if_pos rfl, ← Option.some.inj hs]
        exact h0
      | succ i =>
        rw [List.getElem?_cons_succ] at hs
        have := h i s hs
        rw [if_neg (Nat.succ_ne_zero i), Nat.add_sub_cancel]
        cases i with
        | zero => simpa using this
        | succ i => simpa using this
    · intro h
      refine ⟨by simpa using h 0 x rfl, fun i s hs => ?_⟩
      have := h (i + 1) s (by rw [List.getElem?_cons_succ]; exact hs)
      rw [if_neg (Nat.succ_ne_zero i), Nat.add_sub_cancel] at this
      cases i with
      | zero => simpa using this
      | succ i => simpa using this
theorem rightB_iff {l : List Sy} : rightB l = true ↔ ∀ (i : Nat) (s : Sy), l[i]? = some s → 1 ≤ s.zone ∧ 0 ≤ s.frm ∧ (s.frm < s.to ∨ s.to = -1) ∧ ∀ t, 0 < i → l[i - 1]? = some t → s.frm = t.to := by
  rw [rightB, rightF_iff]
  refine forall_congr' fun i => forall_congr' fun s => ⟨fun h hs => ?_, fun h hs => ?_⟩
  · have := okP_iff.1 (h hs)
    refine ⟨this.1, this.2.1, this.2.2.1, fun t hi ht => this.2.2.2 t ?_⟩
    rw [if_neg (by omega)]
    exact ht
  · have := h hs
    refine okP_iff.2 ⟨this.1, this.2.1, this.2.2.1, fun t ht => ?_⟩
    by_cases hi : i = 0
    · rw [if_pos hi] at ht
      cases ht
    · rw [if_neg hi] at ht
      exact this.2.2.2 t (by omega) ht
theorem right_B {l : List Sy} : rightB l = true ↔ Right l := by
  rw [rightB_iff]
  constructor
  · intro h i s hs
    obtain ⟨h1, h2, h3, _⟩ := h i s hs
    have hn : ∀ t, l[i + 1]? = some t → t.frm = s.to := fun t ht => (h (i + 1) t ht).2.2.2 s (by omega) (by rw [Nat.add_sub_cancel]; exact hs)
    refine ⟨h1, h2, ?_, hn⟩
    rcases h3 with h3 | h3
    · exact .inl h3
    · refine .inr ⟨h3, ?_⟩
      have hlt := (List.getElem?_eq_some_iff.1 hs).1
      by_cases he : i + 1 = l.length
      · exact he
      · have hl : i + 1 < l.length := by omega
        have e := hn _ (List.getElem?_eq_getElem hl)
        have p := (h (i + 1) _ (List.getElem?_eq_getElem hl)).2.1
        omega
  · intro h i s hs
    obtain ⟨h1, h2, h3, h4⟩ := h i s hs
    refine ⟨h1, h2, h3.imp id (fun h => h.1), fun t hi ht => ?_⟩
    have := (h (i - 1) t ht).2.2.2 s (by rw [show i - 1 + 1 = i by omega]; exact hs)
    exact this
theorem right_no {l : List Sy} (h : ¬ Right l) : rightB l = false := by
  cases hb : rightB l
  · rfl
  · exact absurd (right_B.1 hb) h
theorem right_yes {l : List Sy} (h : Right l) : rightB l = true := right_B.2 h
/-- One that is not as it may be. -/
theorem right_bad {l : List Sy} {i : Nat} {s : Sy} (hs : l[i]? = some s) (h : ¬ (1 ≤ s.zone ∧ 0 ≤ s.frm ∧ (s.frm < s.to ∨ s.to = -1) ∧ ∀ t, 0 < i → l[i - 1]? = some t → s.frm = t.to)) : rightB l = false := by
  cases hb : rightB l
  · rfl
  · exact absurd (rightB_iff.1 hb i s hs) h

/-- A stay up to a minute. -/
def cut (m : Int) (s : Sy) : Sy := if s.to = -1 ∨ m < s.to then ⟨s.zone, s.frm, m⟩ else s
/-- The stays up to a minute. -/
def uptoS (l : List Sy) (m : Int) : List Sy := (l.filter fun s => decide (s.frm < m)).map (cut m)
theorem upto_nil (m : Int) : uptoS [] m = [] := rfl
theorem upto_len (l : List Sy) (m : Int) : (uptoS l m).length ≤ l.length := by
  rw [uptoS, List.length_map]
  exact List.length_filter_le ..
theorem upto_snoc (A : List Sy) (s : Sy) (m : Int) : uptoS (A ++ [s]) m = uptoS A m ++ if s.frm < m then [cut m s] else [] := by
  unfold uptoS
  rw [List.filter_append, List.map_append]
  by_cases h : s.frm < m
  · rw [if_pos h]
    simp [h]
  · rw [if_neg h]
    simp [h]
/-- Stays that ended, none of them behind a minute, stay whole. -/
theorem upto_whole {A : List Sy} {e m : Int} (h : Shut A) (he : Ends A e) (hm : e ≤ m) : uptoS A m = A := by
  have h1 := shut_le h he
  unfold uptoS
  have h2 : A.filter (fun s => decide (s.frm < m)) = A := by
    rw [List.filter_eq_self]
    intro s hs
    have := h1 s hs
    rw [decide_eq_true_eq]
    omega
  rw [h2]
  have h3 : ∀ s ∈ A, cut m s = id s := by
    intro s hs
    have h4 := h1 s hs
    have h5 : 0 ≤ s.frm := by
      obtain ⟨i, hi⟩ := List.mem_iff_getElem?.1 hs
      exact (h i s hi).2.1
    unfold cut
    rw [if_neg (by omega)]
    rfl
  rw [List.map_congr_left h3, List.map_id]
theorem upto_until {l : List Sy} {now : Int} (h : May l now) : uptoS l now = untilS l now := by
  rcases ends_of l with rfl | ⟨A, s, rfl⟩
  · rfl
  · obtain ⟨h1, h2, h3, h4, h5⟩ := right_snoc.1 h.1
    have h0 := h.2.1
    rw [upto_snoc]
    rcases may_last h with ⟨e, hf⟩ | e
    · rw [upto_whole h1 h5 hf]
      by_cases hn : s.frm < now
      · rw [until_cut e hn, if_pos hn, cut, if_pos (.inl e)]
      · rw [until_drop e hn, if_neg hn, List.append_nil]
    · have hne : s.to ≠ -1 := by omega
      have hn : s.frm < now := by
        rcases h4 with h4 | h4
        · omega
        · exact absurd h4 hne
      rw [upto_whole h1 h5 (by omega), if_pos hn, until_shut hne, cut, if_neg (by omega)]
/-- As the program finds them: all up to a place, the last one cut. -/
def cutL (l : List Sy) (k : Nat) (m : Int) : List Sy := if h : 0 < k ∧ k ≤ l.length then l.take (k - 1) ++ [cut m (l[k - 1]'(by omega))] else []
theorem rights_up {l : List Sy} (h : Right l) {i : Nat} {a b : Sy} (ha : l[i]? = some a) (hb : l[i + 1]? = some b) : a.frm < b.frm ∧ a.to = b.frm ∧ a.to ≠ -1 := by
  have h1 := h i a ha
  have h2 := h (i + 1) b hb
  have h3 := h1.2.2.2 b hb
  have h4 := h2.2.1
  rcases h1.2.2.1 with h5 | h5
  · omega
  · omega
theorem upto_take {l : List Sy} (h : Right l) (m : Int) : ∀ k, k ≤ l.length → (∀ i s, i < k → l[i]? = some s → s.frm < m) → uptoS (l.take k) m = cutL l k m
  | 0, _, _ => by
    rw [cutL, dif_neg (by omega)]
    rfl
  | k + 1, hk, hlt => by
    have hk' : k < l.length := by omega
    rw [cutL, dif_pos ⟨by omega, hk⟩]
    have e := List.getElem?_eq_getElem hk'
    rw [List.take_add_one, e, Option.toList_some, upto_snoc, if_pos (hlt k _ (by omega) e)]
    have e2 : k + 1 - 1 = k := rfl
    simp only [e2]
    congr 1
    -- what stands ahead ended, and stays whole
    have hs : Shut (l.take k) ∧ Ends (l.take k) l[k].frm := by
      have h1 : Right (l.take (k + 1)) := by
        intro i s hs
        have hi : i < k + 1 := by
          have := (List.getElem?_eq_some_iff.1 hs).1
          rw [List.length_take] at this
          omega
        rw [List.getElem?_take_of_lt hi] at hs
        obtain ⟨a1, a2, a3, a4⟩ := h i s hs
        refine ⟨a1, a2, ?_, fun t ht => ?_⟩
        · rcases a3 with a3 | a3
          · exact .inl a3
          · refine .inr ⟨a3.1, ?_⟩
            rw [List.length_take]
            omega
        · have hi2 : i + 1 < k + 1 := by
            have := (List.getElem?_eq_some_iff.1 ht).1
            rw [List.length_take] at this
            omega
          rw [List.getElem?_take_of_lt hi2] at ht
          exact a4 t ht
      rw [List.take_add_one, e, Option.toList_some] at h1
      have := right_snoc.1 h1
      exact ⟨this.1, this.2.2.2.2⟩
    exact upto_whole hs.1 hs.2 (by have := hlt k _ (by omega) e; omega)
theorem rights_le {l : List Sy} (h : Right l) {i : Nat} {a : Sy} (ha : l[i]? = some a) : ∀ d b, l[i + d]? = some b → a.frm ≤ b.frm
  | 0, b, hb => by
    rw [Nat.add_zero, ha] at hb
    rw [← Option.some.inj hb]
    exact Int.le_refl _
  | d + 1, b, hb => by
    have hlt := (List.getElem?_eq_some_iff.1 hb).1
    have hd : i + d < l.length := by omega
    have h1 := rights_le h ha d _ (List.getElem?_eq_getElem hd)
    have h2 := rights_up h (List.getElem?_eq_getElem hd) hb
    omega
/-- Where the first one stands that is not ahead of a minute, the stays up to it end. -/
theorem upto_stop {l : List Sy} (h : Right l) (m : Int) {k : Nat} (hk : k ≤ l.length) (h0 : ∀ s, l[k]? = some s → m ≤ s.frm) : uptoS l m = uptoS (l.take k) m := by
  have h1 : uptoS (l.drop k) m = [] := by
    unfold uptoS
    have h2 : (l.drop k).filter (fun s => decide (s.frm < m)) = [] := by
      rw [List.filter_eq_nil_iff]
      intro s hs
      obtain ⟨j, hj⟩ := List.mem_iff_getElem?.1 hs
      rw [List.getElem?_drop] at hj
      have hkl : k < l.length := by
        have := (List.getElem?_eq_some_iff.1 hj).1
        omega
      have e := List.getElem?_eq_getElem hkl
      have h3 := h0 _ e
      have h4 := rights_le h e j s hj
      rw [decide_eq_true_eq]
      omega
    rw [h2]
    rfl
  have h2 : uptoS l m = uptoS (l.take k) m ++ uptoS (l.drop k) m := by
    unfold uptoS
    rw [← List.map_append, ← List.filter_append, List.take_append_drop]
  rw [h2, h1, List.append_nil]
/-- What stays up to a minute have, added. -/
def sumS (l : List Sy) : Int := l.foldl (fun n s => n + (s.to - s.frm)) 0
theorem sum_snoc (A : List Sy) (s : Sy) : sumS (A ++ [s]) = sumS A + (s.to - s.frm) := by simp [sumS]
theorem rev_ind {P : List Sy → Prop} (h0 : P []) (h1 : ∀ A s, P A → P (A ++ [s])) (l : List Sy) : P l := by
  have : ∀ k : List Sy, P k.reverse := by
    intro k
    induction k with
    | nil => exact h0
    | cons s k ih =>
      rw [List.reverse_cons]
      exact h1 _ _ ih
  have h := this l.reverse
  rwa [List.reverse_reverse] at h
theorem sum_upto (l : List Sy) (m : Int) : sumS (uptoS l m) = minutesS l m := by
  refine rev_ind (P := fun l => sumS (uptoS l m) = minutesS l m) rfl (fun A s ih => ?_) l
  rw [upto_snoc, minutes_snoc, ← ih]
  by_cases h : s.frm < m
  · rw [if_pos h, sum_snoc, minS, if_pos h, cut]
    by_cases hc : s.to = -1 ∨ m < s.to
    · rw [if_pos hc, if_pos hc]
    · rw [if_neg hc, if_neg hc]
  · rw [if_neg h, minS, if_neg h, List.append_nil, Int.add_zero]
/-- Stays that ended have at most as many minutes as lie ahead of their end. -/
theorem sum_shut : ∀ (l : List Sy), Shut l → 0 ≤ sumS l ∧ ∀ s, l.getLast? = some s → sumS l ≤ s.to := by
  intro l
  refine rev_ind (P := fun l => Shut l → 0 ≤ sumS l ∧ ∀ s, l.getLast? = some s → sumS l ≤ s.to) (fun _ => ⟨Int.le_refl _, fun s h => by cases h⟩) (fun A s ih h => ?_) l
  obtain ⟨h1, h2, h3, h4, h5⟩ := shut_snoc.1 h
  obtain ⟨i1, i2⟩ := ih h1
  rw [sum_snoc]
  have h6 : sumS A ≤ s.frm := by
    cases hl : A.getLast? with
    | none =>
      rw [List.getLast?_eq_none_iff] at hl
      subst hl
      exact h3
    | some t =>
      have := i2 t hl
      have := h5 t hl
      omega
  refine ⟨by omega, fun t ht => ?_⟩
  rw [List.getLast?_concat] at ht
  rw [← Option.some.inj ht]
  omega
theorem upto_mem {l : List Sy} {m : Int} {s : Sy} (h : s ∈ uptoS l m) : ∃ t ∈ l, t.frm < m ∧ s = cut m t := by
  unfold uptoS at h
  obtain ⟨t, ht, e⟩ := List.mem_map.1 h
  rw [List.mem_filter, decide_eq_true_eq] at ht
  exact ⟨t, ht.1, ht.2, e.symm⟩
/-- The stays up to a minute all ended, at most there. -/
theorem upto_shut {l : List Sy} (h : Right l) (m : Int) : Shut (uptoS l m) := by
  refine rev_ind (P := fun l => Right l → Shut (uptoS l m)) (fun _ => shut_nil) (fun A s ih h => ?_) l h
  obtain ⟨h1, h2, h3, h4, h5⟩ := right_snoc.1 h
  rw [upto_snoc]
  by_cases hn : s.frm < m
  · rw [if_pos hn, upto_whole h1 h5 (by omega)]
    by_cases hc : s.to = -1 ∨ m < s.to
    · rw [cut, if_pos hc]
      exact shut_snoc.2 ⟨h1, h2, h3, hn, h5⟩
    · rw [cut, if_neg hc]
      refine shut_snoc.2 ⟨h1, h2, h3, ?_, h5⟩
      rcases h4 with h4 | h4
      · exact h4
      · exact absurd (.inl h4) hc
  · rw [if_neg hn, List.append_nil]
    exact ih (shut_right h1)
theorem upto_to {l : List Sy} {m : Int} {s : Sy} (h : s ∈ uptoS l m) : s.to ≤ m ∧ s.frm < m := by
  obtain ⟨t, _, h1, rfl⟩ := upto_mem h
  unfold cut
  split
  · exact ⟨Int.le_refl _, by assumption⟩
  · exact ⟨by omega, by assumption⟩
/-- Part of what stays up to a minute have, added, is between 0 and that minute. -/
theorem sum_part {l : List Sy} (h : Right l) (m : Int) (k : Nat) : 0 ≤ sumS ((uptoS l m).take k) ∧ (sumS ((uptoS l m).take k) ≤ m ∨ sumS ((uptoS l m).take k) = 0) := by
  have h1 : Shut ((uptoS l m).take k) := by
    have h0 := upto_shut h m
    intro i s hs
    have hi : i < k := by
      have := (List.getElem?_eq_some_iff.1 hs).1
      rw [List.length_take] at this
      omega
    rw [List.getElem?_take_of_lt hi] at hs
    obtain ⟨a1, a2, a3, a4⟩ := h0 i s hs
    refine ⟨a1, a2, a3, fun t ht => ?_⟩
    have hi2 : i + 1 < k := by
      have := (List.getElem?_eq_some_iff.1 ht).1
      rw [List.length_take] at this
      omega
    rw [List.getElem?_take_of_lt hi2] at ht
    exact a4 t ht
  obtain ⟨h2, h3⟩ := sum_shut _ h1
  refine ⟨h2, ?_⟩
  cases hl : ((uptoS l m).take k).getLast? with
  | none =>
    right
    rw [List.getLast?_eq_none_iff] at hl
    rw [hl]
    rfl
  | some s =>
    left
    have h4 := h3 s hl
    have h5 := (upto_to (List.mem_of_mem_take (List.mem_of_getLast? hl))).1
    omega
/-- As the program tells them: of stays that may not be nothing. -/
def uptoV (S : List Sy) (m : Int) : List Sy := if rightB S = true then uptoS S m else []
def minutesV (S : List Sy) (m : Int) : Int := if rightB S = true then minutesS S m else 0
def zoneV (S : List Sy) (m : Int) : Int := if rightB S = true then zoneS S m else 0
end Go.Proofs.Ytclpdemhfbjliaa.Sy
