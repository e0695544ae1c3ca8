/- There and back, in plain words: what was written is read; with one byte less there is an error. No condition but those written. -/
import Derived.Test.YtbahilakfgbgpaaDoorOcNum
namespace Go.Proofs.YtbahilakfgbgpaaDoor.Oc

/-- The bytes of a thing. -/
def enc (t : Th) : Option (List Nat) := wth (some []) t
theorem wnum_from (L : List Nat) (n : Nat) (size : Int) : wnum (some L) n size = (wnum (some []) n size).map (L ++ ·) := by
  unfold wnum
  by_cases h : fitB n size = true <;> simp [h]
theorem wrun_from (L b : List Nat) : wrun (some L) b = (wrun (some []) b).map (L ++ ·) := by
  unfold wrun
  rw [wnum_from L]
  cases wnum (some []) b.length 4 <;> simp
theorem wth_from (L : List Nat) (t : Th) : wth (some L) t = (enc t).map (L ++ ·) := by
  unfold enc wth
  split
  · exact wnum_from L _ _
  · split
    · exact wnum_from L _ _
    · split
      · exact wnum_from L _ _
      · exact wrun_from L _
theorem wth_none (t : Th) : wth none t = none := by
  unfold wth
  split
  · rfl
  · split
    · rfl
    · split <;> rfl
theorem wall_none (l : List Th) : wall none l = none := by
  induction l with
  | nil => rfl
  | cons t l ih =>
    show wall (wth none t) l = none
    rw [wth_none, ih]
/-- The bytes of things, one behind the other. -/
def Encs : List Th → List Nat → Prop
  | [], b => b = []
  | t :: l, b => ∃ e r, enc t = some e ∧ Encs l r ∧ b = e ++ r
theorem encs_of {l : List Th} : ∀ {L b : List Nat}, wall (some L) l = some b → ∃ r, Encs l r ∧ b = L ++ r := by
  induction l with
  | nil =>
    intro L b h
    have h' : some L = some b := h
    injection h' with h'
    exact ⟨[], rfl, by simp [h']⟩
  | cons t l ih =>
    intro L b h
    have h' : wall (wth (some L) t) l = some b := h
    rw [wth_from] at h'
    cases he : enc t with
    | none =>
      rw [he] at h'
      have : wall none l = some b := h'
      rw [wall_none] at this
      cases this
    | some e =>
      rw [he] at h'
      obtain ⟨r, hr, hb⟩ := ih (show wall (some (L ++ e)) l = some b from h')
      exact ⟨e ++ r, ⟨e, r, he, hr, rfl⟩, by rw [hb, List.append_assoc]⟩
theorem encs_drop {l : List Th} {k : Nat} {b : List Nat} (hk : k < l.length) (h : Encs (l.drop k) b) : ∃ e r, enc (l.getD k t0) = some e ∧ Encs (l.drop (k + 1)) r ∧ b = e ++ r := by
  rw [List.drop_eq_getElem_cons hk] at h
  obtain ⟨e, r, h1, h2, h3⟩ := h
  refine ⟨e, r, ?_, h2, h3⟩
  rw [List.getD_eq_getElem?_getD, List.getElem?_eq_getElem hk]
  exact h1
theorem encs_end {l : List Th} {b : List Nat} (h : Encs (l.drop l.length) b) : b = [] := by
  rw [List.drop_length] at h
  exact h

/-- What a number, written, is. -/
theorem enc_num {n : Nat} {size : Int} {e : List Nat} (h : wnum (some []) n size = some e) : ∃ k : Nat, size = (k : Int) ∧ 1 ≤ k ∧ k ≤ 8 ∧ n < 256 ^ k ∧ e = be k n := by
  unfold wnum at h
  by_cases hf : fitB n size = true
  · obtain ⟨h1, h2, h3⟩ := fit_of hf
    simp only [hf, if_true, Option.some.injEq, List.nil_append] at h
    exact ⟨size.toNat, by omega, by omega, by omega, h3, h.symm⟩
  · simp [hf] at h
theorem rnum_back {n k : Nat} (h1 : 1 ≤ k) (h8 : k ≤ 8) (hn : n < 256 ^ k) (R : List Nat) : rnum (0, be k n ++ R) (k : Int) = (n, (0, R)) := by
  have hl := be_length k n
  unfold rnum
  rw [if_neg (by simp), if_neg (by omega), if_neg (by simp [be_length])]
  simp only [Int.toNat_natCast]
  rw [List.take_left' hl, List.drop_left' hl, val_be hn]
theorem rnum_cut {k : Nat} (h1 : 1 ≤ k) (h8 : k ≤ 8) {b : List Nat} (hb : b.length < k) : rnum (0, b) (k : Int) = (0, (2, [])) := by
  unfold rnum
  rw [if_neg (by simp), if_neg (by omega), if_pos (by simpa using hb)]
/-- A reader with one byte less than there should be: b are all bytes, R those still to be read. -/
def sst (b R : List Nat) : Nat × List Nat := if b = [] then (0, []) else if R = [] then (2, []) else (0, R.dropLast)
theorem drop_last {e R : List Nat} (h : R ≠ []) : (e ++ R).dropLast = e ++ R.dropLast := List.dropLast_append_of_ne_nil h
theorem sst_next {b e R : List Nat} (hb : b ≠ []) (hR : R ≠ []) : sst b (e ++ R) = (0, e ++ R.dropLast) ∧ sst b R = (0, R.dropLast) := by
  have h1 : e ++ R ≠ [] := by simp [hR]
  exact ⟨by rw [sst, if_neg hb, if_neg h1, drop_last hR], by rw [sst, if_neg hb, if_neg hR]⟩
theorem sst_last {b e : List Nat} (hb : b ≠ []) (he : e ≠ []) : sst b (e ++ []) = (0, e.dropLast) ∧ sst b [] = (2, []) := by
  rw [List.append_nil]
  exact ⟨by rw [sst, if_neg hb, if_neg he], by rw [sst, if_neg hb, if_pos rfl]⟩
theorem be_ne {k n : Nat} (h : 1 ≤ k) : be k n ≠ [] := fun e => by
  have := be_length k n
  rw [e] at this
  simp at this
  omega
theorem rnum_short {n k : Nat} (h1 : 1 ≤ k) (h8 : k ≤ 8) (hn : n < 256 ^ k) {b : List Nat} (hb : b ≠ []) (R : List Nat) : (rnum (sst b (be k n ++ R)) (k : Int)).2 = sst b R := by
  by_cases hR : R = []
  · subst hR
    obtain ⟨e1, e2⟩ := sst_last hb (be_ne (n := n) h1)
    rw [e1, e2, rnum_cut h1 h8 (by rw [List.length_dropLast, be_length]; omega)]
  · obtain ⟨e1, e2⟩ := sst_next (e := be k n) hb hR
    rw [e1, e2, rnum_back h1 h8 hn]
theorem rbool_back (n : Nat) (R : List Nat) : rbool (0, be 1 (n % 2) ++ R) = (decide (n % 2 = 1), (0, R)) := by
  have h := rnum_back (n := n % 2) (k := 1) (by decide) (by decide) (by omega) R
  unfold rbool
  rw [show (1 : Int) = ((1 : Nat) : Int) from rfl, h]
  simp only
  rw [if_pos (by omega)]
theorem rbool_short (n : Nat) {b : List Nat} (hb : b ≠ []) (R : List Nat) : (rbool (sst b (be 1 (n % 2) ++ R))).2 = sst b R := by
  by_cases hR : R = []
  · subst hR
    obtain ⟨e1, e2⟩ := sst_last hb (be_ne (n := n % 2) (k := 1) (by decide))
    rw [e1, e2]
    rfl
  · obtain ⟨e1, e2⟩ := sst_next (e := be 1 (n % 2)) hb hR
    rw [e1, e2, rbool_back]
theorem rrun_back {r : List Nat} (hr : r.length < 256 ^ 4) (R : List Nat) : rrun (0, (be 4 r.length ++ r) ++ R) = (r, (0, R)) := by
  have h := rnum_back (n := r.length) (k := 4) (by decide) (by decide) hr (r ++ R)
  unfold rrun
  rw [List.append_assoc, show (4 : Int) = ((4 : Nat) : Int) from rfl, h]
  simp
theorem rrun_short {r : List Nat} (hr : r.length < 256 ^ 4) {b : List Nat} (hb : b ≠ []) (R : List Nat) : (rrun (sst b ((be 4 r.length ++ r) ++ R))).2 = sst b R := by
  have hne : be 4 r.length ++ r ≠ [] := by
    have := be_ne (n := r.length) (k := 4) (by decide)
    simp [this]
  by_cases hR : R = []
  · subst hR
    obtain ⟨e1, e2⟩ := sst_last hb hne
    rw [e1, e2]
    by_cases h0 : r = []
    · subst h0
      rfl
    · rw [drop_last h0]
      have h := rnum_back (n := r.length) (k := 4) (by decide) (by decide) hr r.dropLast
      unfold rrun
      rw [show (4 : Int) = ((4 : Nat) : Int) from rfl, h]
      have hpos : 0 < r.length := List.length_pos_iff.2 h0
      rw [if_neg (by simp), if_pos (by simp only [List.length_dropLast]; omega)]
  · obtain ⟨e1, e2⟩ := sst_next (e := be 4 r.length ++ r) hb hR
    rw [e1, e2, rrun_back hr]
theorem enc_run {r e : List Nat} (h : wrun (some []) r = some e) : r.length < 256 ^ 4 ∧ e = be 4 r.length ++ r := by
  unfold wrun at h
  cases hw : wnum (some []) r.length 4 with
  | none =>
    rw [hw] at h
    cases h
  | some e' =>
    rw [hw] at h
    obtain ⟨k, hk, _, _, hn, he⟩ := enc_num hw
    obtain rfl : k = 4 := by omega
    simp only [Option.some.injEq] at h
    exact ⟨hn, by rw [← h, he]⟩
theorem enc_ne {t : Th} {e : List Nat} (h : enc t = some e) : e ≠ [] := by
  have num : ∀ {n : Nat} {size : Int}, wnum (some []) n size = some e → e ≠ [] := fun hw => by
    obtain ⟨k, _, h1, _, _, he⟩ := enc_num hw
    rw [he]
    exact be_ne h1
  unfold enc wth at h
  split at h
  · exact num h
  · split at h
    · exact num h
    · split at h
      · exact num h
      · rw [(enc_run h).2]
        have := be_ne (n := t.run.length) (k := 4) (by decide)
        simp [this]
theorem encs_nil {l : List Th} (h : Encs l []) : l = [] := by
  cases l with
  | nil => rfl
  | cons t l =>
    obtain ⟨e, r, he, _, hb⟩ := h
    have := enc_ne he
    simp_all
end Go.Proofs.YtbahilakfgbgpaaDoor.Oc
