/- First out, in plain words: what is picked of lots whose numbers differ. No condition but those written. -/
import Derived.Test.YtclpdemhfbjliaaFfNum
namespace Go.Proofs.Ytclpdemhfbjliaa.Ff
open Lo

/-- Lots' units, added. -/
def unitsL (Q : List Lt) : Int := (Q.map Lt.units).sum
/-- All units of a product. -/
def allP (l : List Lt) (p : Int) : Int := unitsL (l.filter fun x => decide (x.product = p))
/-- What of a number is among takes. -/
def sumT (id : Int) : List (Int × Int) → Int
  | [] => 0
  | t :: T => (if t.1 = id then t.2 else 0) + sumT id T
theorem sumT_app (id : Int) : ∀ (A B : List (Int × Int)), sumT id (A ++ B) = sumT id A + sumT id B
  | [], B => by simp [sumT]
  | t :: A, B => by
    rw [List.cons_append, sumT, sumT, sumT_app id A B]
    omega
theorem sumT_none {id : Int} : ∀ {T : List (Int × Int)}, (∀ t ∈ T, t.1 ≠ id) → sumT id T = 0
  | [], _ => rfl
  | t :: T, h => by
    rw [sumT, if_neg (h t (by simp)), sumT_none (fun s hs => h s (List.mem_cons_of_mem _ hs))]
    rfl
def whole (x : Lt) : Int × Int := (x.id, x.units)
/-- Numbers differ. -/
def Dif (l : List Lt) : Prop := l.Pairwise fun a b => a.id ≠ b.id
theorem dif_same {l : List Lt} (h : Dif l) {x y : Lt} (hx : x ∈ l) (hy : y ∈ l) (e : x.id = y.id) : x = y := by
  induction l with
  | nil => cases hx
  | cons z l ih =>
    obtain ⟨h1, h2⟩ := List.pairwise_cons.1 h
    rcases List.mem_cons.1 hx with ex | hx2
    · rcases List.mem_cons.1 hy with ey | hy2
      · rw [ex, ey]
      · rw [ex] at e
        exact absurd e (h1 y hy2)
    · rcases List.mem_cons.1 hy with ey | hy2
      · rw [ey] at e
        exact absurd e.symm (h1 x hx2)
      · exact ih h2 hx2 hy2
theorem sumT_one {x : Lt} : ∀ {A : List Lt}, Dif A → x ∈ A → sumT x.id (A.map whole) = x.units
  | [], _, h => by cases h
  | y :: A, hd, h => by
    obtain ⟨h1, h2⟩ := List.pairwise_cons.1 hd
    rw [List.map_cons, sumT]
    rcases List.mem_cons.1 h with rfl | h
    · rw [show (whole x).1 = x.id from rfl, if_pos rfl, sumT_none (fun t ht => ?_)]
      · show x.units + 0 = x.units
        omega
      · obtain ⟨z, hz, rfl⟩ := List.mem_map.1 ht
        exact (h1 z hz).symm
    · rw [show (whole y).1 = y.id from rfl, if_neg (h1 x h), sumT_one h2 h]
      omega
theorem pk_zero (Q : List Lt) : pk 0 Q = [] := by
  cases Q with
  | nil => rfl
  | cons x Q =>
    unfold pk
    rw [if_pos (by omega)]
/-- Enough: some whole, and then one, perhaps in part. -/
theorem pk_enough : ∀ (Q : List Lt) (u : Int), (∀ x ∈ Q, 1 ≤ x.units) → 1 ≤ u → u ≤ unitsL Q →
    ∃ (A : List Lt) (z : Lt) (B : List Lt) (r : Int), Q = A ++ z :: B ∧ pk u Q = A.map whole ++ [(z.id, r)] ∧ 1 ≤ r ∧ r ≤ z.units ∧ unitsL A + r = u ∧ short u Q = false
  | [], u, _, h1, h2 => by
    simp [unitsL] at h2
    omega
  | x :: s, u, hg, h1, h2 => by
    have hx := hg x (by simp)
    by_cases hc : u ≤ x.units
    · refine ⟨[], x, s, u, rfl, ?_, h1, hc, by simp [unitsL], ?_⟩
      · unfold pk
        rw [if_neg (by omega), show min x.units u = u by omega, show u - u = 0 by omega, pk_zero]
        rfl
      · unfold short
        rw [if_neg (by omega), show u - min x.units u = 0 by omega]
        cases s with
        | nil => rfl
        | cons y s =>
          unfold short
          rw [if_pos (by omega)]
    · have h3 : u - min x.units u = u - x.units := by omega
      have h4 : unitsL (x :: s) = x.units + unitsL s := by simp [unitsL]
      obtain ⟨A, z, B, r, e1, e2, e3, e4, e5, e6⟩ := pk_enough s (u - x.units) (fun y hy => hg y (List.mem_cons_of_mem _ hy)) (by omega) (by omega)
      refine ⟨x :: A, z, B, r, by rw [e1]; rfl, ?_, e3, e4, ?_, ?_⟩
      · unfold pk
        rw [if_neg (by omega), h3, e2, show min x.units u = x.units by omega]
        rfl
      · have : unitsL (x :: A) = x.units + unitsL A := by simp [unitsL]
        omega
      · unfold short
        rw [if_neg (by omega), h3]
        exact e6
theorem short_not : ∀ (Q : List Lt) (u : Int), (∀ x ∈ Q, 1 ≤ x.units) → unitsL Q < u → short u Q = true
  | [], u, _, h => by
    simp [unitsL] at h
    simp [short, h]
  | x :: s, u, hg, h => by
    have hx := hg x (by simp)
    have h4 : unitsL (x :: s) = x.units + unitsL s := by simp [unitsL]
    have h5 : ∀ s : List Lt, (∀ y ∈ s, 1 ≤ y.units) → 0 ≤ unitsL s := by
      intro s hs
      induction s with
      | nil => simp [unitsL]
      | cons y s ih =>
        have := ih (fun z hz => hs z (List.mem_cons_of_mem _ hz))
        have := hs y (by simp)
        have : unitsL (y :: s) = y.units + unitsL s := by simp [unitsL]
        omega
    have h6 := h5 s (fun y hy => hg y (List.mem_cons_of_mem _ hy))
    unfold short
    rw [if_neg (by omega), show u - min x.units u = u - x.units by omega]
    exact short_not s _ (fun y hy => hg y (List.mem_cons_of_mem _ hy)) (by omega)
theorem unitsL_perm {A B : List Lt} (h : A.Perm B) : unitsL A = unitsL B := by
  unfold unitsL
  induction h with
  | nil => rfl
  | cons x _ ih =>
    rw [List.map_cons, List.map_cons, List.sum_cons, List.sum_cons, ih]
  | swap x y l =>
    simp only [List.map_cons, List.sum_cons]
    omega
  | trans _ _ a b => exact a.trans b
/-- What is picked, where there is enough, of lots whose numbers differ. -/
structure Out (l : List Lt) (p u : Int) (T : List (Int × Int)) (z : Lt) (r : Int) : Prop where
  here : z ∈ l
  prod : z.product = p
  last : T.getLast? = some (z.id, r)
  tot : (T.map Prod.snd).sum = u
  len : 0 < T.length ∧ T.length ≤ l.length
  part : 1 ≤ r ∧ r ≤ z.units
  ahead : ∀ x ∈ l, x.product = p → bfB x z = true → sumT x.id T = x.units
  behind : ∀ x ∈ l, ¬ (x.product = p ∧ bfB x z = true) → x.id ≠ z.id → sumT x.id T = 0
  end_ : sumT z.id T = r
theorem first_out {l : List Lt} {p u : Int} (hd : Dif l) (hg : ∀ x ∈ l, 1 ≤ x.units ∧ x.units ≤ 1048576) (h1 : 1 ≤ u) (h2 : u ≤ allP l p) : ∃ (T : List (Int × Int)) (z : Lt) (r : Int), pickL l p u = (T, 0) ∧ Out l p u T z r := by
  have hQl : ∀ x, x ∈ ofP l p ↔ x ∈ l ∧ x.product = p := fun x => by
    unfold ofP
    rw [isort_mem, List.mem_filter]
    simp
  have hperm : (ofP l p).Perm (l.filter fun x => decide (x.product = p)) := isort_perm _
  have hsum : unitsL (ofP l p) = allP l p := unitsL_perm hperm
  have hdQ : Dif (ofP l p) := by
    have hdf : Dif (l.filter fun x => decide (x.product = p)) := hd.filter _
    exact hperm.symm.pairwise hdf (fun h => Ne.symm h)
  have hsrt := isort_srt (l.filter fun x => decide (x.product = p))
  obtain ⟨A, z, B, r, e1, e2, e3, e4, e5, e6⟩ := pk_enough (ofP l p) u (fun x hx => (hg x ((hQl x).1 hx).1).1) h1 (by omega)
  have hw : wrongB l p u = false := by
    unfold wrongB
    rw [Bool.or_eq_false_iff]
    refine ⟨by simp; omega, List.any_eq_false.2 fun x hx => ?_⟩
    have := hg x hx
    simp
    omega
  have hz : z ∈ ofP l p := by rw [e1]; simp
  have hsQ : Srt (A ++ z :: B) := by rw [← e1]; exact hsrt
  have hdA : Dif (A ++ z :: B) := by rw [← e1]; exact hdQ
  obtain ⟨s1, s2, s3⟩ := List.pairwise_append.1 hsQ
  obtain ⟨d1, d2, d3⟩ := List.pairwise_append.1 hdA
  have s4 := (List.pairwise_cons.1 s2).1
  have hAz : ∀ a ∈ A, bfB a z = true := fun a ha => by
    have h3 := bf_no.1 (s3 a ha z (by simp))
    have h4 := d3 a ha z (by simp)
    exact bf_iff.2 (by omega)
  have hA : ∀ x ∈ l, x.product = p → bfB x z = true → x ∈ A := fun x hx hp hb => by
    have hxQ := (hQl x).2 ⟨hx, hp⟩
    rw [e1] at hxQ
    rcases List.mem_append.1 hxQ with h | h
    · exact h
    · rcases List.mem_cons.1 h with rfl | h
      · rw [bf_irr] at hb
        cases hb
      · rw [s4 x h] at hb
        cases hb
  have hAl : ∀ a ∈ A, a ∈ l ∧ a.product = p := fun a ha => (hQl a).1 (by rw [e1]; exact List.mem_append.2 (.inl ha))
  have hp0 : pickL l p u = (A.map whole ++ [(z.id, r)], 0) := by
    unfold pickL
    rw [if_neg (by rw [hw]; exact Bool.false_ne_true), if_neg (by rw [e6]; exact Bool.false_ne_true), e2]
  refine ⟨A.map whole ++ [(z.id, r)], z, r, hp0, ⟨((hQl z).1 hz).1, ((hQl z).1 hz).2, by simp, ?_, ?_, ⟨e3, e4⟩, fun x hx hp hb => ?_, fun x hx hn hne => ?_, ?_⟩⟩
  · rw [List.map_append, List.sum_append, List.map_map]
    have : (A.map (Prod.snd ∘ whole)).sum = unitsL A := rfl
    rw [this]
    simp
    omega
  · have h3 : (ofP l p).length ≤ l.length := by
      unfold ofP
      rw [isort_len]
      exact List.length_filter_le _ _
    rw [e1] at h3
    simp at h3 ⊢
    omega
  · have hxA := hA x hx hp hb
    rw [sumT_app, sumT_one d1 hxA]
    have : x.id ≠ z.id := d3 x hxA z (by simp)
    simp [sumT, Ne.symm this]
  · rw [sumT_app, sumT_none (fun t ht => ?_)]
    · simp [sumT, Ne.symm hne]
    · obtain ⟨a, ha, rfl⟩ := List.mem_map.1 ht
      intro e
      have h3 := dif_same hd (hAl a ha).1 hx e
      subst h3
      exact hn ⟨(hAl a ha).2, hAz a ha⟩
  · rw [sumT_app, sumT_none (fun t ht => ?_)]
    · simp [sumT]
    · obtain ⟨a, ha, rfl⟩ := List.mem_map.1 ht
      exact d3 a ha z (by simp)
/-- What is picked of lots that are as they may be: three ways. -/
theorem pick_three {l : List Lt} {p u : Int} (hd : Dif l) (hg : ∀ x ∈ l, 1 ≤ x.units ∧ x.units ≤ 1048576) :
    (u < 1 ∧ pickL l p u = ([], 1)) ∨ (1 ≤ u ∧ allP l p < u ∧ pickL l p u = ([], 11)) ∨ (1 ≤ u ∧ u ≤ allP l p ∧ ∃ (T : List (Int × Int)) (z : Lt) (r : Int), pickL l p u = (T, 0) ∧ Out l p u T z r) := by
  by_cases h1 : u < 1
  · refine .inl ⟨h1, ?_⟩
    unfold pickL
    rw [if_pos (by simp [wrongB, h1])]
  · by_cases h2 : u ≤ allP l p
    · exact .inr (.inr ⟨by omega, h2, first_out hd hg (by omega) h2⟩)
    · refine .inr (.inl ⟨by omega, by omega, ?_⟩)
      have hQl : ∀ x, x ∈ ofP l p → x ∈ l := fun x hx => by
        unfold ofP at hx
        rw [isort_mem, List.mem_filter] at hx
        exact hx.1
      have hsum : unitsL (ofP l p) = allP l p := unitsL_perm (isort_perm _)
      have hw : wrongB l p u = false := by
        unfold wrongB
        rw [Bool.or_eq_false_iff]
        refine ⟨by simp; omega, List.any_eq_false.2 fun x hx => ?_⟩
        have := hg x hx
        simp
        omega
      have hs := short_not (ofP l p) u (fun x hx => (hg x (hQl x hx)).1) (by omega)
      unfold pickL
      rw [if_neg (by rw [hw]; exact Bool.false_ne_true), if_pos hs]
end Go.Proofs.Ytclpdemhfbjliaa.Ff
