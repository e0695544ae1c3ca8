/- Series in plain words: what hangs on the readings alone, not on their order. No condition but those written. -/
import Derived.Test.YtfdakkghikimcaaSeNum
namespace Go.Proofs.Ytfdakkghikimcaa.Se

theorem one_refl (a : Rd) : one a a := ⟨rfl, rfl⟩
theorem apart_one {l : List Rd} (h : Apart l) {x y : Rd} (hx : x ∈ l) (hy : y ∈ l) (ho : one x y) : x = y := by
  induction l with
  | nil => simp at hx
  | cons z l ih =>
    have h' := List.pairwise_cons.1 h
    rcases List.mem_cons.1 hx with e | hx'
    · rcases List.mem_cons.1 hy with e2 | hy'
      · rw [e, e2]
      · rw [e] at ho
        exact absurd ho (h'.1 y hy')
    · rcases List.mem_cons.1 hy with e2 | hy'
      · rw [e2] at ho
        exact absurd (one_comm ho) (h'.1 x hx')
      · exact ih h'.2 hx' hy'
/-- Whether anything changed. -/
theorem put_fst {l : List Rd} (r : Rd) : Apart l → ((put l r).1 = true ↔ ∀ y ∈ l, one y r → y.ten < r.ten) := by
  induction l with
  | nil =>
    intro _
    simp [put]
  | cons x l ih =>
    intro ha
    have h' := List.pairwise_cons.1 ha
    unfold put
    by_cases ho : one x r
    · rw [if_pos ho]
      have hl : ∀ z ∈ l, ¬ one z r := fun z hz hzr => h'.1 z hz (by unfold one at *; omega)
      split
      · rename_i hle
        constructor
        · intro h
          cases h
        · intro h
          have := h x List.mem_cons_self ho
          omega
      · rename_i hle
        simp only [true_iff]
        intro y hy hyr
        rcases List.mem_cons.1 hy with rfl | hy
        · omega
        · exact absurd hyr (hl y hy)
    · rw [if_neg ho]
      simp only
      rw [ih h'.2]
      constructor
      · intro h y hy hyr
        rcases List.mem_cons.1 hy with rfl | hy
        · exact absurd hyr ho
        · exact h y hy hyr
      · exact fun h y hy => h y (List.mem_cons_of_mem _ hy)
/-- Two lists of the same readings. -/
def Like (s l : List Rd) : Prop := ∀ x, x ∈ s ↔ x ∈ l
theorem like_fst {s l : List Rd} (hs : Apart s) (hl : Apart l) (h : Like s l) (r : Rd) : (put s r).1 = (put l r).1 := by
  rw [Bool.eq_iff_iff, put_fst r hs, put_fst r hl]
  exact ⟨fun k y hy => k y ((h y).2 hy), fun k y hy => k y ((h y).1 hy)⟩
theorem like_put {s l : List Rd} (hs : Apart s) (hl : Apart l) (h : Like s l) (r : Rd) : Like (put s r).2 (put l r).2 := by
  intro x
  rw [put_mem hs, put_mem hl, h x]
  constructor
  · rintro (h1 | ⟨y, h1, h2⟩ | ⟨h1, h2⟩)
    · exact .inl h1
    · exact .inr (.inl ⟨y, (h y).1 h1, h2⟩)
    · exact .inr (.inr ⟨fun y hy => h1 y ((h y).2 hy), h2⟩)
  · rintro (h1 | ⟨y, h1, h2⟩ | ⟨h1, h2⟩)
    · exact .inl h1
    · exact .inr (.inl ⟨y, (h y).2 h1, h2⟩)
    · exact .inr (.inr ⟨fun y hy => h1 y ((h y).1 hy), h2⟩)
theorem like_last {s l : List Rd} (hl : Apart l) (h : Like s l) (m : Int) : lastL s m = lastL l m := by
  rcases lastL_spec s m with ⟨h1, h2⟩ | ⟨y, h1, h2, h3, h4⟩
  · rcases lastL_spec l m with ⟨k1, _⟩ | ⟨z, _, k2, k3, _⟩
    · rw [h1, k1]
    · have := h2 z ((h z).2 k2)
      omega
  · rcases lastL_spec l m with ⟨_, k2⟩ | ⟨z, k1, k2, k3, k4⟩
    · have := k2 y ((h y).1 h2)
      omega
    · rw [h1, k1]
      congr 1
      refine apart_one hl ((h y).1 h2) k2 ?_
      rcases lt_or y z with h5 | h5 | h5
      · exact absurd h5 (h4 z ((h z).2 k2) k3)
      · exact h5
      · exact absurd h5 (k4 y ((h y).1 h2) h3)
theorem like_cnt {s l : List Rd} (hl : Apart l) (h : Like s l) (ga m : Int) : cnt ga s m = cnt ga l m := by
  unfold cnt
  rw [like_last hl h]
theorem like_air {s l : List Rd} (hl : Apart l) (h : Like s l) (wo ga m : Int) : air wo ga s m = air wo ga l m := by
  unfold air
  rw [like_cnt hl h]
/-- The least Minute above a minute. -/
theorem nextL_spec (l : List Rd) (m : Int) (h0 : ∀ x ∈ l, 0 ≤ x.min) : (nextL l m = -1 ∧ ∀ x ∈ l, x.min ≤ m) ∨ (m < nextL l m ∧ 0 ≤ nextL l m ∧ (∃ y ∈ l, y.min = nextL l m) ∧ ∀ x ∈ l, m < x.min → nextL l m ≤ x.min) := by
  suffices H : ∀ (n : Nat) (k : List Rd), k.length = n → (∀ x ∈ k, 0 ≤ x.min) → (nextL k m = -1 ∧ ∀ x ∈ k, x.min ≤ m) ∨ (m < nextL k m ∧ 0 ≤ nextL k m ∧ (∃ y ∈ k, y.min = nextL k m) ∧ ∀ x ∈ k, m < x.min → nextL k m ≤ x.min) from H _ l rfl h0
  intro n
  induction n with
  | zero =>
    intro k hk _
    obtain rfl : k = [] := List.eq_nil_of_length_eq_zero hk
    exact .inl ⟨rfl, by simp⟩
  | succ n ih =>
    intro k hk h0
    obtain ⟨k', x, rfl⟩ : ∃ k' x, k = k' ++ [x] := by
      have hne : k ≠ [] := by
        rintro rfl
        simp at hk
      exact ⟨k.dropLast, k.getLast hne, (List.dropLast_concat_getLast hne).symm⟩
    have hk' : k'.length = n := by simpa using hk
    have hx := h0 x (by simp)
    have IH := ih k' hk' (fun z hz => h0 z (List.mem_append_left _ hz))
    rw [nextL_snoc]
    generalize nextL k' m = u at *
    unfold nextStep
    by_cases hc : m < x.min ∧ (u < 0 ∨ x.min < u)
    · rw [if_pos hc]
      refine .inr ⟨hc.1, hx, ⟨x, by simp, rfl⟩, fun z hz hzm => ?_⟩
      rcases List.mem_append.1 hz with hz | hz
      · rcases IH with ⟨h1, h2⟩ | ⟨h1, h2, _, h4⟩
        · have := h2 z hz
          omega
        · have := h4 z hz hzm
          omega
      · rw [List.mem_singleton.1 hz]
        exact Int.le_refl _
    · rw [if_neg hc]
      rcases IH with ⟨h1, h2⟩ | ⟨h1, h2, ⟨y, hy, h3⟩, h4⟩
      · refine .inl ⟨h1, fun z hz => ?_⟩
        rcases List.mem_append.1 hz with hz | hz
        · exact h2 z hz
        · rw [List.mem_singleton.1 hz]
          omega
      · refine .inr ⟨h1, h2, ⟨y, List.mem_append_left _ hy, h3⟩, fun z hz hzm => ?_⟩
        rcases List.mem_append.1 hz with hz | hz
        · exact h4 z hz hzm
        · rw [List.mem_singleton.1 hz] at hzm ⊢
          omega
theorem like_nextL {s l : List Rd} (h : Like s l) (h0 : ∀ x ∈ l, 0 ≤ x.min) (m : Int) : nextL s m = nextL l m := by
  rcases nextL_spec s m (fun x hx => h0 x ((h x).1 hx)) with ⟨h1, h2⟩ | ⟨h1, _, ⟨y, hy, h3⟩, h4⟩
  · rcases nextL_spec l m h0 with ⟨k1, _⟩ | ⟨k1, _, ⟨z, hz, k3⟩, _⟩
    · rw [h1, k1]
    · have := h2 z ((h z).2 hz)
      omega
  · rcases nextL_spec l m h0 with ⟨_, k2⟩ | ⟨k1, _, ⟨z, hz, k3⟩, k4⟩
    · have := k2 y ((h y).1 hy)
      omega
    · have a := h4 z ((h z).2 hz) (by omega)
      have b := k4 y ((h y).1 hy) (by omega)
      omega
theorem like_next {s l : List Rd} (hl : Apart l) (h : Like s l) (h0 : ∀ x ∈ l, 0 ≤ x.min) (ga m : Int) : next ga s m = next ga l m := by
  unfold next
  rw [like_cnt hl h, like_nextL h h0]
theorem like_sort {s l : List Rd} (hs : Apart s) (hl : Apart l) (h : Like s l) : sortL s = sortL l :=
  sorted_eq (sorted_sort hs) (sorted_sort hl) fun x => by rw [mem_sort, mem_sort, h x]
theorem sort_self {s : List Rd} (h : Sorted s) : sortL s = s :=
  sorted_eq (sorted_sort (sorted_apart h)) h fun x => mem_sort s x
theorem like_sorted (l : List Rd) : Like (sortL l) l := fun x => mem_sort l x
/-- What all readings lead to, one by one. -/
def puts (l : List Rd) : List Rd := l.foldl (fun L r => (putR L r).2.2) []
theorem puts_snoc (l : List Rd) (r : Rd) : puts (l ++ [r]) = (putR (puts l) r).2.2 := by simp [puts]
theorem putR_yes (L : List Rd) {r : Rd} (h : rightB r = true) : (putR L r).2.2 = (put L r).2 := by
  unfold putR
  rw [if_pos h]
theorem putR_no (L : List Rd) {r : Rd} (h : ¬ rightB r = true) : (putR L r).2.2 = L := by
  unfold putR
  rw [if_neg h]
/-- The readings that are there at last: of each place the greatest. -/
theorem puts_spec (l : List Rd) : Apart (puts l) ∧ (∀ x, x ∈ puts l ↔ rightB x = true ∧ x ∈ l ∧ ∀ y ∈ l, rightB y = true → one y x → y.ten ≤ x.ten) ∧ (∀ z ∈ l, rightB z = true → ∃ y ∈ puts l, one y z ∧ z.ten ≤ y.ten) := by
  suffices H : ∀ (n : Nat) (k : List Rd), k.length = n → Apart (puts k) ∧ (∀ x, x ∈ puts k ↔ rightB x = true ∧ x ∈ k ∧ ∀ y ∈ k, rightB y = true → one y x → y.ten ≤ x.ten) ∧ (∀ z ∈ k, rightB z = true → ∃ y ∈ puts k, one y z ∧ z.ten ≤ y.ten) from H _ l rfl
  intro n
  induction n with
  | zero =>
    intro k hk
    obtain rfl : k = [] := List.eq_nil_of_length_eq_zero hk
    exact ⟨by simp [puts, Apart], by simp [puts], by simp⟩
  | succ n ih =>
    intro k hk
    obtain ⟨k', r, rfl⟩ : ∃ k' x, k = k' ++ [x] := by
      have hne : k ≠ [] := by
        rintro rfl
        simp at hk
      exact ⟨k.dropLast, k.getLast hne, (List.dropLast_concat_getLast hne).symm⟩
    have hk' : k'.length = n := by simpa using hk
    obtain ⟨hA, hM, hE⟩ := ih k' hk'
    rw [puts_snoc]
    by_cases hr : rightB r = true
    · rw [putR_yes _ hr]
      refine ⟨put_apart hA r, fun x => ?_, fun z hz hzr => ?_⟩
      · rw [put_mem hA]
        constructor
        · rintro (⟨hx, hn⟩ | ⟨y, hy, hyr, rfl⟩ | ⟨hn, rfl⟩)
          · obtain ⟨a, b, c⟩ := (hM x).1 hx
            refine ⟨a, List.mem_append_left _ b, fun y hy hyr hyx => ?_⟩
            rcases List.mem_append.1 hy with hy | hy
            · exact c y hy hyr hyx
            · rw [List.mem_singleton.1 hy] at hyx
              exact absurd (one_comm hyx) hn
          · obtain ⟨a, b, c⟩ := (hM y).1 hy
            have h1 := right_of a
            have h2 := right_of hr
            have hyr' := hyr
            refine ⟨?_, ?_, fun u hu hur hux => ?_⟩
            · simp only [rightB, decide_eq_true_eq]
              omega
            · by_cases hle : y.ten ≤ r.ten
              · rw [show max y.ten r.ten = r.ten by omega]
                exact List.mem_append_right _ (by simp)
              · rw [show (⟨r.min, r.seq, max y.ten r.ten⟩ : Rd) = y by
                  obtain ⟨ym, ys, yt⟩ := y
                  simp only [one] at hyr'
                  simp only at hle
                  simp only [Rd.mk.injEq]
                  omega]
                exact List.mem_append_left _ b
            · rcases List.mem_append.1 hu with hu | hu
              · have hux' : one u y := by
                  simp only [one] at *
                  omega
                have := c u hu hur hux'
                simp only
                omega
              · rw [List.mem_singleton.1 hu]
                simp only
                omega
          · refine ⟨hr, List.mem_append_right _ (by simp), fun u hu hur hux => ?_⟩
            rcases List.mem_append.1 hu with hu | hu
            · obtain ⟨y, hy, hyu, _⟩ := hE u hu hur
              exact absurd (show one y x by simp only [one] at *; omega) (hn y hy)
            · rw [List.mem_singleton.1 hu]
              exact Int.le_refl _
        · rintro ⟨a, b, c⟩
          by_cases ho : one x r
          · by_cases hex : ∃ y ∈ puts k', one y r
            · obtain ⟨y, hy, hyr⟩ := hex
              obtain ⟨a', b', c'⟩ := (hM y).1 hy
              refine .inr (.inl ⟨y, hy, hyr, ?_⟩)
              have h1 := c y (List.mem_append_left _ b') a' (by simp only [one] at *; omega)
              have h2 := c r (List.mem_append_right _ (by simp)) hr (one_comm ho)
              have h3 : x.ten ≤ max y.ten r.ten := by
                rcases List.mem_append.1 b with b | b
                · have := c' x b a (by simp only [one] at *; omega)
                  omega
                · rw [List.mem_singleton.1 b]
                  omega
              obtain ⟨xm, xs, xt⟩ := x
              simp only [one] at ho
              simp only at h1 h2 h3
              simp only [Rd.mk.injEq]
              omega
            · have hn : ∀ y ∈ puts k', ¬ one y r := fun y hy hyr => hex ⟨y, hy, hyr⟩
              refine .inr (.inr ⟨hn, ?_⟩)
              rcases List.mem_append.1 b with b | b
              · obtain ⟨y, hy, hyx, _⟩ := hE x b a
                exact absurd (show one y r by simp only [one] at *; omega) (hn y hy)
              · exact List.mem_singleton.1 b
          · refine .inl ⟨(hM x).2 ⟨a, ?_, fun y hy => c y (List.mem_append_left _ hy)⟩, ho⟩
            rcases List.mem_append.1 b with b | b
            · exact b
            · rw [List.mem_singleton.1 b] at ho
              exact absurd (one_refl r) ho
      · rcases List.mem_append.1 hz with hz | hz
        · obtain ⟨y, hy, hyz, hle⟩ := hE z hz hzr
          by_cases ho : one y r
          · refine ⟨⟨r.min, r.seq, max y.ten r.ten⟩, (put_mem hA r _).2 (.inr (.inl ⟨y, hy, ho, rfl⟩)), ?_, ?_⟩
            · simp only [one] at *
              omega
            · simp only
              omega
          · exact ⟨y, (put_mem hA r _).2 (.inl ⟨hy, ho⟩), hyz, hle⟩
        · rw [List.mem_singleton.1 hz]
          by_cases hex : ∃ y ∈ puts k', one y r
          · obtain ⟨y, hy, hyr⟩ := hex
            refine ⟨⟨r.min, r.seq, max y.ten r.ten⟩, (put_mem hA r _).2 (.inr (.inl ⟨y, hy, hyr, rfl⟩)), ⟨rfl, rfl⟩, ?_⟩
            simp only
            omega
          · exact ⟨r, (put_mem hA r _).2 (.inr (.inr ⟨fun y hy hyr => hex ⟨y, hy, hyr⟩, rfl⟩)), one_refl r, Int.le_refl _⟩
    · rw [putR_no _ hr]
      refine ⟨hA, fun x => ?_, fun z hz hzr => ?_⟩
      · rw [hM x]
        constructor
        · rintro ⟨a, b, c⟩
          refine ⟨a, List.mem_append_left _ b, fun y hy hyr => ?_⟩
          rcases List.mem_append.1 hy with hy | hy
          · exact c y hy hyr
          · rw [List.mem_singleton.1 hy] at hyr
            exact absurd hyr hr
        · rintro ⟨a, b, c⟩
          refine ⟨a, ?_, fun y hy => c y (List.mem_append_left _ hy)⟩
          rcases List.mem_append.1 b with b | b
          · exact b
          · rw [List.mem_singleton.1 b] at a
            exact absurd a hr
      · rcases List.mem_append.1 hz with hz | hz
        · exact hE z hz hzr
        · rw [List.mem_singleton.1 hz] at hzr
          exact absurd hzr hr
/-- In any order. -/
theorem puts_like {l m : List Rd} (h : ∀ x, x ∈ l ↔ x ∈ m) : Like (puts l) (puts m) := by
  intro x
  rw [(puts_spec l).2.1, (puts_spec m).2.1]
  constructor
  · exact fun ⟨a, b, c⟩ => ⟨a, (h x).1 b, fun y hy => c y ((h y).2 hy)⟩
  · exact fun ⟨a, b, c⟩ => ⟨a, (h x).2 b, fun y hy => c y ((h y).1 hy)⟩
theorem puts_right (l : List Rd) : ∀ x ∈ puts l, rightB x = true := fun x hx => (((puts_spec l).2.1 x).1 hx).1
theorem puts_len (l : List Rd) : (puts l).length ≤ l.length := by
  suffices H : ∀ (n : Nat) (k : List Rd), k.length = n → (puts k).length ≤ n by
    exact H _ l rfl
  intro n
  induction n with
  | zero =>
    intro k hk
    obtain rfl : k = [] := List.eq_nil_of_length_eq_zero hk
    simp [puts]
  | succ n ih =>
    intro k hk
    obtain ⟨k', x, rfl⟩ : ∃ k' x, k = k' ++ [x] := by
      have hne : k ≠ [] := by
        rintro rfl
        simp at hk
      exact ⟨k.dropLast, k.getLast hne, (List.dropLast_concat_getLast hne).symm⟩
    have hk' : k'.length = n := by simpa using hk
    have := ih k' hk'
    rw [puts_snoc]
    by_cases hr : rightB x = true
    · rw [putR_yes _ hr]
      have := put_len (puts k') x
      omega
    · rw [putR_no _ hr]
      omega
end Go.Proofs.Ytfdakkghikimcaa.Se
