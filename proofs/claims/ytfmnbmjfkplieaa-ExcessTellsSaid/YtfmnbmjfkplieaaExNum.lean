/- Excess in plain words: a minute's, and their sum. No condition but those written. -/
import Derived.Test.YtfmnbmjfkplieaaSePn
import Derived.Test.YtfmnbmjfkplieaaSeSil
namespace Go.Proofs.Ytfmnbmjfkplieaa.Ex
open Se

/-- A minute's excess. -/
def exc (wo ga lim : Int) (L : List Rd) (m : Int) : Int := if m < 0 ∨ 1048575 < m then 0 else max 0 (air wo ga L m - lim)
/-- The sum of k minutes from one on. -/
def run (f : Int → Int) (a : Int) : Nat → Int
  | 0 => 0
  | k + 1 => run f a k + f (a + k)
theorem run_add (f : Int → Int) (a : Int) (j k : Nat) : run f a (j + k) = run f a j + run f (a + j) k := by
  induction k with
  | zero => simp [run]
  | succ k ih =>
    rw [← Nat.add_assoc, run, run, ih, Int.natCast_add, Int.add_assoc, Int.add_assoc]
theorem run_nn {f : Int → Int} (h : ∀ m, 0 ≤ f m) (a : Int) (k : Nat) : 0 ≤ run f a k := by
  induction k with
  | zero => exact Int.le_refl _
  | succ k ih =>
    have := h (a + k)
    rw [run]
    omega
theorem run_le {f : Int → Int} {c : Int} (h : ∀ m, f m ≤ c) (a : Int) (k : Nat) : run f a k ≤ c * k := by
  induction k with
  | zero => simp [run]
  | succ k ih =>
    have := h (a + k)
    rw [run, Int.natCast_add, Int.mul_add]
    omega
theorem run_mono {f g : Int → Int} (h : ∀ m, f m ≤ g m) (a : Int) (k : Nat) : run f a k ≤ run g a k := by
  induction k with
  | zero => exact Int.le_refl _
  | succ k ih =>
    have := h (a + k)
    rw [run, run]
    omega
theorem run_same {f : Int → Int} {a c : Int} {k : Nat} (h : ∀ j : Nat, j < k → f (a + j) = c) : run f a k = c * k := by
  induction k with
  | zero => simp [run]
  | succ k ih =>
    rw [run, ih (fun j hj => h j (by omega)), h k (by omega), Int.natCast_add, Int.mul_add]
    omega
theorem run_congr {f g : Int → Int} {a : Int} {k : Nat} (h : ∀ j : Nat, j < k → f (a + j) = g (a + j)) : run f a k = run g a k := by
  induction k with
  | zero => rfl
  | succ k ih =>
    rw [run, run, ih (fun j hj => h j (by omega)), h k (by omega)]
/-- The sum from a minute up to another one. -/
def tot (wo ga lim : Int) (L : List Rd) (a b : Int) : Int := run (exc wo ga lim L) (max a 0) (min b 1048576 - max a 0).toNat
theorem exc_nn (wo ga lim : Int) (L : List Rd) (m : Int) : 0 ≤ exc wo ga lim L m := by
  unfold exc
  split <;> omega
theorem air_bd {wo ga : Int} {L : List Rd} (hm : mayB wo ga = true) (hr : ∀ x ∈ L, rightB x = true) (m : Int) : -1099511627776 ≤ air wo ga L m ∧ air wo ga L m ≤ 1099511627776 := by
  have h := may_of hm
  rcases air_or wo ga m L with h1 | ⟨x, hx, h1⟩
  · omega
  · have := right_of (hr x hx)
    omega
theorem exc_le {wo ga lim : Int} {L : List Rd} (hm : mayB wo ga = true) (hr : ∀ x ∈ L, rightB x = true) (hl : tenB lim = true) (m : Int) : exc wo ga lim L m ≤ 2199023255552 := by
  have h := air_bd hm hr m
  have hl' : -1099511627776 ≤ lim ∧ lim ≤ 1099511627776 := by simpa [tenB] using hl
  unfold exc
  split <;> omega
theorem tot_nn (wo ga lim : Int) (L : List Rd) (a b : Int) : 0 ≤ tot wo ga lim L a b := run_nn (exc_nn wo ga lim L) _ _
theorem run_bd {wo ga lim : Int} {L : List Rd} (hm : mayB wo ga = true) (hr : ∀ x ∈ L, rightB x = true) (hl : tenB lim = true) (a : Int) (k : Nat) (hk : k ≤ 1048576) : 0 ≤ run (exc wo ga lim L) a k ∧ run (exc wo ga lim L) a k ≤ 2305843009213693952 := by
  refine ⟨run_nn (exc_nn wo ga lim L) _ _, ?_⟩
  have h1 := run_le (exc_le hm hr hl) a k
  have h2 : (2199023255552 : Int) * (k : Int) ≤ 2199023255552 * 1048576 := Int.mul_le_mul_of_nonneg_left (by omega) (by decide)
  omega
theorem tot_bd {wo ga lim : Int} {L : List Rd} (hm : mayB wo ga = true) (hr : ∀ x ∈ L, rightB x = true) (hl : tenB lim = true) (a b : Int) : 0 ≤ tot wo ga lim L a b ∧ tot wo ga lim L a b ≤ 2305843009213693952 :=
  run_bd hm hr hl _ _ (by omega)
theorem tot_none {wo ga lim : Int} {L : List Rd} {a b : Int} (h : b ≤ a ∨ b ≤ 0 ∨ 1048576 ≤ a) : tot wo ga lim L a b = 0 := by
  unfold tot
  rw [show (min b 1048576 - max a 0).toNat = 0 by omega]
  rfl
/-- Added. -/
theorem tot_add (wo ga lim : Int) (L : List Rd) {a b c : Int} (h1 : a ≤ b) (h2 : b ≤ c) : tot wo ga lim L a c = tot wo ga lim L a b + tot wo ga lim L b c := by
  by_cases h0 : b ≤ 0
  · rw [tot_none (b := b) (.inr (.inl h0)), Int.zero_add]
    unfold tot
    rw [show max a 0 = 0 by omega, show max b 0 = 0 by omega]
  · by_cases h3 : 1048576 ≤ b
    · rw [tot_none (a := b) (.inr (.inr h3)), Int.add_zero]
      unfold tot
      rw [show min c 1048576 = 1048576 by omega, show min b 1048576 = 1048576 by omega]
    · unfold tot
      by_cases h4 : a ≤ 1048576
      · rw [show (min c 1048576 - max a 0).toNat = (min b 1048576 - max a 0).toNat + (min c 1048576 - max b 0).toNat by omega, run_add]
        congr 2
        omega
      · omega
/-- Over a higher limit it is not greater. -/
theorem exc_lim {lim lim2 : Int} (h : lim ≤ lim2) (wo ga : Int) (L : List Rd) (m : Int) : exc wo ga lim2 L m ≤ exc wo ga lim L m := by
  unfold exc
  split <;> omega
theorem tot_lim {lim lim2 : Int} (h : lim ≤ lim2) (wo ga : Int) (L : List Rd) (a b : Int) : tot wo ga lim2 L a b ≤ tot wo ga lim L a b := run_mono (exc_lim h wo ga L) _ _
/-- The same readings have the same sums. -/
theorem tot_like {S L : List Rd} (hl : Apart L) (h : Like S L) (wo ga lim a b : Int) : tot wo ga lim S a b = tot wo ga lim L a b := by
  have e : exc wo ga lim S = exc wo ga lim L := by
    funext m
    unfold exc
    rw [like_air hl h]
  unfold tot
  rw [e]
/-- A run of minutes up to the next one: the air is the same. -/
theorem exc_run {wo ga lim m : Int} {L : List Rd} (h0 : ∀ x ∈ L, 0 ≤ x.min) (hm0 : 0 ≤ m) {k : Nat} (hk : m + k ≤ 1048576) (hn : next ga L m < 0 ∨ m + k ≤ next ga L m) : run (exc wo ga lim L) m k = max 0 (air wo ga L m - lim) * k := by
  refine run_same fun j hj => ?_
  unfold exc
  rw [if_neg (by omega), air_same h0 (by omega) (by omega)]
/-- Readings at the same places, the one's not less warm than the other one's. -/
def Warm (S T : List Rd) : Prop := (∀ z ∈ S, ∃ z' ∈ T, z'.min = z.min ∧ z'.seq = z.seq ∧ z.ten ≤ z'.ten) ∧ (∀ z' ∈ T, ∃ z ∈ S, z'.min = z.min ∧ z'.seq = z.seq ∧ z.ten ≤ z'.ten)
theorem air_warm {wo ga : Int} {S T : List Rd} (hA : Apart S) (h : Warm S T) (m : Int) : air wo ga S m ≤ air wo ga T m := by
  unfold air cnt
  rcases lastL_spec S m with ⟨h1, h2⟩ | ⟨y, h1, h2, h3, h4⟩
  · rcases lastL_spec T m with ⟨k1, _⟩ | ⟨z', _, k2, k3, _⟩
    · rw [h1, k1]
      exact Int.le_refl _
    · obtain ⟨z, hz, e1, _, _⟩ := h.2 z' k2
      have := h2 z hz
      omega
  · rcases lastL_spec T m with ⟨_, k2⟩ | ⟨z', k1, k2, k3, k4⟩
    · obtain ⟨y', hy', e1, _, _⟩ := h.1 y h2
      have := k2 y' hy'
      omega
    · obtain ⟨z, hz, e1, e2, e3⟩ := h.2 z' k2
      obtain ⟨y', hy', f1, f2, f3⟩ := h.1 y h2
      have g1 := h4 z hz (by omega)
      have g2 := k4 y' hy' (by omega)
      have ho : one y z := by
        unfold lt at g1 g2
        unfold one
        omega
      have e := apart_one hA h2 hz ho
      subst e
      rw [h1, k1]
      simp only [cntOf]
      by_cases hg : ga < m - y.min
      · rw [if_pos hg, if_pos (by omega)]
        exact Int.le_refl _
      · rw [if_neg hg, if_neg (by omega)]
        exact e3
theorem tot_warm {wo ga : Int} {S T : List Rd} (hA : Apart S) (h : Warm S T) (lim a b : Int) : tot wo ga lim S a b ≤ tot wo ga lim T a b := by
  refine run_mono (fun m => ?_) _ _
  have := air_warm (wo := wo) (ga := ga) hA h m
  unfold exc
  split <;> omega
theorem warm_put {S : List Rd} (hs : Sorted S) {x : Rd} {i : Nat} (hx : S[i]? = some x) {t : Int} : Warm S (put S ⟨x.min, x.seq, t⟩).2 := by
  have hxm := List.mem_of_getElem? hx
  refine ⟨fun z hz => ?_, fun z' hz' => ?_⟩
  · by_cases ho : one z ⟨x.min, x.seq, t⟩
    · refine ⟨⟨x.min, x.seq, max z.ten t⟩, (put_mem (sorted_apart hs) _ _).2 (.inr (.inl ⟨z, hz, ho, rfl⟩)), ?_, ?_, ?_⟩
      · exact ho.1.symm
      · exact ho.2.symm
      · simp only
        omega
    · exact ⟨z, (put_mem (sorted_apart hs) _ _).2 (.inl ⟨hz, ho⟩), rfl, rfl, Int.le_refl _⟩
  · rcases (put_mem (sorted_apart hs) _ _).1 hz' with ⟨h1, _⟩ | ⟨y, hy, hyo, e⟩ | ⟨h1, _⟩
    · exact ⟨z', h1, rfl, rfl, Int.le_refl _⟩
    · subst e
      refine ⟨y, hy, hyo.1.symm, hyo.2.symm, ?_⟩
      simp only
      omega
    · exact absurd ⟨rfl, rfl⟩ (h1 x hxm)
end Go.Proofs.Ytfmnbmjfkplieaa.Ex
