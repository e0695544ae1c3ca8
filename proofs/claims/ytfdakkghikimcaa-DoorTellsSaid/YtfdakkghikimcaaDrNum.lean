/- Doors in plain words: marks are readings whose tenths are 0 or 1; runs. No condition but those written. -/
import Derived.Test.YtfdakkghikimcaaSePn
import Derived.Test.YtfdakkghikimcaaSeSil
namespace Go.Proofs.Ytfdakkghikimcaa.Dr
open Se

/-- Is a mark open? -/
def opB (x : Rd) : Bool := decide (x.ten = 1)
/-- A mark's last word is a bool. -/
def binB (x : Rd) : Bool := decide (x.ten = 0 ∨ x.ten = 1)
def tenOf (b : Bool) : Int := if b then 1 else 0
theorem opB_of (m s : Int) (b : Bool) : opB ⟨m, s, tenOf b⟩ = b := by cases b <;> simp [opB, tenOf]
theorem binB_of (m s : Int) (b : Bool) : binB ⟨m, s, tenOf b⟩ = true := by cases b <;> simp [binB, tenOf]
theorem ten_opB {x : Rd} (h : binB x = true) : x.ten = tenOf (opB x) := by
  have h : x.ten = 0 ∨ x.ten = 1 := by simpa [binB] using h
  unfold tenOf opB
  rcases h with h | h <;> simp [h]
/-- Is the door open at a minute? -/
def opn (L : List Rd) (m : Int) : Bool := match lastL L m with
  | none => false
  | some y => opB y
theorem opn_like {S L : List Rd} (hl : Apart L) (h : Like S L) (m : Int) : opn S m = opn L m := by
  unfold opn
  rw [like_last hl h]
theorem opn_none {L : List Rd} {m : Int} (h0 : ∀ x ∈ L, m < x.min) : opn L m = false := by
  unfold opn
  rcases lastL_spec L m with ⟨h1, _⟩ | ⟨y, _, h2, h3, _⟩
  · rw [h1]
  · have := h0 y h2
    omega
/-- From a minute up to the next mark the door is as it is. -/
theorem opn_same {L : List Rd} {m t : Int} (h : m ≤ t) (hn : ∀ x ∈ L, m < x.min → t < x.min) : opn L t = opn L m := by
  have e := last_same (m := m) (f := t - m) (l := L) (by omega) (fun x hx hm => by have := hn x hx hm; omega)
  rw [show m + (t - m) = t by omega] at e
  unfold opn
  rw [e]
/-- The least minute above one at which a mark stands. -/
def nxt (L : List Rd) (m : Int) : Int := L.foldl (fun n x => if m < x.min ∧ x.min < n then x.min else n) 1048576
theorem nxt_snoc (L : List Rd) (x : Rd) (m : Int) : nxt (L ++ [x]) m = if m < x.min ∧ x.min < nxt L m then x.min else nxt L m := by unfold nxt; rw [List.foldl_append]; rfl
theorem nxt_spec (L : List Rd) (m : Int) : nxt L m ≤ 1048576 ∧ (m < 1048576 → m < nxt L m) ∧ (∀ x ∈ L, m < x.min → nxt L m ≤ x.min) := by
  have key : ∀ l : List Rd, nxt l.reverse m ≤ 1048576 ∧ (m < 1048576 → m < nxt l.reverse m) ∧ (∀ x ∈ l.reverse, m < x.min → nxt l.reverse m ≤ x.min) := by
    intro l
    induction l with
    | nil => exact ⟨Int.le_refl _, fun h => h, fun x hx => by simp at hx⟩
    | cons y l ih =>
      obtain ⟨h1, h2, h3⟩ := ih
      rw [List.reverse_cons, nxt_snoc]
      split
      · rename_i hc
        refine ⟨by omega, fun _ => hc.1, fun x hx hm => ?_⟩
        rcases List.mem_append.1 hx with hx | hx
        · have := h3 x hx hm
          omega
        · rw [List.mem_singleton.1 hx]
          exact Int.le_refl _
      · rename_i hc
        refine ⟨h1, h2, fun x hx hm => ?_⟩
        rcases List.mem_append.1 hx with hx | hx
        · exact h3 x hx hm
        · rw [List.mem_singleton.1 hx] at hm ⊢
          omega
  have := key L.reverse
  rwa [List.reverse_reverse] at this
/-- A run. -/
structure Ru where
  a : Int
  b : Int
  deriving DecidableEq
/-- Runs of minutes, as many as there are, up to one. -/
structure RunsOf (P : Int → Bool) (e : Int) (R : List Ru) : Prop where
  each : ∀ r ∈ R, 0 ≤ r.a ∧ r.a < r.b ∧ r.b ≤ e ∧ ∀ t, r.a ≤ t → t < r.b → P t = true
  rise : R.Pairwise fun r s => r.b < s.a
  all : ∀ t, 0 ≤ t → t < e → P t = true → ∃ r ∈ R, r.a ≤ t ∧ t < r.b
theorem runs_nil {P : Int → Bool} {e : Int} (h : e ≤ 0) : RunsOf P e [] := ⟨fun r hr => by simp at hr, List.Pairwise.nil, fun t h0 h1 => by omega⟩
/-- What begins first is the same. -/
theorem runs_head {P : Int → Bool} {e : Int} {r s : Ru} {R S : List Ru} (h : RunsOf P e (r :: R)) (k : RunsOf P e (s :: S)) : r = s := by
  have hr := h.each r (by simp)
  have hs := k.each s (by simp)
  have h1 := (List.pairwise_cons.1 h.rise).1
  have k1 := (List.pairwise_cons.1 k.rise).1
  have low : ∀ {r s : Ru} {R S : List Ru}, RunsOf P e (r :: R) → RunsOf P e (s :: S) → s.a ≤ r.a := by
    intro r s R S h k
    have hr := h.each r (by simp)
    have k1 := (List.pairwise_cons.1 k.rise).1
    have hs := k.each s (by simp)
    obtain ⟨q, hq, q1, q2⟩ := k.all r.a hr.1 (by omega) (hr.2.2.2 r.a (Int.le_refl _) hr.2.1)
    rcases List.mem_cons.1 hq with rfl | hq
    · exact q1
    · have := k1 q hq
      omega
  have ea : r.a = s.a := Int.le_antisymm (low k h) (low h k)
  have up : ∀ {r s : Ru} {R S : List Ru}, RunsOf P e (r :: R) → RunsOf P e (s :: S) → r.a = s.a → r.b ≤ s.b := by
    intro r s R S h k ea
    have hr := h.each r (by simp)
    have hs := k.each s (by simp)
    have k1 := (List.pairwise_cons.1 k.rise).1
    by_cases hb : r.b ≤ s.b
    · exact hb
    · obtain ⟨q, hq, q1, q2⟩ := k.all s.b (by omega) (by omega) (hr.2.2.2 s.b (by omega) (by omega))
      rcases List.mem_cons.1 hq with rfl | hq
      · omega
      · have := k1 q hq
        omega
  have eb : r.b = s.b := Int.le_antisymm (up h k ea) (up k h ea.symm)
  cases r
  cases s
  simp only at ea eb
  rw [ea, eb]
/-- Behind a first run the rest is that of the minutes behind it. -/
theorem runs_tail {P : Int → Bool} {e : Int} {r : Ru} {R : List Ru} (h : RunsOf P e (r :: R)) : RunsOf (fun t => P t && decide (r.b ≤ t)) e R := by
  have h1 := List.pairwise_cons.1 h.rise
  refine ⟨fun s hs => ?_, h1.2, fun t t0 te ht => ?_⟩
  · have := h.each s (by simp [hs])
    have h2 := h1.1 s hs
    refine ⟨this.1, this.2.1, this.2.2.1, fun t ta tb => ?_⟩
    rw [this.2.2.2 t ta tb, Bool.true_and, decide_eq_true_eq]
    omega
  · rw [Bool.and_eq_true, decide_eq_true_eq] at ht
    obtain ⟨s, hs, s1, s2⟩ := h.all t t0 te ht.1
    rcases List.mem_cons.1 hs with rfl | hs
    · omega
    · exact ⟨s, hs, s1, s2⟩
theorem runs_unique {e : Int} : ∀ {R S : List Ru} {P : Int → Bool}, RunsOf P e R → RunsOf P e S → R = S
  | [], [], _, _, _ => rfl
  | [], s :: S, _, h, k => by
    have hs := k.each s (by simp)
    obtain ⟨q, hq, _⟩ := h.all s.a hs.1 (by omega) (hs.2.2.2 s.a (Int.le_refl _) hs.2.1)
    simp at hq
  | r :: R, [], _, h, k => by
    have hr := h.each r (by simp)
    obtain ⟨q, hq, _⟩ := k.all r.a hr.1 (by omega) (hr.2.2.2 r.a (Int.le_refl _) hr.2.1)
    simp at hq
  | r :: R, s :: S, _, h, k => by
    have e1 := runs_head h k
    subst e1
    rw [runs_unique (runs_tail h) (runs_tail k)]
theorem runs_skip {P : Int → Bool} {m t : Int} {R : List Ru} (h : RunsOf P m R) (hmt : m ≤ t) (hp : ∀ s, m ≤ s → s < t → P s = false) : RunsOf P t R := by
  refine ⟨fun r hr => ?_, h.rise, fun s s0 s1 hs => ?_⟩
  · have := h.each r hr
    exact ⟨this.1, this.2.1, by omega, this.2.2.2⟩
  · by_cases hsm : s < m
    · exact h.all s s0 hsm hs
    · rw [hp s (by omega) s1] at hs
      cases hs
theorem runs_new {P : Int → Bool} {m t : Int} {R : List Ru} (h : RunsOf P m R) (h0 : 0 ≤ m) (hmt : m < t) (hp : ∀ s, m ≤ s → s < t → P s = true) (hl : ∀ r ∈ R, r.b < m) : RunsOf P t (R ++ [⟨m, t⟩]) := by
  refine ⟨fun r hr => ?_, List.pairwise_append.2 ⟨h.rise, by simp, fun r hr s hs => ?_⟩, fun s s0 s1 hs => ?_⟩
  · rcases List.mem_append.1 hr with hr | hr
    · have := h.each r hr
      exact ⟨this.1, this.2.1, by omega, this.2.2.2⟩
    · rw [List.mem_singleton.1 hr]
      exact ⟨h0, hmt, Int.le_refl _, hp⟩
  · rw [List.mem_singleton.1 hs]
    exact hl r hr
  · by_cases hsm : s < m
    · obtain ⟨r, hr, h1⟩ := h.all s s0 hsm hs
      exact ⟨r, by simp [hr], h1⟩
    · exact ⟨⟨m, t⟩, by simp, by simp only; omega, s1⟩
theorem runs_long {P : Int → Bool} {m t : Int} {R : List Ru} {r : Ru} (h : RunsOf P m (R ++ [r])) (hr : r.b = m) (hmt : m < t) (hp : ∀ s, m ≤ s → s < t → P s = true) : RunsOf P t (R ++ [⟨r.a, t⟩]) := by
  have hq := h.each r (by simp)
  have hpw := List.pairwise_append.1 h.rise
  refine ⟨fun s hs => ?_, List.pairwise_append.2 ⟨hpw.1, by simp, fun s hs q hq' => ?_⟩, fun s s0 s1 hs => ?_⟩
  · rcases List.mem_append.1 hs with hs | hs
    · have := h.each s (by simp [hs])
      exact ⟨this.1, this.2.1, by omega, this.2.2.2⟩
    · rw [List.mem_singleton.1 hs]
      refine ⟨hq.1, by simp only; omega, Int.le_refl _, fun u u0 u1 => ?_⟩
      by_cases hu : u < m
      · exact hq.2.2.2 u u0 (by omega)
      · exact hp u (by omega) u1
  · rw [List.mem_singleton.1 hq']
    exact hpw.2.2 s hs r (by simp)
  · by_cases hsm : s < m
    · obtain ⟨q, hq', q1, q2⟩ := h.all s s0 hsm hs
      rcases List.mem_append.1 hq' with hq' | hq'
      · exact ⟨q, by simp [hq'], q1, q2⟩
      · rw [List.mem_singleton.1 hq'] at q1 q2
        exact ⟨⟨r.a, t⟩, by simp, q1, by simp only; omega⟩
    · exact ⟨⟨r.a, t⟩, by simp, by simp only; omega, s1⟩
/-- Runs that last longer than so many minutes. -/
def longB (j : Int) (r : Ru) : Bool := decide (j < r.b - r.a)
end Go.Proofs.Ytfdakkghikimcaa.Dr
