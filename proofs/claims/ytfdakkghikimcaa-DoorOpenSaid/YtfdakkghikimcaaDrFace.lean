/- What layer 8's laws lean on of package door: a bundle of contracts, whatever the package is like inside. No condition but those written. -/
import Derived.Test.YtfdakkghikimcaaDr7
namespace Go.Proofs.Ytfdakkghikimcaa
open Go.RowKit

namespace Dr
open Se
/-- What a mark does to marks in order: whether anything changed, the error, the marks. -/
def putM (S : List Rd) (r : Rd) : Bool × Nat × List Rd := if rightM r then ((put S r).1, 0, sortL (put S r).2) else (false, 1, S)
/-- Marks in order, that may be. -/
structure Good (S : List Rd) : Prop where
  sorted : Sorted S
  right : ∀ x ∈ S, rightM x = true
  bin : ∀ x ∈ S, binB x = true
theorem good_nil : Good [] := ⟨List.Pairwise.nil, fun x hx => by simp at hx, fun x hx => by simp at hx⟩
theorem good_put {S : List Rd} (h : Good S) {r : Rd} (hr : binB r = true) : Good (putM S r).2.2 := by
  unfold putM
  by_cases hm : rightM r = true
  · rw [if_pos hm]
    refine ⟨sorted_sort (put_apart (sorted_apart h.sorted) r), fun x hx => ?_, fun x hx => ?_⟩
    · rcases (put_mem (sorted_apart h.sorted) r x).1 ((mem_sort _ x).1 hx) with ⟨h1, _⟩ | ⟨y, _, _, e⟩ | ⟨_, e⟩
      · exact h.right x h1
      · rw [e]
        exact hm
      · rw [e]
        exact hm
    · rcases (put_mem (sorted_apart h.sorted) r x).1 ((mem_sort _ x).1 hx) with ⟨h1, _⟩ | ⟨y, hy, _, e⟩ | ⟨_, e⟩
      · exact h.bin x h1
      · have h2 := h.bin y hy
        rw [e]
        simp only [binB, decide_eq_true_eq] at hr h2 ⊢
        omega
      · rw [e]
        exact hr
  · rw [if_neg hm]
    exact h
theorem putM_len (S : List Rd) (r : Rd) : (putM S r).2.2.length ≤ S.length + 1 := by
  unfold putM
  by_cases hm : rightM r = true
  · rw [if_pos hm]
    simp only
    rw [len_sort]
    exact put_len S r
  · rw [if_neg hm]
    simp only
    omega
/-- Contracts of package door: a book at block h, its memory F, its marks S in order. -/
structure Face where
  DB : World → Nat → Nat → (Nat → Prop) → List Rd → Prop
  foot : ∀ {w : World} {B h : Nat} {F : Nat → Prop} {S : List Rd} {k : Nat}, DB w B h F S → F k → B ≤ k ∧ k < w.heap.size
  turn : ∀ {w w' : World} {B h : Nat} {F T : Nat → Prop} {S : List Rd}, DB w B h F S → Turn T w w' → (∀ k, F k → ¬ T k) → DB w' B h F S
  new : ∀ (w : World), Calls Try.prog 7 #[] w fun e w' => ∃ h F, e = .returned (.pointer (some ⟨h, 0, none⟩)) ∧ DB w' w.heap.size h F [] ∧ Below w.heap.size w w'
  put : ∀ (B h : Nat) (F : Nat → Prop) (S : List Rd) (r : Rd) (w : World), DB w B h F S → Good S → S.length ≤ 1000 → binB r = true → Calls Try.prog 8 #[.pointer (some ⟨h, 0, none⟩), mval r] w fun e w' =>
    e = .returned (.tuple #[.bool (putM S r).1, .int .i64 ((putM S r).2.1 : Nat)]) ∧ ∃ F', DB w' B h F' (putM S r).2.2 ∧ Turn F w w' ∧ ∀ k, F' k → F k ∨ w.heap.size ≤ k
  isOpen : ∀ (B h : Nat) (F : Nat → Prop) (S : List Rd) (m : Int) (w : World), DB w B h F S → Good S → S.length ≤ 1000 → -9223372036854775808 ≤ m → m ≤ 9223372036854775807 →
    Calls Try.prog 17 #[.pointer (some ⟨h, 0, none⟩), .int .i64 m] w fun e w' => e = .returned (.bool (opn S m)) ∧ Below w.heap.size w w'
  told : ∀ (B h : Nat) (F : Nat → Prop) (S : List Rd) (w : World), DB w B h F S → Good S → S.length ≤ 1000 →
    Calls Try.prog 11 #[.pointer (some ⟨h, 0, none⟩)] w fun e w' => ∃ v, e = .returned v ∧ w'.ownsRow w.heap.size 31 3 v S.length (S.flatMap mcells) ∧ Below w.heap.size w w'
  runs : ∀ (B h : Nat) (F : Nat → Prop) (S : List Rd) (now : Int) (w : World), DB w B h F S → Good S → S.length ≤ 1000 → -9223372036854775808 ≤ now → now ≤ 9223372036854775807 →
    Calls Try.prog 13 #[.pointer (some ⟨h, 0, none⟩), .int .i64 now] w fun e w' =>
      ∃ v R, e = .returned v ∧ RunsOf (opn S) (min now 1048576) R ∧ R.length ≤ 1048576 ∧ w'.ownsRow w.heap.size 50 2 v R.length (R.flatMap ucells) ∧ Below w.heap.size w w'
  alarms : ∀ (B h : Nat) (F : Nat → Prop) (S : List Rd) (j now : Int) (w : World), DB w B h F S → Good S → S.length ≤ 1000 → -9223372036854775808 ≤ j → j ≤ 9223372036854775807 → -9223372036854775808 ≤ now → now ≤ 9223372036854775807 →
    Calls Try.prog 15 #[.pointer (some ⟨h, 0, none⟩), .int .i64 j, .int .i64 now] w fun e w' =>
      ∃ v R, e = .returned v ∧ RunsOf (opn S) (min now 1048576) R ∧ R.length ≤ 1048576 ∧ w'.ownsRow w.heap.size 50 2 v (R.filter (longB j)).length ((R.filter (longB j)).flatMap ucells) ∧ Below w.heap.size w w'
  nil_put : ∀ (r : Rd) (w : World), Calls Try.prog 8 #[.pointer none, mval r] w fun e w' => e = .returned (.tuple #[.bool false, .int .i64 1]) ∧ Below w.heap.size w w'
  nil_open : ∀ (m : Int) (w : World), Calls Try.prog 17 #[.pointer none, .int .i64 m] w fun e w' => e = .returned (.bool false) ∧ Below w.heap.size w w'
  nil_told : ∀ (w : World), Calls Try.prog 11 #[.pointer none] w fun e w' => ∃ p c, e = .returned (.slice p 0 c) ∧ Below w.heap.size w w'
  nil_runs : ∀ (now : Int) (w : World), Calls Try.prog 13 #[.pointer none, .int .i64 now] w fun e w' => ∃ p c, e = .returned (.slice p 0 c) ∧ Below w.heap.size w w'
  nil_alarms : ∀ (j now : Int) (w : World), Calls Try.prog 15 #[.pointer none, .int .i64 j, .int .i64 now] w fun e w' => ∃ p c, e = .returned (.slice p 0 c) ∧ Below w.heap.size w w'
theorem Face.keep (I : Face) {w w' : World} {B h : Nat} {F : Nat → Prop} {S : List Rd} (hp : I.DB w B h F S) (hb : Below w.heap.size w w') : I.DB w' B h F S :=
  I.turn hp (T := fun _ => False) (Turn.of_below hb) (fun _ _ hf => hf)
theorem Face.next_below (I : Face) {w wi w' : World} {B h : Nat} {F : Nat → Prop} {S S' : List Rd} (hp : I.DB wi B h F S) (hb : Below B w wi) (hB : B ≤ wi.heap.size) (h' : ∃ F', I.DB w' B h F' S' ∧ Turn F wi w' ∧ ∀ k, F' k → F k ∨ wi.heap.size ≤ k) :
    ∃ F', I.DB w' B h F' S' ∧ Below B w w' := by
  obtain ⟨F', h1, ht, _⟩ := h'
  exact ⟨F', h1, ht.below hb hB (fun i hi => (I.foot hp hi).1)⟩
end Dr
end Go.Proofs.Ytfdakkghikimcaa
