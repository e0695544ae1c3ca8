/- What layer 7's laws lean on of package excess: a bundle of contracts, whatever the package is like inside. No condition but those written. -/
import Derived.Test.YtfmnbmjfkplieaaSeP8
import Derived.Test.YtfmnbmjfkplieaaExNum
namespace Go.Proofs.Ytfmnbmjfkplieaa
open Go.RowKit Se

namespace Ex
/-- Contracts of package excess: an index at block h, its memory F, its readings S in order. -/
structure Face where
  IX : World → Nat → Nat → (Nat → Prop) → Int → Int → Int → List Rd → Prop
  foot : ∀ {w : World} {B h : Nat} {F : Nat → Prop} {wo ga li : Int} {S : List Rd} {k : Nat}, IX w B h F wo ga li S → F k → B ≤ k ∧ k < w.heap.size
  turn : ∀ {w w' : World} {B h : Nat} {F T : Nat → Prop} {wo ga li : Int} {S : List Rd}, IX w B h F wo ga li S → Turn T w w' → (∀ k, F k → ¬ T k) → IX w' B h F wo ga li S
  new_yes : ∀ (wo ga li : Int) (w : World), mayB wo ga = true → tenB li = true → Calls Try.prog 8 #[.int .i64 wo, .int .i64 ga, .int .i64 li] w fun e w' =>
    ∃ h F, e = .returned (.tuple #[.pointer (some ⟨h, 0, none⟩), .int .i64 0]) ∧ IX w' w.heap.size h F wo ga li [] ∧ Below w.heap.size w w'
  new_no : ∀ (wo ga li : Int) (w : World), (mayB wo ga && tenB li) = false → Calls Try.prog 8 #[.int .i64 wo, .int .i64 ga, .int .i64 li] w fun e w' =>
    e = .returned (.tuple #[.pointer none, .int .i64 1]) ∧ Below w.heap.size w w'
  put : ∀ (B h : Nat) (F : Nat → Prop) (wo ga li : Int) (S : List Rd) (r : Rd) (w : World), IX w B h F wo ga li S → Sorted S → (∀ x ∈ S, rightB x = true) → mayB wo ga = true → tenB li = true → S.length ≤ 1000 →
    Calls Try.prog 10 #[.pointer (some ⟨h, 0, none⟩), rval r] w fun e w' =>
      e = .returned (.tuple #[.bool (putR S r).1, .int .i64 ((putR S r).2.1 : Nat)]) ∧ ∃ F', IX w' B h F' wo ga li (sortL (putR S r).2.2) ∧ Turn F w w' ∧ ∀ k, F' k → F k ∨ w.heap.size ≤ k
  sum : ∀ (B h : Nat) (F : Nat → Prop) (wo ga li : Int) (S : List Rd) (a b : Int) (w : World), IX w B h F wo ga li S → Sorted S → (∀ x ∈ S, rightB x = true) → mayB wo ga = true → tenB li = true → S.length ≤ 1000 →
    -9223372036854775808 ≤ a → a ≤ 9223372036854775807 → -9223372036854775808 ≤ b → b ≤ 9223372036854775807 →
    Calls Try.prog 12 #[.pointer (some ⟨h, 0, none⟩), .int .i64 a, .int .i64 b] w fun e w' =>
      e = .returned (.int .i64 (tot wo ga li S a b)) ∧ ∃ F', IX w' B h F' wo ga li S ∧ Turn F w w' ∧ ∀ k, F' k → F k ∨ w.heap.size ≤ k
  ser : ∀ (B h : Nat) (F : Nat → Prop) (wo ga li : Int) (S : List Rd) (w : World), IX w B h F wo ga li S → Sorted S → (∀ x ∈ S, rightB x = true) → mayB wo ga = true → tenB li = true → S.length ≤ 1000 →
    Calls Try.prog 14 #[.pointer (some ⟨h, 0, none⟩)] w fun e w' => ∃ h' F', e = .returned (.pointer (some ⟨h', 0, none⟩)) ∧ PSF w' w.heap.size h' F' wo ga S ∧ Below w.heap.size w w'
  ssum : ∀ (B h : Nat) (F : Nat → Prop) (wo ga li : Int) (S : List Rd) (a b : Int) (w : World), PSF w B h F wo ga S → Sorted S → (∀ x ∈ S, rightB x = true) → mayB wo ga = true → tenB li = true → S.length ≤ 1000 →
    -9223372036854775808 ≤ a → a ≤ 9223372036854775807 → -9223372036854775808 ≤ b → b ≤ 9223372036854775807 →
    Calls Try.prog 18 #[.pointer (some ⟨h, 0, none⟩), .int .i64 li, .int .i64 a, .int .i64 b] w fun e w' => e = .returned (.int .i64 (tot wo ga li S a b)) ∧ Below w.heap.size w w'
  ssum_no : ∀ (B h : Nat) (F : Nat → Prop) (wo ga li : Int) (S : List Rd) (a b : Int) (w : World), PSF w B h F wo ga S → tenB li = false →
    Calls Try.prog 18 #[.pointer (some ⟨h, 0, none⟩), .int .i64 li, .int .i64 a, .int .i64 b] w fun e w' => e = .returned (.int .i64 0) ∧ Below w.heap.size w w'
  nil_ssum : ∀ (li a b : Int) (w : World), Calls Try.prog 18 #[.pointer none, .int .i64 li, .int .i64 a, .int .i64 b] w fun e w' => e = .returned (.int .i64 0) ∧ Below w.heap.size w w'
  nil_put : ∀ (r : Rd) (w : World), Calls Try.prog 10 #[.pointer none, rval r] w fun e w' => e = .returned (.tuple #[.bool false, .int .i64 1]) ∧ Below w.heap.size w w'
  nil_sum : ∀ (a b : Int) (w : World), Calls Try.prog 12 #[.pointer none, .int .i64 a, .int .i64 b] w fun e w' => e = .returned (.int .i64 0) ∧ Below w.heap.size w w'
  nil_ser : ∀ (w : World), Calls Try.prog 14 #[.pointer none] w fun e w' => e = .returned (.pointer none) ∧ Below w.heap.size w w'
theorem Face.keep (I : Face) {w w' : World} {B h : Nat} {F : Nat → Prop} {wo ga li : Int} {S : List Rd} (hp : I.IX w B h F wo ga li S) (hb : Below w.heap.size w w') : I.IX w' B h F wo ga li S :=
  I.turn hp (T := fun _ => False) (Turn.of_below hb) (fun _ _ hf => hf)
theorem Face.next_below (I : Face) {w wi w' : World} {B h : Nat} {F : Nat → Prop} {wo ga li : Int} {S S' : List Rd} (hp : I.IX wi B h F wo ga li S) (hb : Below B w wi) (hB : B ≤ wi.heap.size) (h' : ∃ F', I.IX w' B h F' wo ga li S' ∧ Turn F wi w' ∧ ∀ k, F' k → F k ∨ wi.heap.size ≤ k) :
    ∃ F', I.IX w' B h F' wo ga li S' ∧ Below B w w' := by
  obtain ⟨F', h1, ht, _⟩ := h'
  exact ⟨F', h1, ht.below hb hB (fun i hi => (I.foot hp hi).1)⟩
def e1 : List Rd := [⟨2, 0, 45⟩]
def e2 : List Rd := [⟨2, 0, 45⟩, ⟨4, 0, 30⟩]
theorem p1 : putR [] ⟨2, 0, 45⟩ = (true, 0, e1) ∧ sortL e1 = e1 := by decide
theorem p2 : putR e1 ⟨4, 0, 30⟩ = (true, 0, e2) ∧ sortL e2 = e2 := by decide
theorem t0 : tot 100 5 40 [] 0 3 = 180 ∧ tot 100 5 40 e1 0 10 = 270 ∧ tot 100 5 40 e2 (-7) 10 = 130 ∧ tot 100 5 40 e2 5 5 = 0 ∧ tot 100 5 40 e2 1 4 = 70 := by decide
theorem hot : tot 1099511627776 0 (-1099511627776) [] 0 9000000 = 2305843009213693952 := by
  unfold tot
  have h := exc_run (wo := 1099511627776) (ga := 0) (lim := -1099511627776) (m := 0) (L := []) (by simp) (by decide) (k := 1048576) (by decide) (.inl (by decide))
  rw [show (min (9000000 : Int) 1048576 - max 0 0).toNat = 1048576 by decide, show max (0 : Int) 0 = 0 by decide, h]
  decide
theorem srt1 : Sorted e1 := by unfold Sorted e1; decide
theorem srt2 : Sorted e2 := by unfold Sorted e2; decide
theorem rgt1 : ∀ x ∈ e1, rightB x = true := by decide
theorem rgt2 : ∀ x ∈ e2, rightB x = true := by decide
end Ex
end Go.Proofs.Ytfmnbmjfkplieaa
