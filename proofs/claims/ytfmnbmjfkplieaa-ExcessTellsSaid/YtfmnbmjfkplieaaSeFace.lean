/- What layer 6's laws lean on of package series: a bundle of contracts, whatever the package is like inside. No condition but those written. -/
import Derived.Test.YtfmnbmjfkplieaaSe6
import Derived.Test.YtfmnbmjfkplieaaSeSil
namespace Go.Proofs.Ytfmnbmjfkplieaa
open Go.RowKit

namespace Se
/-- Contracts of package series: a series at block h, its memory F, its readings S in order. -/
structure Face where
  PS : World → Nat → Nat → (Nat → Prop) → Int → Int → List Rd → Prop
  foot : ∀ {w : World} {B h : Nat} {F : Nat → Prop} {wo ga : Int} {S : List Rd} {k : Nat}, PS w B h F wo ga S → F k → B ≤ k ∧ k < w.heap.size
  turn : ∀ {w w' : World} {B h : Nat} {F T : Nat → Prop} {wo ga : Int} {S : List Rd}, PS w B h F wo ga S → Turn T w w' → (∀ k, F k → ¬ T k) → PS w' B h F wo ga S
  new_yes : ∀ (wo ga : Int) (w : World), mayB wo ga = true → Calls Try.prog 19 #[.int .i64 wo, .int .i64 ga] w fun e w' =>
    ∃ h F, e = .returned (.tuple #[.pointer (some ⟨h, 0, none⟩), .int .i64 0]) ∧ PS w' w.heap.size h F wo ga [] ∧ Below w.heap.size w w'
  new_no : ∀ (wo ga : Int) (w : World), mayB wo ga = false → Calls Try.prog 19 #[.int .i64 wo, .int .i64 ga] w fun e w' =>
    e = .returned (.tuple #[.pointer none, .int .i64 1]) ∧ Below w.heap.size w w'
  put : ∀ (B h : Nat) (F : Nat → Prop) (wo ga : Int) (S : List Rd) (r : Rd) (w : World), PS w B h F wo ga S → Sorted S → (∀ x ∈ S, rightB x = true) → S.length ≤ 1000 → Calls Try.prog 22 #[.pointer (some ⟨h, 0, none⟩), rval r] w fun e w' =>
    e = .returned (.tuple #[.bool (putR S r).1, .int .i64 ((putR S r).2.1 : Nat)]) ∧ ∃ F', PS w' B h F' wo ga (sortL (putR S r).2.2) ∧ Turn F w w' ∧ ∀ k, F' k → F k ∨ w.heap.size ≤ k
  airAt : ∀ (B h : Nat) (F : Nat → Prop) (wo ga : Int) (S : List Rd) (m : Int) (w : World), PS w B h F wo ga S → Sorted S → (∀ x ∈ S, rightB x = true) → mayB wo ga = true → S.length ≤ 1000 → -9223372036854775808 ≤ m → m ≤ 9223372036854775807 →
    Calls Try.prog 53 #[.pointer (some ⟨h, 0, none⟩), .int .i64 m] w fun e w' => e = .returned (.int .i64 (air wo ga S m)) ∧ Below w.heap.size w w'
  nextAt : ∀ (B h : Nat) (F : Nat → Prop) (wo ga : Int) (S : List Rd) (m : Int) (w : World), PS w B h F wo ga S → Sorted S → (∀ x ∈ S, rightB x = true) → mayB wo ga = true → S.length ≤ 1000 → -9223372036854775808 ≤ m → m ≤ 9223372036854775807 →
    Calls Try.prog 50 #[.pointer (some ⟨h, 0, none⟩), .int .i64 m] w fun e w' => e = .returned (.int .i64 (next ga S m)) ∧ Below w.heap.size w w'
  told : ∀ (B h : Nat) (F : Nat → Prop) (wo ga : Int) (S : List Rd) (w : World), PS w B h F wo ga S → Sorted S → S.length ≤ 1000 →
    Calls Try.prog 16 #[.pointer (some ⟨h, 0, none⟩)] w fun e w' => ∃ v, e = .returned v ∧ w'.ownsRow w.heap.size 37 3 v S.length (S.flatMap rcells) ∧ Below w.heap.size w w'
  twin : ∀ (B h : Nat) (F : Nat → Prop) (wo ga : Int) (S : List Rd) (w : World), PS w B h F wo ga S → Sorted S → (∀ x ∈ S, rightB x = true) → mayB wo ga = true → S.length ≤ 1000 →
    Calls Try.prog 30 #[.pointer (some ⟨h, 0, none⟩)] w fun e w' => ∃ h' F', e = .returned (.pointer (some ⟨h', 0, none⟩)) ∧ PS w' w.heap.size h' F' wo ga S ∧ Below w.heap.size w w'
  nil_put : ∀ (r : Rd) (w : World), Calls Try.prog 22 #[.pointer none, rval r] w fun e w' => e = .returned (.tuple #[.bool false, .int .i64 1]) ∧ Below w.heap.size w w'
  nil_at : ∀ (m : Int) (w : World), Calls Try.prog 53 #[.pointer none, .int .i64 m] w fun e w' => e = .returned (.int .i64 0) ∧ Below w.heap.size w w'
  nil_next : ∀ (m : Int) (w : World), Calls Try.prog 50 #[.pointer none, .int .i64 m] w fun e w' => e = .returned (.int .i64 (-1)) ∧ Below w.heap.size w w'
  nil_told : ∀ (w : World), Calls Try.prog 16 #[.pointer none] w fun e w' => e = .returned (.slice none 0 0) ∧ Below w.heap.size w w'
  nil_twin : ∀ (w : World), Calls Try.prog 30 #[.pointer none] w fun e w' => e = .returned (.pointer none) ∧ Below w.heap.size w w'
theorem Face.keep (I : Face) {w w' : World} {B h : Nat} {F : Nat → Prop} {wo ga : Int} {S : List Rd} (hp : I.PS w B h F wo ga S) (hb : Below w.heap.size w w') : I.PS w' B h F wo ga S :=
  I.turn hp (T := fun _ => False) (Turn.of_below hb) (fun _ _ hf => hf)
theorem Face.next_below (I : Face) {w wi w' : World} {B h : Nat} {F : Nat → Prop} {wo ga : Int} {S S' : List Rd} (hp : I.PS wi B h F wo ga S) (hb : Below B w wi) (hB : B ≤ wi.heap.size) (h' : ∃ F', I.PS w' B h F' wo ga S' ∧ Turn F wi w' ∧ ∀ k, F' k → F k ∨ wi.heap.size ≤ k) :
    ∃ F', I.PS w' B h F' wo ga S' ∧ Below B w w' := by
  obtain ⟨F', h1, ht, _⟩ := h'
  exact ⟨F', h1, ht.below hb hB (fun i hi => (I.foot hp hi).1)⟩
end Se
end Go.Proofs.Ytfmnbmjfkplieaa
