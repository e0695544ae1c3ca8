/- What layer 17's laws, and later layers, lean on of package cert: a bundle of contracts, whatever the package is like inside. No condition but those written. -/
import Derived.Test.YtklhapekfgcplaaCeMem
import Derived.Test.YtklhapekfgcplaaBytes
namespace Go.Proofs.Ytklhapekfgcplaa
open Go.RowKit

namespace Ce
def I64 (x : Int) : Prop := -9223372036854775808 ≤ x ∧ x ≤ 9223372036854775807
def icells (x : Int) : List Value := [.int .i64 x]
theorem icells_len (x : Int) : (icells x).length = 1 := rfl
/-- What an act leaves of a book. -/
def Left (DB : World → Nat → Nat → (Nat → Prop) → List Ct → Prop) (w : World) (B h : Nat) (F : Nat → Prop) (l : List Ct) (w' : World) : Prop := ∃ F', DB w' B h F' l ∧ Turn F w w' ∧ ∀ k, F' k → F k ∨ w.heap.size ≤ k
/-- Contracts of package cert: a book at block h, its memory F. -/
structure Face where
  right : ∀ (c : Ct) (w : World), Calls Try.prog 13 #[cval c] w fun e w' => e = .returned (.bool (rightB c)) ∧ Below w.heap.size w w'
  enc_no : ∀ (c : Ct) (w : World), rightB c = false → Calls Try.prog 8 #[cval c] w fun e w' => (∃ q d, e = .returned (.tuple #[.slice q 0 d, .int .i64 1])) ∧ Below w.heap.size w w'
  enc_yes : ∀ (c : Ct) (w : World), rightB c = true → Calls Try.prog 8 #[cval c] w fun e w' => ∃ q d, e = .returned (.tuple #[.slice q 66 d, .int .i64 0]) ∧ w'.ownsRow w.heap.size 5 1 (.slice q 66 d) 66 (bys (Ck.tight (raw c))) ∧ Below w.heap.size w w'
  dec : ∀ (p : Option Addr) (n c : Nat) (l : List Nat) (w : World), At w p n l → n ≤ 1000000 → n ≤ c → Calls Try.prog 10 #[.slice p n c] w fun e w' => e = .returned (.tuple #[cval (dec l).1, .int .i64 (dec l).2]) ∧ Below w.heap.size w w'
  DB : World → Nat → Nat → (Nat → Prop) → List Ct → Prop
  foot : ∀ {w : World} {B h : Nat} {F : Nat → Prop} {l : List Ct} {k : Nat}, DB w B h F l → F k → B ≤ k ∧ k < w.heap.size
  turn : ∀ {w w' : World} {B h : Nat} {F T : Nat → Prop} {l : List Ct}, DB w B h F l → Turn T w w' → (∀ k, F k → ¬ T k) → DB w' B h F l
  new : ∀ (w : World), Calls Try.prog 14 #[] w fun e w' => ∃ h F, e = .returned (.pointer (some ⟨h, 0, none⟩)) ∧ DB w' w.heap.size h F [] ∧ Below w.heap.size w w'
  issue : ∀ (B h : Nat) (F : Nat → Prop) (l : List Ct) (c : Ct) (w : World), DB w B h F l → Good l → l.length ≤ 100000 →
    Calls Try.prog 15 #[.pointer (some ⟨h, 0, none⟩), cval c] w fun e w' => e = .returned (.tuple #[.int .i64 (issueF l c).2.1, .int .i64 (issueF l c).2.2]) ∧ Left DB w B h F (issueF l c).1 w'
  cert : ∀ (B h : Nat) (F : Nat → Prop) (l : List Ct) (id : Int) (w : World), DB w B h F l → Good l → l.length ≤ 100000 → I64 id →
    Calls Try.prog 17 #[.pointer (some ⟨h, 0, none⟩), .int .i64 id] w fun e w' => e = .returned (.tuple #[cval (certF l id).1, .int .i64 (certF l id).2]) ∧ Below w.heap.size w w'
  all : ∀ (B h : Nat) (F : Nat → Prop) (l : List Ct) (w : World), DB w B h F l → Good l → l.length ≤ 100000 →
    Calls Try.prog 19 #[.pointer (some ⟨h, 0, none⟩)] w fun e w' => ∃ v, e = .returned v ∧ w'.ownsRow w.heap.size 23 8 v l.length (l.flatMap ccells) ∧ Below w.heap.size w w'
  flagged : ∀ (B h : Nat) (F : Nat → Prop) (l : List Ct) (p : Option Addr) (n c : Nat) (now : List Int) (w : World), DB w B h F l → Good l → l.length ≤ 100000 → Rw 1 icells w p n now → n ≤ 100000 → n ≤ c → (∀ k, (0 < n ∧ ∃ a, p = some a ∧ a.block = k) → ¬ F k) →
    Calls Try.prog 20 #[.pointer (some ⟨h, 0, none⟩), .slice p n c] w fun e w' => ∃ v, e = .returned v ∧ w'.ownsRow w.heap.size 3 1 v (flagF l now).length ((flagF l now).flatMap icells) ∧ Below w.heap.size w w'
  nil_issue : ∀ (c : Ct) (w : World), Calls Try.prog 15 #[.pointer none, cval c] w fun e w' => e = .returned (.tuple #[.int .i64 0, .int .i64 1]) ∧ Below w.heap.size w w'
  nil_cert : ∀ (id : Int) (w : World), Calls Try.prog 17 #[.pointer none, .int .i64 id] w fun e w' => e = .returned (.tuple #[cval ct0, .int .i64 1]) ∧ Below w.heap.size w w'
  nil_all : ∀ (w : World), Calls Try.prog 19 #[.pointer none] w fun e w' => (∃ q c, e = .returned (.slice q 0 c)) ∧ Below w.heap.size w w'
  nil_flagged : ∀ (p : Option Addr) (n c : Nat) (now : List Int) (w : World), Rw 1 icells w p n now → n ≤ 100000 → n ≤ c → Calls Try.prog 20 #[.pointer none, .slice p n c] w fun e w' => (∃ q d, e = .returned (.slice q 0 d)) ∧ Below w.heap.size w w'
theorem Face.keep (I : Face) {w w' : World} {B h : Nat} {F : Nat → Prop} {l : List Ct} (hp : I.DB w B h F l) (hb : Below w.heap.size w w') : I.DB w' B h F l :=
  I.turn hp (T := fun _ => False) (Turn.of_below hb) (fun _ _ hf => hf)
end Ce
end Go.Proofs.Ytklhapekfgcplaa
