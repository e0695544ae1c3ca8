/- What layer 18's laws, and later layers, lean on of package command: a bundle of contracts, whatever the package is like inside. No condition but those written. -/
import Derived.Test.YtbahilakfgbgpaaDoorCm3
namespace Go.Proofs.YtbahilakfgbgpaaDoor
open Go.RowKit

namespace Cm
/-- A command's bytes, or none, and the error. -/
def encL (c : Cm) : List Nat := if rightB c = true then raw c else []
def encE (c : Cm) : Int := if rightB c = true then 0 else 1
def EncEnd (w : World) (c : Cm) (e : Ending) (w' : World) : Prop := (∃ q d, e = .returned (.tuple #[.slice q (encL c).length d, .int .i64 (encE c)]) ∧ (encL c).length ≤ d ∧ At w' q (encL c).length (encL c)) ∧ Below w.heap.size w w'
/-- Contracts of package command; on: a condition on worlds. -/
structure Face where
  R : World → Prop
  on : ∀ {w w' : World}, R w → Below w.heap.size w w' → R w'
  num : ∀ (k : Int) (w : World), R w → I64 k → Calls Tryd.prog 12 #[.int .i64 k] w fun e w' => e = .returned (.int .i64 (cnt k)) ∧ Below w.heap.size w w'
  right : ∀ (y : Cv) (w : World), R w → Bt w y → Wf y.x → I64 y.x.kind → y.n ≤ 1000000 → Calls Tryd.prog 14 #[cval y] w fun e w' => e = .returned (.bool (rightB y.x)) ∧ Below w.heap.size w w'
  enc : ∀ (y : Cv) (w : World), R w → Bt w y → Wf y.x → I64 y.x.kind → y.n ≤ 1000000 → Calls Tryd.prog 6 #[cval y] w (EncEnd w y.x)
  dec : ∀ (p : Option Addr) (n c : Nat) (l : List Nat) (w : World), R w → At w p n l → n ≤ 1000000 → n ≤ c → Calls Tryd.prog 8 #[.slice p n c] w (DecEnd w l)
  same : ∀ (y z : Cv) (w : World), R w → Bt w y → Bt w z → y.n ≤ 1000000 → z.n ≤ 1000000 → Calls Tryd.prog 16 #[cval y, cval z] w fun e w' => e = .returned (.bool (decide (y.x = z.x))) ∧ Below w.heap.size w w'
theorem encL_len (c : Cm) : (encL c).length ≤ 109 := by
  unfold encL
  split
  · exact (raw_le ‹_›).2
  · simp
theorem encL_lt {c : Cm} (h : Wf c) : ∀ x ∈ encL c, x < 256 := by
  unfold encL
  split
  · exact raw_lt ‹_› h.2
  · simp
/-- The document's. -/
theorem r18enc_any (y : Cv) (w : World) (hB : Bt w y) (hn : y.n ≤ 1000000) : Calls Tryd.prog 7 #[cval y] w (EncEnd w y.x) := by
  unfold EncEnd encL encE
  cases h : rightB y.x with
  | true =>
    rw [if_pos rfl, if_pos rfl]
    exact r18enc_yes y w hB hn h
  | false =>
    rw [if_neg Bool.false_ne_true, if_neg Bool.false_ne_true]
    exact (r18enc_no y w hB.len hn h).mono fun e w' he => ⟨⟨none, 0, he.1, Nat.le_refl _, at_nil w'⟩, he.2⟩
end Cm
end Go.Proofs.YtbahilakfgbgpaaDoor
