/- What layer 15's laws, and later layers, lean on of package fefo: a bundle of contracts, whatever the package is like inside. No condition but those written. -/
import Derived.Test.YtclpdemhfbjliaaFf3
namespace Go.Proofs.Ytclpdemhfbjliaa
open Go.RowKit Lo

namespace Ff
/-- What is picked is told in. -/
def PickP (w : World) (r : List (Int × Int) × Int) (e : Ending) (w' : World) : Prop := ∃ v, e = .returned (.tuple #[v, .int .i64 r.2]) ∧ w'.ownsRow w.heap.size 34 2 v r.1.length (r.1.flatMap tcells) ∧ Below w.heap.size w w'
/-- The units of takes, added. -/
def totT (T : List (Int × Int)) : Int := (T.map Prod.snd).sum
/-- Contracts of package fefo. -/
structure Face where
  order : ∀ (p : Option Addr) (n c : Nat) (L : List Lv) (w : World), Rw 8 lcells w p n L → n ≤ 1000 → n ≤ c → Calls Try.prog 6 #[.slice p n c] w (OrderEnd w (lts L))
  pick : ∀ (p : Option Addr) (n c : Nat) (L : List Lv) (pr u : Int) (w : World), Rw 8 lcells w p n L → n ≤ 1000 → n ≤ c → -9223372036854775808 ≤ u → u ≤ 9223372036854775807 →
    Calls Try.prog 8 #[.slice p n c, .int .i64 pr, .int .i64 u] w (PickP w (pickL (lts L) pr u))
  total : ∀ (p : Option Addr) (n c : Nat) (T : List (Int × Int)) (w : World), Rw 2 tcells w p n T → n ≤ 1000 → n ≤ c → (∀ t ∈ T, 0 ≤ t.2 ∧ t.2 ≤ 1048576) →
    Calls Try.prog 10 #[.slice p n c] w fun e w' => e = .returned (.int .i64 (totT T)) ∧ Below w.heap.size w w'
end Ff
end Go.Proofs.Ytclpdemhfbjliaa
