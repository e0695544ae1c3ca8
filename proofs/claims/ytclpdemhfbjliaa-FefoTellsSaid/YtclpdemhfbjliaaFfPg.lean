/- Package fefo's bundle, and both laws over arguments. No condition but those written. -/
import Derived.Test.YtclpdemhfbjliaaFfPf
import Derived.Test.YtclpdemhfbjliaaFfPc
import Derived.Test.YtclpdemhfbjliaaFfP
namespace Go.Proofs.Ytclpdemhfbjliaa
open Go.RowKit Lo

namespace Ff
theorem out_all : OutAny := fun p n c L w hA hn => out_any p n c L w hA hn
/-- The bundle's value. -/
theorem fface : Face where
  order := fun p n c L w hA hn _ => order_any out_all p n c L w hA (by omega)
  pick := fun p n c L pr u w hA hn _ _ hu => pick_any out_all p n c L pr u w hA (by omega) hu
  total := fun p n c T w hA hn _ hT => total_any p n c T w hA hn hT
theorem tells_in (v0 : Value) (x0 : Ls) (v1 : Value) (x1 : Int) (v2 : Value) (x2 : Int) (W : World) (h0 : InLs W v0 x0) (h1 : InI .i64 v1 x1) (h2 : InI .i64 v2 x2) :
    Calls Try.prog 3 #[v0, v1, v2] W fun e w' => e = .returned (.bool true) ∧ Below W.heap.size W w' := tells_all fface v0 x0 v1 x1 v2 x2 W h0 h1 h2
theorem first_in (v0 : Value) (x0 : Ls) (v1 : Value) (x1 : Int) (v2 : Value) (x2 : Int) (W : World) (h0 : InLs W v0 x0) (h1 : InI .i64 v1 x1) (h2 : InI .i64 v2 x2) :
    Calls Try.prog 4 #[v0, v1, v2] W fun e w' => e = .returned (.bool true) ∧ Below W.heap.size W w' := first_all fface v0 x0 v1 x1 v2 x2 W h0 h1 h2
end Ff
theorem own : ownKnob Try.prog.godebug = none := by kernel_rfl
end Go.Proofs.Ytclpdemhfbjliaa
