/- Layer 16's laws over package order. No condition but those written. -/
import Derived.Test.YtpkniomjohjbiaaOrPc
namespace Go.Proofs.Ytpkniomjohjbiaa
open Go.RowKit

namespace Or
theorem plays_in (v0 : Value) (x0 : Sl) (W : World) (h0 : InA W v0 x0) :
    Calls Try.prog 3 #[v0] W fun e w' => e = .returned (.bool true) ∧ Below W.heap.size W w' := plays_all oface v0 x0 W h0
theorem once_in (v0 : Value) (x0 : Sl) (W : World) (h0 : InA W v0 x0) :
    Calls Try.prog 5 #[v0] W fun e w' => e = .returned (.bool true) ∧ Below W.heap.size W w' := once_all oface v0 x0 W h0
theorem lists_in (v0 : Value) (x0 : Sl) (W : World) (h0 : InO W v0 x0) :
    Calls Try.prog 4 #[v0] W fun e w' => e = .returned (.bool true) ∧ Below W.heap.size W w' := lists_all oface v0 x0 W h0
end Or
theorem own : ownKnob Try.prog.godebug = none := by kernel_rfl
end Go.Proofs.Ytpkniomjohjbiaa
