/- Package master's contracts in one; the document's answer, whole. No condition but those written. Both laws of stage 12, over the packages' own contracts. No condition but those written. -/
import Derived.Test.YtkfmkchonlajpaaQ12
import Derived.Test.YtkfmkchonlajpaaQ07
namespace Go.Proofs.Ytkfmkchonlajpaa
open Go.RowKit

namespace Ms
/-- Package master: its contracts. -/
def mface : Face where
  DB := PM
  foot := pm_foot
  turn := pm_turn
  new := pnew_any
  addZ := fun B h F Z P z w hp _ hL => paddZ_any B h F Z P z w hp hL
  addP := fun B h F Z P p w hp _ hL => paddP_any B h F Z P p w hp hL
  zone := fun B h F Z P m w hp h0 h1 => prowZ_any B h F Z P m w hp h0 h1
  product := fun B h F Z P m w hp h0 h1 => prowP_any B h F Z P m w hp h0 h1
  nil_addZ := nil_addZ
  nil_addP := nil_addP
  nil_zone := nil_rowZ
  nil_product := nil_rowP
end Ms
end Go.Proofs.Ytkfmkchonlajpaa

namespace Go.Proofs.Ytkfmkchonlajpaa
open Go.RowKit
theorem puts_in (v0 : Value) (y : Lo.Sl) (v1 : Value) (m : Int) (W : World) (w0 : Lo.InL W v0 y) (w1 : InI .i64 v1 m) :
    Calls Try.prog 3 #[v0, v1] W fun e w' => e = .returned (.bool true) ∧ Below W.heap.size W w' :=
  Lo.puts_of (Lo.lface Ms.mface) v0 y v1 m W w0 w1
end Go.Proofs.Ytkfmkchonlajpaa
