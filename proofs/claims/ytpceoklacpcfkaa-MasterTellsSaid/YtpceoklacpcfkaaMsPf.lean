/- Package master's contracts in one; the document's answer, whole. No condition but those written. -/
import Derived.Test.YtpceoklacpcfkaaMsMZ
import Derived.Test.YtpceoklacpcfkaaMsMP
namespace Go.Proofs.Ytpceoklacpcfkaa
open Go.RowKit

namespace Ms
/-- Package master: its contracts. -/
def mface : Face where
  DB := PM
  foot := pm_foot
  turn := pm_turn
  new := pnew_any
  addZ := fun B h F Z P z w hp _ hL => paddZ_any B h F Z P z w hp hL
  addP := fun B h F Z P p w hp _ hL => paddP_any B h F Z P p w hp hL
  zone := fun B h F Z P m w hp h0 h1 => prowZ_any B h F Z P m w hp h0 h1
  product := fun B h F Z P m w hp h0 h1 => prowP_any B h F Z P m w hp h0 h1
  zones := fun B h F Z P w hp hG hL => pallZ_any B h F Z P w hp hG hL
  products := fun B h F Z P w hp hG hL => pallP_any B h F Z P w hp hG hL
  nil_addZ := nil_addZ
  nil_addP := nil_addP
  nil_zone := nil_rowZ
  nil_product := nil_rowP
  nil_zones := nil_allZ
  nil_products := nil_allP
end Ms
end Go.Proofs.Ytpceoklacpcfkaa
