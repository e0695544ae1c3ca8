/- Package door's bundle of contracts, whole. No condition but those written. -/
import Derived.Test.YtfdakkghikimcaaDrPa
import Derived.Test.YtfdakkghikimcaaDrP2
import Derived.Test.YtfdakkghikimcaaDrP4
namespace Go.Proofs.Ytfdakkghikimcaa
open Go.RowKit

namespace Dr
open Se
def dface : Face where
  DB := PDoor
  foot := pdoor_foot
  turn := pdoor_turn
  new := pnew_any
  put := fun B h F S r w hp hS hL hb => pput_any B h F S r w hp hS hL hb
  isOpen := fun B h F S m w hp hS _ _ _ => popen_any B h F S m w hp hS
  told := fun B h F S w hp hS hL => ptold_any B h F S w hp hS hL
  runs := fun B h F S now w hp hS hL _ _ => pruns_any B h F S now w hp hS hL
  alarms := fun B h F S j now w hp hS hL _ _ _ _ => palarms_any B h F S j now w hp hS hL
  nil_put := pput_nil
  nil_open := popen_nil
  nil_told := ptold_nil
  nil_runs := pruns_nil
  nil_alarms := palarms_nil
end Dr
end Go.Proofs.Ytfdakkghikimcaa
