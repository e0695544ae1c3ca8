/-
  NARROWER THAN 'FOR EVERY INPUT', by the rows' own cells (each row's printed sentence says how): KeepTells: laid · KeepNever: laid.
  DERIVED. THE GIVEN ROWS OF THIS SEAT. 2 by the template 'for every input the law returns true; each argument reads behind the call as it read before'; 0 by the template 'total and deterministic' (their statements: YtgmjmkkhoibbcaaDoorTotals.lean).
  GIVEN WITH THE SEED: the statements are not yours to turn. If you find one false, say at which input.
  Laid BY PROGRAM, IN A SANDBOX (cutbox-rows.mjs): the forced cells as the released guide's own fill.sh prints them over the translation 61a628cab3845e71… (all of the seat's roots in one cut). By AI agents, Wed Nov 11 2026. No macro, syntax, notation, axiom, sorry.
-/
import Derived.Test.YtgmjmkkhoibbcaaDoorChecked
import GoSem.Claim
import GoSem.ClaimJoined
import GoSem.ClaimMapViews
import Derived.JoinedTies
import Derived.KernelRfl
namespace Go.Proofs.YtgmjmkkhoibbcaaDoor
/- THE CELL 'sum', in the pinned program and in every row, IS THE sha256 OF THE DUMP (.gsa) THAT YtgmjmkkhoibbcaaDoorProg.lean LOADS. Nothing in Lean hashes anything: it is a label: what it is worth is what the hold of that sum in a sandbox is worth. -/
noncomputable def Tryd.pinned : Pinned := { name := "ytgmjmkkhoibbcaadoor", sum := "61a628cab3845e719161811d1e3cd3bbfe6683bedfcae2de0a7901a3eee86125", checked := Tryd.checked }
namespace Rows
def none {H : Type} : Left H := { results := [], args := [] }

/- WHAT THE LISTED PACKAGE-LEVEL VARIABLES READ AS WHEN THE CALL BEGINS. Each datum BY PROGRAM (the guide's laid-datum.mjs) off the statement by which the dump's own 'gosem.cut.vars' lays the variable. In a bare row this is a premise. The card (YtgmjmkkhoibbcaaDoorCards.lean) ties it to the program's text. -/
def laid_hoarfrost_status_table {H : Type} : DataW H := .agg [.agg [.lit (.int .i64 1), .lit (.int .i64 2), .lit (.int .i64 (-1)), .lit (.int .i64 3), .lit (.int .i64 (-1))], .agg [.lit (.int .i64 (-1)), .lit (.int .i64 2), .lit (.int .i64 (-1)), .lit (.int .i64 3), .lit (.int .i64 4)], .agg [.lit (.int .i64 (-1)), .lit (.int .i64 2), .lit (.int .i64 1), .lit (.int .i64 3), .lit (.int .i64 (-1))], .agg [.lit (.int .i64 (-1)), .lit (.int .i64 (-1)), .lit (.int .i64 (-1)), .lit (.int .i64 (-1)), .lit (.int .i64 (-1))], .agg [.lit (.int .i64 (-1)), .lit (.int .i64 (-1)), .lit (.int .i64 (-1)), .lit (.int .i64 (-1)), .lit (.int .i64 (-1))]]

/-- 'hoarfrostlaw14.KeepTells': WHATEVER THE INPUT: true; the input reads as it did. -/
def keepTellsSpec : ChangeSpec := { name := "keepTells", fn := fun _ => fun
  | [d1, d2, d3] => { results := [.lit (.bool true)], args := [d1, d2, d3] }
  | _ => none }
def keepTellsRow : OpenClaim := { program := "ytgmjmkkhoibbcaadoor", sum := "61a628cab3845e719161811d1e3cd3bbfe6683bedfcae2de0a7901a3eee86125", func := "hoarfrost/hoarfrostlaw14.KeepTells", spec := "keepTells", unfollowed := true, recurses := true, named := ["hoarfrost/status.table"], apart := false, laid := [("hoarfrost/status.table", laid_hoarfrost_status_table)] }
def KeepTellsSaid : Prop := keepTellsRow.holds Tryd.pinned (OpenSpec.ofChange keepTellsSpec)

/-- ITS FALSE NEIGHBOUR: 'it returns false'. Refute it at one input. -/
def keepTellsWrong : ChangeSpec := { name := "keepTells", fn := fun _ => fun
  | [d1, d2, d3] => { results := [.lit (.bool false)], args := [d1, d2, d3] }
  | _ => none }
def KeepTellsWrongFalsely : Prop := keepTellsRow.holds Tryd.pinned (OpenSpec.ofChange keepTellsWrong)

/-- 'hoarfrostlaw14.KeepNever': WHATEVER THE INPUT: true; the input reads as it did. -/
def keepNeverSpec : ChangeSpec := { name := "keepNever", fn := fun _ => fun
  | [d1, d2, d3] => { results := [.lit (.bool true)], args := [d1, d2, d3] }
  | _ => none }
def keepNeverRow : OpenClaim := { program := "ytgmjmkkhoibbcaadoor", sum := "61a628cab3845e719161811d1e3cd3bbfe6683bedfcae2de0a7901a3eee86125", func := "hoarfrost/hoarfrostlaw14.KeepNever", spec := "keepNever", unfollowed := true, recurses := true, named := ["hoarfrost/status.table"], apart := false, laid := [("hoarfrost/status.table", laid_hoarfrost_status_table)] }
def KeepNeverSaid : Prop := keepNeverRow.holds Tryd.pinned (OpenSpec.ofChange keepNeverSpec)

/-- ITS FALSE NEIGHBOUR: 'it returns false'. Refute it at one input. -/
def keepNeverWrong : ChangeSpec := { name := "keepNever", fn := fun _ => fun
  | [d1, d2, d3] => { results := [.lit (.bool false)], args := [d1, d2, d3] }
  | _ => none }
def KeepNeverWrongFalsely : Prop := keepNeverRow.holds Tryd.pinned (OpenSpec.ofChange keepNeverWrong)

/- THE SECOND FORM. 'bulk': how many values and letters a reading holds, each counted each time it is reached (what is shared counts as often as it is met; a slice's spare places count too). A statement '..UptoSaid' is the law's where the arguments, and the package variables that the reading takes, are together of bulk at most 1048576: NARROWER than '..Said'. Prove '..Said' where nothing that the law and all that it calls make is longer than what came in: it says more and counts as full. Else prove '..UptoSaid'. A law counts once. -/
mutual
def uptoBulk {H : Type} : DataW H → Nat
  | .lit (.string bytes) => bytes.length + 1
  | .lit _ => 1
  | .nil => 1
  | .ptr d => uptoBulk d + 1
  | .slice elems spare => uptoBulkAll elems + uptoBulkAll spare + 1
  | .agg parts => uptoBulkAll parts + 1
  | .iface _ d => uptoBulk d + 1
  | .map entries => uptoBulkEntries entries + 1
  | .held _ => 1
def uptoBulkAll {H : Type} : List (DataW H) → Nat
  | [] => 0
  | d :: r => uptoBulk d + uptoBulkAll r
def uptoBulkEntries {H : Type} : List (Lit × DataW H) → Nat
  | [] => 0
  | x :: r => uptoBulkEntry x + uptoBulkEntries r
def uptoBulkEntry {H : Type} : Lit × DataW H → Nat
  | (.string bytes, d) => bytes.length + uptoBulk d + 1
  | (_, d) => uptoBulk d + 1
 end
def uptoSmall : (H : Type) → List (DataW H) → Bool := fun _ ds => decide (uptoBulkAll ds ≤ 1048576)
def OpenSpec.upto (s : _root_.Go.ChangeSpec) : _root_.Go.OpenSpec := { _root_.Go.OpenSpec.ofChange s with cond := some uptoSmall }

/-- 'hoarfrostlaw14.KeepTells', WHERE WHAT IT READS IS OF BULK AT MOST 1048576: true; the input reads as it did. -/
def keepTellsUptoRow : OpenClaim := { program := "ytgmjmkkhoibbcaadoor", sum := "61a628cab3845e719161811d1e3cd3bbfe6683bedfcae2de0a7901a3eee86125", func := "hoarfrost/hoarfrostlaw14.KeepTells", spec := "keepTells", unfollowed := true, recurses := true, named := ["hoarfrost/status.table"], apart := false, laid := [("hoarfrost/status.table", laid_hoarfrost_status_table)], narrowed := true }
def KeepTellsUptoSaid : Prop := keepTellsUptoRow.holds Tryd.pinned (OpenSpec.upto keepTellsSpec)

/-- 'hoarfrostlaw14.KeepNever', WHERE WHAT IT READS IS OF BULK AT MOST 1048576: true; the input reads as it did. -/
def keepNeverUptoRow : OpenClaim := { program := "ytgmjmkkhoibbcaadoor", sum := "61a628cab3845e719161811d1e3cd3bbfe6683bedfcae2de0a7901a3eee86125", func := "hoarfrost/hoarfrostlaw14.KeepNever", spec := "keepNever", unfollowed := true, recurses := true, named := ["hoarfrost/status.table"], apart := false, laid := [("hoarfrost/status.table", laid_hoarfrost_status_table)], narrowed := true }
def KeepNeverUptoSaid : Prop := keepNeverUptoRow.holds Tryd.pinned (OpenSpec.upto keepNeverSpec)

end Rows
end Go.Proofs.YtgmjmkkhoibbcaaDoor
