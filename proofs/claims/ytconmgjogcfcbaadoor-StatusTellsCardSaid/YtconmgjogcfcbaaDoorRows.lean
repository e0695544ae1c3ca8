/-
  NARROWER THAN 'FOR EVERY INPUT', by the rows' own cells (each row's printed sentence says how): StatusTells: laid · StatusEnds: laid.
  DERIVED. THE GIVEN ROWS OF THIS SEAT. 2 by the template 'for every input the law returns true; each argument reads behind the call as it read before'; 0 by the template 'total and deterministic' (their statements: YtconmgjogcfcbaaDoorTotals.lean).
  GIVEN WITH THE SEED: the statements are not yours to turn. If you find one false, say at which input.
  Laid BY PROGRAM, IN A SANDBOX (cutbox-rows.mjs): the forced cells as the released guide's own fill.sh prints them over the translation 6126fc451c7cbf9e… (all of the seat's roots in one cut). By AI agents, Wed Nov 11 2026. No macro, syntax, notation, axiom, sorry.
-/
import Derived.Test.YtconmgjogcfcbaaDoorChecked
import GoSem.Claim
import GoSem.ClaimJoined
import GoSem.ClaimMapViews
import Derived.JoinedTies
import Derived.KernelRfl
namespace Go.Proofs.YtconmgjogcfcbaaDoor
/- THE CELL 'sum', in the pinned program and in every row, IS THE sha256 OF THE DUMP (.gsa) THAT YtconmgjogcfcbaaDoorProg.lean LOADS. Nothing in Lean hashes anything: it is a label: what it is worth is what the hold of that sum in a sandbox is worth. -/
noncomputable def Tryd.pinned : Pinned := { name := "ytconmgjogcfcbaadoor", sum := "6126fc451c7cbf9e7eccc0b104303fe6686df9cb663167042329267862094db9", checked := Tryd.checked }
namespace Rows
def none {H : Type} : Left H := { results := [], args := [] }

/- WHAT THE LISTED PACKAGE-LEVEL VARIABLES READ AS WHEN THE CALL BEGINS. Each datum BY PROGRAM (the guide's laid-datum.mjs) off the statement by which the dump's own 'gosem.cut.vars' lays the variable. In a bare row this is a premise. The card (YtconmgjogcfcbaaDoorCards.lean) ties it to the program's text. -/
def laid_hoarfrost_status_table {H : Type} : DataW H := .agg [.agg [.lit (.int .i64 1), .lit (.int .i64 2), .lit (.int .i64 (-1)), .lit (.int .i64 3), .lit (.int .i64 (-1))], .agg [.lit (.int .i64 (-1)), .lit (.int .i64 2), .lit (.int .i64 (-1)), .lit (.int .i64 3), .lit (.int .i64 4)], .agg [.lit (.int .i64 (-1)), .lit (.int .i64 2), .lit (.int .i64 1), .lit (.int .i64 3), .lit (.int .i64 (-1))], .agg [.lit (.int .i64 (-1)), .lit (.int .i64 (-1)), .lit (.int .i64 (-1)), .lit (.int .i64 (-1)), .lit (.int .i64 (-1))], .agg [.lit (.int .i64 (-1)), .lit (.int .i64 (-1)), .lit (.int .i64 (-1)), .lit (.int .i64 (-1)), .lit (.int .i64 (-1))]]
def laid_hoarfrost_status_names {H : Type} : DataW H := .agg [.lit (.string [113, 117, 97, 114, 97, 110, 116, 105, 110, 101]), .lit (.string [114, 101, 108, 101, 97, 115, 101, 100]), .lit (.string [104, 101, 108, 100]), .lit (.string [114, 101, 106, 101, 99, 116, 101, 100]), .lit (.string [115, 104, 105, 112, 112, 101, 100])]

/-- 'hoarfrostlaw11.StatusTells': WHATEVER THE INPUT: true; the input reads as it did. -/
def statusTellsSpec : ChangeSpec := { name := "statusTells", fn := fun _ => fun
  | [d1, d2, d3] => { results := [.lit (.bool true)], args := [d1, d2, d3] }
  | _ => none }
def statusTellsRow : OpenClaim := { program := "ytconmgjogcfcbaadoor", sum := "6126fc451c7cbf9e7eccc0b104303fe6686df9cb663167042329267862094db9", func := "hoarfrost/hoarfrostlaw11.StatusTells", spec := "statusTells", named := ["hoarfrost/status.table", "hoarfrost/status.names"], apart := false, laid := [("hoarfrost/status.table", laid_hoarfrost_status_table), ("hoarfrost/status.names", laid_hoarfrost_status_names)] }
def StatusTellsSaid : Prop := statusTellsRow.holds Tryd.pinned (OpenSpec.ofChange statusTellsSpec)

/-- ITS FALSE NEIGHBOUR: 'it returns false'. Refute it at one input. -/
def statusTellsWrong : ChangeSpec := { name := "statusTells", fn := fun _ => fun
  | [d1, d2, d3] => { results := [.lit (.bool false)], args := [d1, d2, d3] }
  | _ => none }
def StatusTellsWrongFalsely : Prop := statusTellsRow.holds Tryd.pinned (OpenSpec.ofChange statusTellsWrong)

/-- 'hoarfrostlaw11.StatusEnds': WHATEVER THE INPUT: true; the input reads as it did. -/
def statusEndsSpec : ChangeSpec := { name := "statusEnds", fn := fun _ => fun
  | [d] => { results := [.lit (.bool true)], args := [d] }
  | _ => none }
def statusEndsRow : OpenClaim := { program := "ytconmgjogcfcbaadoor", sum := "6126fc451c7cbf9e7eccc0b104303fe6686df9cb663167042329267862094db9", func := "hoarfrost/hoarfrostlaw11.StatusEnds", spec := "statusEnds", named := ["hoarfrost/status.table", "hoarfrost/status.names"], apart := false, laid := [("hoarfrost/status.table", laid_hoarfrost_status_table), ("hoarfrost/status.names", laid_hoarfrost_status_names)] }
def StatusEndsSaid : Prop := statusEndsRow.holds Tryd.pinned (OpenSpec.ofChange statusEndsSpec)

/-- ITS FALSE NEIGHBOUR: 'it returns false'. Refute it at one input. -/
def statusEndsWrong : ChangeSpec := { name := "statusEnds", fn := fun _ => fun
  | [d] => { results := [.lit (.bool false)], args := [d] }
  | _ => none }
def StatusEndsWrongFalsely : Prop := statusEndsRow.holds Tryd.pinned (OpenSpec.ofChange statusEndsWrong)

/- THE SECOND FORM. 'bulk': how many values and letters a reading holds, each counted each time it is reached (what is shared counts as often as it is met; a slice's spare places count too). A statement '..UptoSaid' is the law's where the arguments, and the package variables that the reading takes, are together of bulk at most 1048576: NARROWER than '..Said'. Prove '..Said' where nothing that the law and all that it calls make is longer than what came in: it says more and counts as full. Else prove '..UptoSaid'. A law counts once. -/
mutual
def uptoBulk {H : Type} : DataW H → Nat
  | .lit (.string bytes) => bytes.length + 1
  | .lit _ => 1
  | .nil => 1
  | .ptr d => uptoBulk d + 1
  | .slice elems spare => uptoBulkAll elems + uptoBulkAll spare + 1
  | .agg parts => uptoBulkAll parts + 1
  | .iface _ d => uptoBulk d + 1
  | .map entries => uptoBulkEntries entries + 1
  | .held _ => 1
def uptoBulkAll {H : Type} : List (DataW H) → Nat
  | [] => 0
  | d :: r => uptoBulk d + uptoBulkAll r
def uptoBulkEntries {H : Type} : List (Lit × DataW H) → Nat
  | [] => 0
  | x :: r => uptoBulkEntry x + uptoBulkEntries r
def uptoBulkEntry {H : Type} : Lit × DataW H → Nat
  | (.string bytes, d) => bytes.length + uptoBulk d + 1
  | (_, d) => uptoBulk d + 1
 end
def uptoSmall : (H : Type) → List (DataW H) → Bool := fun _ ds => decide (uptoBulkAll ds ≤ 1048576)
def OpenSpec.upto (s : _root_.Go.ChangeSpec) : _root_.Go.OpenSpec := { _root_.Go.OpenSpec.ofChange s with cond := some uptoSmall }

/-- 'hoarfrostlaw11.StatusTells', WHERE WHAT IT READS IS OF BULK AT MOST 1048576: true; the input reads as it did. -/
def statusTellsUptoRow : OpenClaim := { program := "ytconmgjogcfcbaadoor", sum := "6126fc451c7cbf9e7eccc0b104303fe6686df9cb663167042329267862094db9", func := "hoarfrost/hoarfrostlaw11.StatusTells", spec := "statusTells", named := ["hoarfrost/status.table", "hoarfrost/status.names"], apart := false, laid := [("hoarfrost/status.table", laid_hoarfrost_status_table), ("hoarfrost/status.names", laid_hoarfrost_status_names)], narrowed := true }
def StatusTellsUptoSaid : Prop := statusTellsUptoRow.holds Tryd.pinned (OpenSpec.upto statusTellsSpec)

/-- 'hoarfrostlaw11.StatusEnds', WHERE WHAT IT READS IS OF BULK AT MOST 1048576: true; the input reads as it did. -/
def statusEndsUptoRow : OpenClaim := { program := "ytconmgjogcfcbaadoor", sum := "6126fc451c7cbf9e7eccc0b104303fe6686df9cb663167042329267862094db9", func := "hoarfrost/hoarfrostlaw11.StatusEnds", spec := "statusEnds", named := ["hoarfrost/status.table", "hoarfrost/status.names"], apart := false, laid := [("hoarfrost/status.table", laid_hoarfrost_status_table), ("hoarfrost/status.names", laid_hoarfrost_status_names)], narrowed := true }
def StatusEndsUptoSaid : Prop := statusEndsUptoRow.holds Tryd.pinned (OpenSpec.upto statusEndsSpec)

end Rows
end Go.Proofs.YtconmgjogcfcbaaDoor
