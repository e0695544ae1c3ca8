/-
  No cell of these rows narrows 'for every input' (looked for: loops, veiled, ifaces, maps, wideKeys, modest, calm, conditions, laid).
  DERIVED. THE GIVEN ROWS OF THIS SEAT. 2 by the template 'for every input the law returns true; each argument reads behind the call as it read before'; 0 by the template 'total and deterministic' (their statements: YtehiclmkdpcplaaTotals.lean).
  GIVEN WITH THE SEED: the statements are not yours to turn. If you find one false, say at which input.
  Laid BY PROGRAM, IN A SANDBOX (cutbox-rows.mjs): the forced cells as the released guide's own fill.sh prints them over the translation 11cfebe3e15f11a4… (all of the seat's roots in one cut). By AI agents, Wed Nov 11 2026. No macro, syntax, notation, axiom, sorry.
-/
import Derived.Test.YtehiclmkdpcplaaChecked
import GoSem.Claim
import GoSem.ClaimJoined
import GoSem.ClaimMapViews
import Derived.JoinedTies
import Derived.KernelRfl
namespace Go.Proofs.Ytehiclmkdpcplaa
/- THE CELL 'sum', in the pinned program and in every row, IS THE sha256 OF THE DUMP (.gsa) THAT YtehiclmkdpcplaaProg.lean LOADS. Nothing in Lean hashes anything: it is a label: what it is worth is what the hold of that sum in a sandbox is worth. -/
noncomputable def Try.pinned : Pinned := { name := "ytehiclmkdpcplaa", sum := "11cfebe3e15f11a4cbb33cea91ef23b40191fca0ca9fca348a3939a856a48786", checked := Try.checked }
namespace Rows
def none {H : Type} : Left H := { results := [], args := [] }

/-- 'hoarfrostlaw13.LedgerTells': WHATEVER THE INPUT: true; the input reads as it did. -/
def ledgerTellsSpec : ChangeSpec := { name := "ledgerTells", fn := fun _ => fun
  | [d1, d2, d3] => { results := [.lit (.bool true)], args := [d1, d2, d3] }
  | _ => none }
def ledgerTellsRow : OpenClaim := { program := "ytehiclmkdpcplaa", sum := "11cfebe3e15f11a4cbb33cea91ef23b40191fca0ca9fca348a3939a856a48786", func := "hoarfrost/hoarfrostlaw13.LedgerTells", spec := "ledgerTells", inPlace := ["slices.overlaps[hoarfrost/api.Reading]"], unfollowed := true, recurses := true, apart := false }
def LedgerTellsSaid : Prop := ledgerTellsRow.holds Try.pinned (OpenSpec.ofChange ledgerTellsSpec)

/-- ITS FALSE NEIGHBOUR: 'it returns false'. Refute it at one input. -/
def ledgerTellsWrong : ChangeSpec := { name := "ledgerTells", fn := fun _ => fun
  | [d1, d2, d3] => { results := [.lit (.bool false)], args := [d1, d2, d3] }
  | _ => none }
def LedgerTellsWrongFalsely : Prop := ledgerTellsRow.holds Try.pinned (OpenSpec.ofChange ledgerTellsWrong)

/-- 'hoarfrostlaw13.LedgerMinutes': WHATEVER THE INPUT: true; the input reads as it did. -/
def ledgerMinutesSpec : ChangeSpec := { name := "ledgerMinutes", fn := fun _ => fun
  | [d1, d2, d3] => { results := [.lit (.bool true)], args := [d1, d2, d3] }
  | _ => none }
def ledgerMinutesRow : OpenClaim := { program := "ytehiclmkdpcplaa", sum := "11cfebe3e15f11a4cbb33cea91ef23b40191fca0ca9fca348a3939a856a48786", func := "hoarfrost/hoarfrostlaw13.LedgerMinutes", spec := "ledgerMinutes", inPlace := ["slices.overlaps[hoarfrost/api.Reading]"], unfollowed := true, recurses := true, apart := false }
def LedgerMinutesSaid : Prop := ledgerMinutesRow.holds Try.pinned (OpenSpec.ofChange ledgerMinutesSpec)

/-- ITS FALSE NEIGHBOUR: 'it returns false'. Refute it at one input. -/
def ledgerMinutesWrong : ChangeSpec := { name := "ledgerMinutes", fn := fun _ => fun
  | [d1, d2, d3] => { results := [.lit (.bool false)], args := [d1, d2, d3] }
  | _ => none }
def LedgerMinutesWrongFalsely : Prop := ledgerMinutesRow.holds Try.pinned (OpenSpec.ofChange ledgerMinutesWrong)

/- THE SECOND FORM. 'bulk': how many values and letters a reading holds, each counted each time it is reached (what is shared counts as often as it is met; a slice's spare places count too). A statement '..UptoSaid' is the law's where the arguments, and the package variables that the reading takes, are together of bulk at most 1048576: NARROWER than '..Said'. Prove '..Said' where nothing that the law and all that it calls make is longer than what came in: it says more and counts as full. Else prove '..UptoSaid'. A law counts once. -/
mutual
def uptoBulk {H : Type} : DataW H → Nat
  | .lit (.string bytes) => bytes.length + 1
  | .lit _ => 1
  | .nil => 1
  | .ptr d => uptoBulk d + 1
  | .slice elems spare => uptoBulkAll elems + uptoBulkAll spare + 1
  | .agg parts => uptoBulkAll parts + 1
  | .iface _ d => uptoBulk d + 1
  | .map entries => uptoBulkEntries entries + 1
  | .held _ => 1
def uptoBulkAll {H : Type} : List (DataW H) → Nat
  | [] => 0
  | d :: r => uptoBulk d + uptoBulkAll r
def uptoBulkEntries {H : Type} : List (Lit × DataW H) → Nat
  | [] => 0
  | x :: r => uptoBulkEntry x + uptoBulkEntries r
def uptoBulkEntry {H : Type} : Lit × DataW H → Nat
  | (.string bytes, d) => bytes.length + uptoBulk d + 1
  | (_, d) => uptoBulk d + 1
 end
def uptoSmall : (H : Type) → List (DataW H) → Bool := fun _ ds => decide (uptoBulkAll ds ≤ 1048576)
def OpenSpec.upto (s : _root_.Go.ChangeSpec) : _root_.Go.OpenSpec := { _root_.Go.OpenSpec.ofChange s with cond := some uptoSmall }

/-- 'hoarfrostlaw13.LedgerTells', WHERE WHAT IT READS IS OF BULK AT MOST 1048576: true; the input reads as it did. -/
def ledgerTellsUptoRow : OpenClaim := { program := "ytehiclmkdpcplaa", sum := "11cfebe3e15f11a4cbb33cea91ef23b40191fca0ca9fca348a3939a856a48786", func := "hoarfrost/hoarfrostlaw13.LedgerTells", spec := "ledgerTells", inPlace := ["slices.overlaps[hoarfrost/api.Reading]"], unfollowed := true, recurses := true, apart := false, narrowed := true }
def LedgerTellsUptoSaid : Prop := ledgerTellsUptoRow.holds Try.pinned (OpenSpec.upto ledgerTellsSpec)

/-- 'hoarfrostlaw13.LedgerMinutes', WHERE WHAT IT READS IS OF BULK AT MOST 1048576: true; the input reads as it did. -/
def ledgerMinutesUptoRow : OpenClaim := { program := "ytehiclmkdpcplaa", sum := "11cfebe3e15f11a4cbb33cea91ef23b40191fca0ca9fca348a3939a856a48786", func := "hoarfrost/hoarfrostlaw13.LedgerMinutes", spec := "ledgerMinutes", inPlace := ["slices.overlaps[hoarfrost/api.Reading]"], unfollowed := true, recurses := true, apart := false, narrowed := true }
def LedgerMinutesUptoSaid : Prop := ledgerMinutesUptoRow.holds Try.pinned (OpenSpec.upto ledgerMinutesSpec)

end Rows
end Go.Proofs.Ytehiclmkdpcplaa
