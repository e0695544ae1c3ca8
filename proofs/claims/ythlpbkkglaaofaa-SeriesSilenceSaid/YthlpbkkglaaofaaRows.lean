/-
  No cell of these rows narrows 'for every input' (looked for: loops, veiled, ifaces, maps, wideKeys, modest, calm, conditions, laid).
  DERIVED. THE GIVEN ROWS OF THIS SEAT. 3 by the template 'for every input the law returns true; each argument reads behind the call as it read before'; 0 by the template 'total and deterministic' (their statements: YthlpbkkglaaofaaTotals.lean).
  GIVEN WITH THE SEED: the statements are not yours to turn. If you find one false, say at which input.
  Laid BY PROGRAM, IN A SANDBOX (cutbox-rows.mjs): the forced cells as the released guide's own fill.sh prints them over the translation 3ca411e08c3e4234… (all of the seat's roots in one cut). By AI agents, Wed Nov 11 2026. No macro, syntax, notation, axiom, sorry.
-/
import Derived.Test.YthlpbkkglaaofaaChecked
import GoSem.Claim
import GoSem.ClaimJoined
import GoSem.ClaimMapViews
import Derived.JoinedTies
import Derived.KernelRfl
namespace Go.Proofs.Ythlpbkkglaaofaa
/- THE CELL 'sum', in the pinned program and in every row, IS THE sha256 OF THE DUMP (.gsa) THAT YthlpbkkglaaofaaProg.lean LOADS. Nothing in Lean hashes anything: it is a label: what it is worth is what the hold of that sum in a sandbox is worth. -/
noncomputable def Try.pinned : Pinned := { name := "ythlpbkkglaaofaa", sum := "3ca411e08c3e42348c6238d391fb5f9d2038828ac849c001dad5551947f69ed3", checked := Try.checked }
namespace Rows
def none {H : Type} : Left H := { results := [], args := [] }

/-- 'hoarfrostlaw06.SeriesTells': WHATEVER THE INPUT: true; the input reads as it did. -/
def seriesTellsSpec : ChangeSpec := { name := "seriesTells", fn := fun _ => fun
  | [d1, d2, d3] => { results := [.lit (.bool true)], args := [d1, d2, d3] }
  | _ => none }
def seriesTellsRow : OpenClaim := { program := "ythlpbkkglaaofaa", sum := "3ca411e08c3e42348c6238d391fb5f9d2038828ac849c001dad5551947f69ed3", func := "hoarfrost/hoarfrostlaw06.SeriesTells", spec := "seriesTells", inPlace := ["slices.overlaps[hoarfrost/api.Reading]"], unfollowed := true, recurses := true, apart := false }
def SeriesTellsSaid : Prop := seriesTellsRow.holds Try.pinned (OpenSpec.ofChange seriesTellsSpec)

/-- ITS FALSE NEIGHBOUR: 'it returns false'. Refute it at one input. -/
def seriesTellsWrong : ChangeSpec := { name := "seriesTells", fn := fun _ => fun
  | [d1, d2, d3] => { results := [.lit (.bool false)], args := [d1, d2, d3] }
  | _ => none }
def SeriesTellsWrongFalsely : Prop := seriesTellsRow.holds Try.pinned (OpenSpec.ofChange seriesTellsWrong)

/-- 'hoarfrostlaw06.SeriesOrder': WHATEVER THE INPUT: true; the input reads as it did. -/
def seriesOrderSpec : ChangeSpec := { name := "seriesOrder", fn := fun _ => fun
  | [d1, d2, d3] => { results := [.lit (.bool true)], args := [d1, d2, d3] }
  | _ => none }
def seriesOrderRow : OpenClaim := { program := "ythlpbkkglaaofaa", sum := "3ca411e08c3e42348c6238d391fb5f9d2038828ac849c001dad5551947f69ed3", func := "hoarfrost/hoarfrostlaw06.SeriesOrder", spec := "seriesOrder", inPlace := ["slices.overlaps[hoarfrost/api.Reading]"], unfollowed := true, recurses := true, apart := false }
def SeriesOrderSaid : Prop := seriesOrderRow.holds Try.pinned (OpenSpec.ofChange seriesOrderSpec)

/-- ITS FALSE NEIGHBOUR: 'it returns false'. Refute it at one input. -/
def seriesOrderWrong : ChangeSpec := { name := "seriesOrder", fn := fun _ => fun
  | [d1, d2, d3] => { results := [.lit (.bool false)], args := [d1, d2, d3] }
  | _ => none }
def SeriesOrderWrongFalsely : Prop := seriesOrderRow.holds Try.pinned (OpenSpec.ofChange seriesOrderWrong)

/-- 'hoarfrostlaw06.SeriesSilence': WHATEVER THE INPUT: true; the input reads as it did. -/
def seriesSilenceSpec : ChangeSpec := { name := "seriesSilence", fn := fun _ => fun
  | [d1, d2, d3] => { results := [.lit (.bool true)], args := [d1, d2, d3] }
  | _ => none }
def seriesSilenceRow : OpenClaim := { program := "ythlpbkkglaaofaa", sum := "3ca411e08c3e42348c6238d391fb5f9d2038828ac849c001dad5551947f69ed3", func := "hoarfrost/hoarfrostlaw06.SeriesSilence", spec := "seriesSilence", inPlace := ["slices.overlaps[hoarfrost/api.Reading]"], unfollowed := true, recurses := true, apart := false }
def SeriesSilenceSaid : Prop := seriesSilenceRow.holds Try.pinned (OpenSpec.ofChange seriesSilenceSpec)

/-- ITS FALSE NEIGHBOUR: 'it returns false'. Refute it at one input. -/
def seriesSilenceWrong : ChangeSpec := { name := "seriesSilence", fn := fun _ => fun
  | [d1, d2, d3] => { results := [.lit (.bool false)], args := [d1, d2, d3] }
  | _ => none }
def SeriesSilenceWrongFalsely : Prop := seriesSilenceRow.holds Try.pinned (OpenSpec.ofChange seriesSilenceWrong)

/- THE SECOND FORM. 'bulk': how many values and letters a reading holds, each counted each time it is reached (what is shared counts as often as it is met; a slice's spare places count too). A statement '..UptoSaid' is the law's where the arguments, and the package variables that the reading takes, are together of bulk at most 1048576: NARROWER than '..Said'. Prove '..Said' where nothing that the law and all that it calls make is longer than what came in: it says more and counts as full. Else prove '..UptoSaid'. A law counts once. -/
mutual
def uptoBulk {H : Type} : DataW H → Nat
  | .lit (.string bytes) => bytes.length + 1
  | .lit _ => 1
  | .nil => 1
  | .ptr d => uptoBulk d + 1
  | .slice elems spare => uptoBulkAll elems + uptoBulkAll spare + 1
  | .agg parts => uptoBulkAll parts + 1
  | .iface _ d => uptoBulk d + 1
  | .map entries => uptoBulkEntries entries + 1
  | .held _ => 1
def uptoBulkAll {H : Type} : List (DataW H) → Nat
  | [] => 0
  | d :: r => uptoBulk d + uptoBulkAll r
def uptoBulkEntries {H : Type} : List (Lit × DataW H) → Nat
  | [] => 0
  | x :: r => uptoBulkEntry x + uptoBulkEntries r
def uptoBulkEntry {H : Type} : Lit × DataW H → Nat
  | (.string bytes, d) => bytes.length + uptoBulk d + 1
  | (_, d) => uptoBulk d + 1
 end
def uptoSmall : (H : Type) → List (DataW H) → Bool := fun _ ds => decide (uptoBulkAll ds ≤ 1048576)
def OpenSpec.upto (s : _root_.Go.ChangeSpec) : _root_.Go.OpenSpec := { _root_.Go.OpenSpec.ofChange s with cond := some uptoSmall }

/-- 'hoarfrostlaw06.SeriesTells', WHERE WHAT IT READS IS OF BULK AT MOST 1048576: true; the input reads as it did. -/
def seriesTellsUptoRow : OpenClaim := { program := "ythlpbkkglaaofaa", sum := "3ca411e08c3e42348c6238d391fb5f9d2038828ac849c001dad5551947f69ed3", func := "hoarfrost/hoarfrostlaw06.SeriesTells", spec := "seriesTells", inPlace := ["slices.overlaps[hoarfrost/api.Reading]"], unfollowed := true, recurses := true, apart := false, narrowed := true }
def SeriesTellsUptoSaid : Prop := seriesTellsUptoRow.holds Try.pinned (OpenSpec.upto seriesTellsSpec)

/-- 'hoarfrostlaw06.SeriesOrder', WHERE WHAT IT READS IS OF BULK AT MOST 1048576: true; the input reads as it did. -/
def seriesOrderUptoRow : OpenClaim := { program := "ythlpbkkglaaofaa", sum := "3ca411e08c3e42348c6238d391fb5f9d2038828ac849c001dad5551947f69ed3", func := "hoarfrost/hoarfrostlaw06.SeriesOrder", spec := "seriesOrder", inPlace := ["slices.overlaps[hoarfrost/api.Reading]"], unfollowed := true, recurses := true, apart := false, narrowed := true }
def SeriesOrderUptoSaid : Prop := seriesOrderUptoRow.holds Try.pinned (OpenSpec.upto seriesOrderSpec)

/-- 'hoarfrostlaw06.SeriesSilence', WHERE WHAT IT READS IS OF BULK AT MOST 1048576: true; the input reads as it did. -/
def seriesSilenceUptoRow : OpenClaim := { program := "ythlpbkkglaaofaa", sum := "3ca411e08c3e42348c6238d391fb5f9d2038828ac849c001dad5551947f69ed3", func := "hoarfrost/hoarfrostlaw06.SeriesSilence", spec := "seriesSilence", inPlace := ["slices.overlaps[hoarfrost/api.Reading]"], unfollowed := true, recurses := true, apart := false, narrowed := true }
def SeriesSilenceUptoSaid : Prop := seriesSilenceUptoRow.holds Try.pinned (OpenSpec.upto seriesSilenceSpec)

end Rows
end Go.Proofs.Ythlpbkkglaaofaa
