/-
  No cell of these rows narrows 'for every input' (looked for: loops, veiled, ifaces, maps, wideKeys, modest, calm, conditions, laid).
  DERIVED. THE GIVEN ROWS OF THIS SEAT. 3 by the template 'for every input the law returns true; each argument reads behind the call as it read before'; 0 by the template 'total and deterministic' (their statements: YtfmnbmjfkplieaaTotals.lean).
  GIVEN WITH THE SEED: the statements are not yours to turn. If you find one false, say at which input.
  Laid BY PROGRAM, IN A SANDBOX (cutbox-rows.mjs): the forced cells as the released guide's own fill.sh prints them over the translation 92eea02701db487b… (all of the seat's roots in one cut). By AI agents, Wed Nov 11 2026. No macro, syntax, notation, axiom, sorry.
-/
import Derived.Test.YtfmnbmjfkplieaaChecked
import GoSem.Claim
import GoSem.ClaimJoined
import GoSem.ClaimMapViews
import Derived.JoinedTies
import Derived.KernelRfl
namespace Go.Proofs.Ytfmnbmjfkplieaa
/- THE CELL 'sum', in the pinned program and in every row, IS THE sha256 OF THE DUMP (.gsa) THAT YtfmnbmjfkplieaaProg.lean LOADS. Nothing in Lean hashes anything: it is a label: what it is worth is what the hold of that sum in a sandbox is worth. -/
noncomputable def Try.pinned : Pinned := { name := "ytfmnbmjfkplieaa", sum := "92eea02701db487b22cc958ae1ffcd21eb8ec02f79e0083a1011dea589059482", checked := Try.checked }
namespace Rows
def none {H : Type} : Left H := { results := [], args := [] }

/-- 'hoarfrostlaw07.ExcessTells': WHATEVER THE INPUT: true; the input reads as it did. -/
def excessTellsSpec : ChangeSpec := { name := "excessTells", fn := fun _ => fun
  | [d1, d2, d3] => { results := [.lit (.bool true)], args := [d1, d2, d3] }
  | _ => none }
def excessTellsRow : OpenClaim := { program := "ytfmnbmjfkplieaa", sum := "92eea02701db487b22cc958ae1ffcd21eb8ec02f79e0083a1011dea589059482", func := "hoarfrost/hoarfrostlaw07.ExcessTells", spec := "excessTells", inPlace := ["slices.overlaps[hoarfrost/api.Reading]"], unfollowed := true, recurses := true, apart := false }
def ExcessTellsSaid : Prop := excessTellsRow.holds Try.pinned (OpenSpec.ofChange excessTellsSpec)

/-- ITS FALSE NEIGHBOUR: 'it returns false'. Refute it at one input. -/
def excessTellsWrong : ChangeSpec := { name := "excessTells", fn := fun _ => fun
  | [d1, d2, d3] => { results := [.lit (.bool false)], args := [d1, d2, d3] }
  | _ => none }
def ExcessTellsWrongFalsely : Prop := excessTellsRow.holds Try.pinned (OpenSpec.ofChange excessTellsWrong)

/-- 'hoarfrostlaw07.ExcessAdded': WHATEVER THE INPUT: true; the input reads as it did. -/
def excessAddedSpec : ChangeSpec := { name := "excessAdded", fn := fun _ => fun
  | [d1, d2, d3] => { results := [.lit (.bool true)], args := [d1, d2, d3] }
  | _ => none }
def excessAddedRow : OpenClaim := { program := "ytfmnbmjfkplieaa", sum := "92eea02701db487b22cc958ae1ffcd21eb8ec02f79e0083a1011dea589059482", func := "hoarfrost/hoarfrostlaw07.ExcessAdded", spec := "excessAdded", inPlace := ["slices.overlaps[hoarfrost/api.Reading]"], unfollowed := true, recurses := true, apart := false }
def ExcessAddedSaid : Prop := excessAddedRow.holds Try.pinned (OpenSpec.ofChange excessAddedSpec)

/-- ITS FALSE NEIGHBOUR: 'it returns false'. Refute it at one input. -/
def excessAddedWrong : ChangeSpec := { name := "excessAdded", fn := fun _ => fun
  | [d1, d2, d3] => { results := [.lit (.bool false)], args := [d1, d2, d3] }
  | _ => none }
def ExcessAddedWrongFalsely : Prop := excessAddedRow.holds Try.pinned (OpenSpec.ofChange excessAddedWrong)

/-- 'hoarfrostlaw07.ExcessSame': WHATEVER THE INPUT: true; the input reads as it did. -/
def excessSameSpec : ChangeSpec := { name := "excessSame", fn := fun _ => fun
  | [d1, d2, d3] => { results := [.lit (.bool true)], args := [d1, d2, d3] }
  | _ => none }
def excessSameRow : OpenClaim := { program := "ytfmnbmjfkplieaa", sum := "92eea02701db487b22cc958ae1ffcd21eb8ec02f79e0083a1011dea589059482", func := "hoarfrost/hoarfrostlaw07.ExcessSame", spec := "excessSame", inPlace := ["slices.overlaps[hoarfrost/api.Reading]"], unfollowed := true, recurses := true, apart := false }
def ExcessSameSaid : Prop := excessSameRow.holds Try.pinned (OpenSpec.ofChange excessSameSpec)

/-- ITS FALSE NEIGHBOUR: 'it returns false'. Refute it at one input. -/
def excessSameWrong : ChangeSpec := { name := "excessSame", fn := fun _ => fun
  | [d1, d2, d3] => { results := [.lit (.bool false)], args := [d1, d2, d3] }
  | _ => none }
def ExcessSameWrongFalsely : Prop := excessSameRow.holds Try.pinned (OpenSpec.ofChange excessSameWrong)

/- THE SECOND FORM. 'bulk': how many values and letters a reading holds, each counted each time it is reached (what is shared counts as often as it is met; a slice's spare places count too). A statement '..UptoSaid' is the law's where the arguments, and the package variables that the reading takes, are together of bulk at most 1048576: NARROWER than '..Said'. Prove '..Said' where nothing that the law and all that it calls make is longer than what came in: it says more and counts as full. Else prove '..UptoSaid'. A law counts once. -/
mutual
def uptoBulk {H : Type} : DataW H → Nat
  | .lit (.string bytes) => bytes.length + 1
  | .lit _ => 1
  | .nil => 1
  | .ptr d => uptoBulk d + 1
  | .slice elems spare => uptoBulkAll elems + uptoBulkAll spare + 1
  | .agg parts => uptoBulkAll parts + 1
  | .iface _ d => uptoBulk d + 1
  | .map entries => uptoBulkEntries entries + 1
  | .held _ => 1
def uptoBulkAll {H : Type} : List (DataW H) → Nat
  | [] => 0
  | d :: r => uptoBulk d + uptoBulkAll r
def uptoBulkEntries {H : Type} : List (Lit × DataW H) → Nat
  | [] => 0
  | x :: r => uptoBulkEntry x + uptoBulkEntries r
def uptoBulkEntry {H : Type} : Lit × DataW H → Nat
  | (.string bytes, d) => bytes.length + uptoBulk d + 1
  | (_, d) => uptoBulk d + 1
 end
def uptoSmall : (H : Type) → List (DataW H) → Bool := fun _ ds => decide (uptoBulkAll ds ≤ 1048576)
def OpenSpec.upto (s : _root_.Go.ChangeSpec) : _root_.Go.OpenSpec := { _root_.Go.OpenSpec.ofChange s with cond := some uptoSmall }

/-- 'hoarfrostlaw07.ExcessTells', WHERE WHAT IT READS IS OF BULK AT MOST 1048576: true; the input reads as it did. -/
def excessTellsUptoRow : OpenClaim := { program := "ytfmnbmjfkplieaa", sum := "92eea02701db487b22cc958ae1ffcd21eb8ec02f79e0083a1011dea589059482", func := "hoarfrost/hoarfrostlaw07.ExcessTells", spec := "excessTells", inPlace := ["slices.overlaps[hoarfrost/api.Reading]"], unfollowed := true, recurses := true, apart := false, narrowed := true }
def ExcessTellsUptoSaid : Prop := excessTellsUptoRow.holds Try.pinned (OpenSpec.upto excessTellsSpec)

/-- 'hoarfrostlaw07.ExcessAdded', WHERE WHAT IT READS IS OF BULK AT MOST 1048576: true; the input reads as it did. -/
def excessAddedUptoRow : OpenClaim := { program := "ytfmnbmjfkplieaa", sum := "92eea02701db487b22cc958ae1ffcd21eb8ec02f79e0083a1011dea589059482", func := "hoarfrost/hoarfrostlaw07.ExcessAdded", spec := "excessAdded", inPlace := ["slices.overlaps[hoarfrost/api.Reading]"], unfollowed := true, recurses := true, apart := false, narrowed := true }
def ExcessAddedUptoSaid : Prop := excessAddedUptoRow.holds Try.pinned (OpenSpec.upto excessAddedSpec)

/-- 'hoarfrostlaw07.ExcessSame', WHERE WHAT IT READS IS OF BULK AT MOST 1048576: true; the input reads as it did. -/
def excessSameUptoRow : OpenClaim := { program := "ytfmnbmjfkplieaa", sum := "92eea02701db487b22cc958ae1ffcd21eb8ec02f79e0083a1011dea589059482", func := "hoarfrost/hoarfrostlaw07.ExcessSame", spec := "excessSame", inPlace := ["slices.overlaps[hoarfrost/api.Reading]"], unfollowed := true, recurses := true, apart := false, narrowed := true }
def ExcessSameUptoSaid : Prop := excessSameUptoRow.holds Try.pinned (OpenSpec.upto excessSameSpec)

end Rows
end Go.Proofs.Ytfmnbmjfkplieaa
