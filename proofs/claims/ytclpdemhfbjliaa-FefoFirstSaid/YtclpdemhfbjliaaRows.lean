/-
  No cell of these rows narrows 'for every input' (looked for: loops, veiled, ifaces, maps, wideKeys, modest, calm, conditions, laid).
  DERIVED. THE GIVEN ROWS OF THIS SEAT. 2 by the template 'for every input the law returns true; each argument reads behind the call as it read before'; 0 by the template 'total and deterministic' (their statements: YtclpdemhfbjliaaTotals.lean).
  GIVEN WITH THE SEED: the statements are not yours to turn. If you find one false, say at which input.
  Laid BY PROGRAM, IN A SANDBOX (cutbox-rows.mjs): the forced cells as the released guide's own fill.sh prints them over the translation 909d438208befac2… (all of the seat's roots in one cut). By AI agents, Wed Nov 11 2026. No macro, syntax, notation, axiom, sorry.
-/
import Derived.Test.YtclpdemhfbjliaaChecked
import GoSem.Claim
import GoSem.ClaimJoined
import GoSem.ClaimMapViews
import Derived.JoinedTies
import Derived.KernelRfl
namespace Go.Proofs.Ytclpdemhfbjliaa
/- THE CELL 'sum', in the pinned program and in every row, IS THE sha256 OF THE DUMP (.gsa) THAT YtclpdemhfbjliaaProg.lean LOADS. Nothing in Lean hashes anything: it is a label: what it is worth is what the hold of that sum in a sandbox is worth. -/
noncomputable def Try.pinned : Pinned := { name := "ytclpdemhfbjliaa", sum := "909d438208befac2cead3fe9a966b2912d7b01a00ea45a47d208b22fba5d900b", checked := Try.checked }
namespace Rows
def none {H : Type} : Left H := { results := [], args := [] }

/-- 'hoarfrostlaw15.FefoTells': WHATEVER THE INPUT: true; the input reads as it did. -/
def fefoTellsSpec : ChangeSpec := { name := "fefoTells", fn := fun _ => fun
  | [d1, d2, d3] => { results := [.lit (.bool true)], args := [d1, d2, d3] }
  | _ => none }
def fefoTellsRow : OpenClaim := { program := "ytclpdemhfbjliaa", sum := "909d438208befac2cead3fe9a966b2912d7b01a00ea45a47d208b22fba5d900b", func := "hoarfrost/hoarfrostlaw15.FefoTells", spec := "fefoTells", unfollowed := true, recurses := true, apart := false }
def FefoTellsSaid : Prop := fefoTellsRow.holds Try.pinned (OpenSpec.ofChange fefoTellsSpec)

/-- ITS FALSE NEIGHBOUR: 'it returns false'. Refute it at one input. -/
def fefoTellsWrong : ChangeSpec := { name := "fefoTells", fn := fun _ => fun
  | [d1, d2, d3] => { results := [.lit (.bool false)], args := [d1, d2, d3] }
  | _ => none }
def FefoTellsWrongFalsely : Prop := fefoTellsRow.holds Try.pinned (OpenSpec.ofChange fefoTellsWrong)

/-- 'hoarfrostlaw15.FefoFirst': WHATEVER THE INPUT: true; the input reads as it did. -/
def fefoFirstSpec : ChangeSpec := { name := "fefoFirst", fn := fun _ => fun
  | [d1, d2, d3] => { results := [.lit (.bool true)], args := [d1, d2, d3] }
  | _ => none }
def fefoFirstRow : OpenClaim := { program := "ytclpdemhfbjliaa", sum := "909d438208befac2cead3fe9a966b2912d7b01a00ea45a47d208b22fba5d900b", func := "hoarfrost/hoarfrostlaw15.FefoFirst", spec := "fefoFirst", unfollowed := true, recurses := true, apart := false }
def FefoFirstSaid : Prop := fefoFirstRow.holds Try.pinned (OpenSpec.ofChange fefoFirstSpec)

/-- ITS FALSE NEIGHBOUR: 'it returns false'. Refute it at one input. -/
def fefoFirstWrong : ChangeSpec := { name := "fefoFirst", fn := fun _ => fun
  | [d1, d2, d3] => { results := [.lit (.bool false)], args := [d1, d2, d3] }
  | _ => none }
def FefoFirstWrongFalsely : Prop := fefoFirstRow.holds Try.pinned (OpenSpec.ofChange fefoFirstWrong)

/- THE SECOND FORM. 'bulk': how many values and letters a reading holds, each counted each time it is reached (what is shared counts as often as it is met; a slice's spare places count too). A statement '..UptoSaid' is the law's where the arguments, and the package variables that the reading takes, are together of bulk at most 1048576: NARROWER than '..Said'. Prove '..Said' where nothing that the law and all that it calls make is longer than what came in: it says more and counts as full. Else prove '..UptoSaid'. A law counts once. -/
mutual
def uptoBulk {H : Type} : DataW H → Nat
  | .lit (.string bytes) => bytes.length + 1
  | .lit _ => 1
  | .nil => 1
  | .ptr d => uptoBulk d + 1
  | .slice elems spare => uptoBulkAll elems + uptoBulkAll spare + 1
  | .agg parts => uptoBulkAll parts + 1
  | .iface _ d => uptoBulk d + 1
  | .map entries => uptoBulkEntries entries + 1
  | .held _ => 1
def uptoBulkAll {H : Type} : List (DataW H) → Nat
  | [] => 0
  | d :: r => uptoBulk d + uptoBulkAll r
def uptoBulkEntries {H : Type} : List (Lit × DataW H) → Nat
  | [] => 0
  | x :: r => uptoBulkEntry x + uptoBulkEntries r
def uptoBulkEntry {H : Type} : Lit × DataW H → Nat
  | (.string bytes, d) => bytes.length + uptoBulk d + 1
  | (_, d) => uptoBulk d + 1
 end
def uptoSmall : (H : Type) → List (DataW H) → Bool := fun _ ds => decide (uptoBulkAll ds ≤ 1048576)
def OpenSpec.upto (s : _root_.Go.ChangeSpec) : _root_.Go.OpenSpec := { _root_.Go.OpenSpec.ofChange s with cond := some uptoSmall }

/-- 'hoarfrostlaw15.FefoTells', WHERE WHAT IT READS IS OF BULK AT MOST 1048576: true; the input reads as it did. -/
def fefoTellsUptoRow : OpenClaim := { program := "ytclpdemhfbjliaa", sum := "909d438208befac2cead3fe9a966b2912d7b01a00ea45a47d208b22fba5d900b", func := "hoarfrost/hoarfrostlaw15.FefoTells", spec := "fefoTells", unfollowed := true, recurses := true, apart := false, narrowed := true }
def FefoTellsUptoSaid : Prop := fefoTellsUptoRow.holds Try.pinned (OpenSpec.upto fefoTellsSpec)

/-- 'hoarfrostlaw15.FefoFirst', WHERE WHAT IT READS IS OF BULK AT MOST 1048576: true; the input reads as it did. -/
def fefoFirstUptoRow : OpenClaim := { program := "ytclpdemhfbjliaa", sum := "909d438208befac2cead3fe9a966b2912d7b01a00ea45a47d208b22fba5d900b", func := "hoarfrost/hoarfrostlaw15.FefoFirst", spec := "fefoFirst", unfollowed := true, recurses := true, apart := false, narrowed := true }
def FefoFirstUptoSaid : Prop := fefoFirstUptoRow.holds Try.pinned (OpenSpec.upto fefoFirstSpec)

end Rows
end Go.Proofs.Ytclpdemhfbjliaa
