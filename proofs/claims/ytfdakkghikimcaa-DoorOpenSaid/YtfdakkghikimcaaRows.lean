/-
  No cell of these rows narrows 'for every input' (looked for: loops, veiled, ifaces, maps, wideKeys, modest, calm, conditions, laid).
  DERIVED. THE GIVEN ROWS OF THIS SEAT. 3 by the template 'for every input the law returns true; each argument reads behind the call as it read before'; 0 by the template 'total and deterministic' (their statements: YtfdakkghikimcaaTotals.lean).
  GIVEN WITH THE SEED: the statements are not yours to turn. If you find one false, say at which input.
  Laid BY PROGRAM, IN A SANDBOX (cutbox-rows.mjs): the forced cells as the released guide's own fill.sh prints them over the translation aa343fbfce1aebab… (all of the seat's roots in one cut). By AI agents, Wed Nov 11 2026. No macro, syntax, notation, axiom, sorry.
-/
import Derived.Test.YtfdakkghikimcaaChecked
import GoSem.Claim
import GoSem.ClaimJoined
import GoSem.ClaimMapViews
import Derived.JoinedTies
import Derived.KernelRfl
namespace Go.Proofs.Ytfdakkghikimcaa
/- THE CELL 'sum', in the pinned program and in every row, IS THE sha256 OF THE DUMP (.gsa) THAT YtfdakkghikimcaaProg.lean LOADS. Nothing in Lean hashes anything: it is a label: what it is worth is what the hold of that sum in a sandbox is worth. -/
noncomputable def Try.pinned : Pinned := { name := "ytfdakkghikimcaa", sum := "aa343fbfce1aebab447d91c2293a6d4b9e5301e13d20b71a27034a57d4fd6189", checked := Try.checked }
namespace Rows
def none {H : Type} : Left H := { results := [], args := [] }

/-- 'hoarfrostlaw08.DoorTells': WHATEVER THE INPUT: true; the input reads as it did. -/
def doorTellsSpec : ChangeSpec := { name := "doorTells", fn := fun _ => fun
  | [d1, d2, d3] => { results := [.lit (.bool true)], args := [d1, d2, d3] }
  | _ => none }
def doorTellsRow : OpenClaim := { program := "ytfdakkghikimcaa", sum := "aa343fbfce1aebab447d91c2293a6d4b9e5301e13d20b71a27034a57d4fd6189", func := "hoarfrost/hoarfrostlaw08.DoorTells", spec := "doorTells", unfollowed := true, recurses := true, plainKeys := false, apart := false }
def DoorTellsSaid : Prop := doorTellsRow.holds Try.pinned (OpenSpec.ofChange doorTellsSpec)

/-- ITS FALSE NEIGHBOUR: 'it returns false'. Refute it at one input. -/
def doorTellsWrong : ChangeSpec := { name := "doorTells", fn := fun _ => fun
  | [d1, d2, d3] => { results := [.lit (.bool false)], args := [d1, d2, d3] }
  | _ => none }
def DoorTellsWrongFalsely : Prop := doorTellsRow.holds Try.pinned (OpenSpec.ofChange doorTellsWrong)

/-- 'hoarfrostlaw08.DoorOrder': WHATEVER THE INPUT: true; the input reads as it did. -/
def doorOrderSpec : ChangeSpec := { name := "doorOrder", fn := fun _ => fun
  | [d] => { results := [.lit (.bool true)], args := [d] }
  | _ => none }
def doorOrderRow : OpenClaim := { program := "ytfdakkghikimcaa", sum := "aa343fbfce1aebab447d91c2293a6d4b9e5301e13d20b71a27034a57d4fd6189", func := "hoarfrost/hoarfrostlaw08.DoorOrder", spec := "doorOrder", unfollowed := true, recurses := true, plainKeys := false, apart := false }
def DoorOrderSaid : Prop := doorOrderRow.holds Try.pinned (OpenSpec.ofChange doorOrderSpec)

/-- ITS FALSE NEIGHBOUR: 'it returns false'. Refute it at one input. -/
def doorOrderWrong : ChangeSpec := { name := "doorOrder", fn := fun _ => fun
  | [d] => { results := [.lit (.bool false)], args := [d] }
  | _ => none }
def DoorOrderWrongFalsely : Prop := doorOrderRow.holds Try.pinned (OpenSpec.ofChange doorOrderWrong)

/-- 'hoarfrostlaw08.DoorOpen': WHATEVER THE INPUT: true; the input reads as it did. -/
def doorOpenSpec : ChangeSpec := { name := "doorOpen", fn := fun _ => fun
  | [d1, d2, d3] => { results := [.lit (.bool true)], args := [d1, d2, d3] }
  | _ => none }
def doorOpenRow : OpenClaim := { program := "ytfdakkghikimcaa", sum := "aa343fbfce1aebab447d91c2293a6d4b9e5301e13d20b71a27034a57d4fd6189", func := "hoarfrost/hoarfrostlaw08.DoorOpen", spec := "doorOpen", unfollowed := true, recurses := true, plainKeys := false, apart := false }
def DoorOpenSaid : Prop := doorOpenRow.holds Try.pinned (OpenSpec.ofChange doorOpenSpec)

/-- ITS FALSE NEIGHBOUR: 'it returns false'. Refute it at one input. -/
def doorOpenWrong : ChangeSpec := { name := "doorOpen", fn := fun _ => fun
  | [d1, d2, d3] => { results := [.lit (.bool false)], args := [d1, d2, d3] }
  | _ => none }
def DoorOpenWrongFalsely : Prop := doorOpenRow.holds Try.pinned (OpenSpec.ofChange doorOpenWrong)

/- THE SECOND FORM. 'bulk': how many values and letters a reading holds, each counted each time it is reached (what is shared counts as often as it is met; a slice's spare places count too). A statement '..UptoSaid' is the law's where the arguments, and the package variables that the reading takes, are together of bulk at most 1048576: NARROWER than '..Said'. Prove '..Said' where nothing that the law and all that it calls make is longer than what came in: it says more and counts as full. Else prove '..UptoSaid'. A law counts once. -/
mutual
def uptoBulk {H : Type} : DataW H → Nat
  | .lit (.string bytes) => bytes.length + 1
  | .lit _ => 1
  | .nil => 1
  | .ptr d => uptoBulk d + 1
  | .slice elems spare => uptoBulkAll elems + uptoBulkAll spare + 1
  | .agg parts => uptoBulkAll parts + 1
  | .iface _ d => uptoBulk d + 1
  | .map entries => uptoBulkEntries entries + 1
  | .held _ => 1
def uptoBulkAll {H : Type} : List (DataW H) → Nat
  | [] => 0
  | d :: r => uptoBulk d + uptoBulkAll r
def uptoBulkEntries {H : Type} : List (Lit × DataW H) → Nat
  | [] => 0
  | x :: r => uptoBulkEntry x + uptoBulkEntries r
def uptoBulkEntry {H : Type} : Lit × DataW H → Nat
  | (.string bytes, d) => bytes.length + uptoBulk d + 1
  | (_, d) => uptoBulk d + 1
 end
def uptoSmall : (H : Type) → List (DataW H) → Bool := fun _ ds => decide (uptoBulkAll ds ≤ 1048576)
def OpenSpec.upto (s : _root_.Go.ChangeSpec) : _root_.Go.OpenSpec := { _root_.Go.OpenSpec.ofChange s with cond := some uptoSmall }

/-- 'hoarfrostlaw08.DoorTells', WHERE WHAT IT READS IS OF BULK AT MOST 1048576: true; the input reads as it did. -/
def doorTellsUptoRow : OpenClaim := { program := "ytfdakkghikimcaa", sum := "aa343fbfce1aebab447d91c2293a6d4b9e5301e13d20b71a27034a57d4fd6189", func := "hoarfrost/hoarfrostlaw08.DoorTells", spec := "doorTells", unfollowed := true, recurses := true, plainKeys := false, apart := false, narrowed := true }
def DoorTellsUptoSaid : Prop := doorTellsUptoRow.holds Try.pinned (OpenSpec.upto doorTellsSpec)

/-- 'hoarfrostlaw08.DoorOrder', WHERE WHAT IT READS IS OF BULK AT MOST 1048576: true; the input reads as it did. -/
def doorOrderUptoRow : OpenClaim := { program := "ytfdakkghikimcaa", sum := "aa343fbfce1aebab447d91c2293a6d4b9e5301e13d20b71a27034a57d4fd6189", func := "hoarfrost/hoarfrostlaw08.DoorOrder", spec := "doorOrder", unfollowed := true, recurses := true, plainKeys := false, apart := false, narrowed := true }
def DoorOrderUptoSaid : Prop := doorOrderUptoRow.holds Try.pinned (OpenSpec.upto doorOrderSpec)

/-- 'hoarfrostlaw08.DoorOpen', WHERE WHAT IT READS IS OF BULK AT MOST 1048576: true; the input reads as it did. -/
def doorOpenUptoRow : OpenClaim := { program := "ytfdakkghikimcaa", sum := "aa343fbfce1aebab447d91c2293a6d4b9e5301e13d20b71a27034a57d4fd6189", func := "hoarfrost/hoarfrostlaw08.DoorOpen", spec := "doorOpen", unfollowed := true, recurses := true, plainKeys := false, apart := false, narrowed := true }
def DoorOpenUptoSaid : Prop := doorOpenUptoRow.holds Try.pinned (OpenSpec.upto doorOpenSpec)

end Rows
end Go.Proofs.Ytfdakkghikimcaa
