/-
  DERIVED. GIVEN WITH THE SEED: THE CARDS: each row of YtconmgjogcfcbaaDoorRows.lean that lists a variable, with what it lists TIED to the program's text (the seventh form; the later family's looks); each row that meets fmt, with fmt's text TOLD by the authors' own Lean function (tested against real Go, not proved from fmt's source: count such statements apart). THE CARD IS WHAT COUNTS. Prove the row's statement (the work); the ties are given (YtconmgjogcfcbaaDoorTie.lean); close each card by the builder's one call (the guide's Derived/Test/ToyasCard.lean, 'card_holds'). Laid BY PROGRAM, IN A SANDBOX (cutbox-door.mjs). By AI agents, Wed Nov 11 2026. No macro, syntax, notation, axiom, sorry.
-/
import Derived.Test.YtconmgjogcfcbaaDoorRows
import GoSem.ClaimSeven
namespace Go.Proofs.YtconmgjogcfcbaaDoor
namespace Rows

/-- THE TIED CARD OF 'hoarfrostlaw11.StatusTells'. -/
def statusTellsCard : Claim7 := { stood := { row := statusTellsRow, standIns := [], harness := (true, "43216d48ebee8272450c1ab26f496e8da7b77f2a9dc2a4aa5c6abf36459caa41"), looks := false }, kinds := [], alts := [], laidByText := true, laidKinds := [.data, .data], laidTests := true, laidLooks := .later }
def StatusTellsCardSaid : Prop := Claim7.holds Tryd.pinned (.plain (OpenSpec.ofChange statusTellsSpec)) statusTellsCard

/-- THE TIED CARD OF 'hoarfrostlaw11.StatusEnds'. -/
def statusEndsCard : Claim7 := { stood := { row := statusEndsRow, standIns := [], harness := (true, "43216d48ebee8272450c1ab26f496e8da7b77f2a9dc2a4aa5c6abf36459caa41"), looks := false }, kinds := [], alts := [], laidByText := true, laidKinds := [.data, .data], laidTests := true, laidLooks := .later }
def StatusEndsCardSaid : Prop := Claim7.holds Tryd.pinned (.plain (OpenSpec.ofChange statusEndsSpec)) statusEndsCard

/-- THE SECOND FORM's CARD OF 'hoarfrostlaw11.StatusTells'. -/
def statusTellsUptoCard : Claim7 := { stood := { row := statusTellsUptoRow, standIns := [], harness := (true, "43216d48ebee8272450c1ab26f496e8da7b77f2a9dc2a4aa5c6abf36459caa41"), looks := false }, kinds := [], alts := [], laidByText := true, laidKinds := [.data, .data], laidTests := true, laidLooks := .later }
def StatusTellsUptoCardSaid : Prop := Claim7.holds Tryd.pinned (.plain (OpenSpec.upto statusTellsSpec)) statusTellsUptoCard

/-- THE SECOND FORM's CARD OF 'hoarfrostlaw11.StatusEnds'. -/
def statusEndsUptoCard : Claim7 := { stood := { row := statusEndsUptoRow, standIns := [], harness := (true, "43216d48ebee8272450c1ab26f496e8da7b77f2a9dc2a4aa5c6abf36459caa41"), looks := false }, kinds := [], alts := [], laidByText := true, laidKinds := [.data, .data], laidTests := true, laidLooks := .later }
def StatusEndsUptoCardSaid : Prop := Claim7.holds Tryd.pinned (.plain (OpenSpec.upto statusEndsSpec)) statusEndsUptoCard
end Rows
end Go.Proofs.YtconmgjogcfcbaaDoor
