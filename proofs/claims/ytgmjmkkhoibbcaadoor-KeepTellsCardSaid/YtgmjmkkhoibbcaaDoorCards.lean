/-
  DERIVED. GIVEN WITH THE SEED: THE CARDS: each row of YtgmjmkkhoibbcaaDoorRows.lean that lists a variable, with what it lists TIED to the program's text (the seventh form; the later family's looks); each row that meets fmt, with fmt's text TOLD by the authors' own Lean function (tested against real Go, not proved from fmt's source: count such statements apart). THE CARD IS WHAT COUNTS. Prove the row's statement (the work); the ties are given (YtgmjmkkhoibbcaaDoorTie.lean); close each card by the builder's one call (the guide's Derived/Test/ToyasCard.lean, 'card_holds'). Laid BY PROGRAM, IN A SANDBOX (cutbox-door.mjs). By AI agents, Wed Nov 11 2026. No macro, syntax, notation, axiom, sorry.
-/
import Derived.Test.YtgmjmkkhoibbcaaDoorRows
import GoSem.ClaimSeven
namespace Go.Proofs.YtgmjmkkhoibbcaaDoor
namespace Rows

/-- THE TIED CARD OF 'hoarfrostlaw14.KeepTells'. -/
def keepTellsCard : Claim7 := { stood := { row := keepTellsRow, standIns := [], harness := (true, "97b37c6239170f6440ba37b174884213c1d6299260d2076a9861dacaa3a5bf51"), looks := false }, kinds := [], alts := [], laidByText := true, laidKinds := [.data], laidTests := true, laidLooks := .later }
def KeepTellsCardSaid : Prop := Claim7.holds Tryd.pinned (.plain (OpenSpec.ofChange keepTellsSpec)) keepTellsCard

/-- THE TIED CARD OF 'hoarfrostlaw14.KeepNever'. -/
def keepNeverCard : Claim7 := { stood := { row := keepNeverRow, standIns := [], harness := (true, "97b37c6239170f6440ba37b174884213c1d6299260d2076a9861dacaa3a5bf51"), looks := false }, kinds := [], alts := [], laidByText := true, laidKinds := [.data], laidTests := true, laidLooks := .later }
def KeepNeverCardSaid : Prop := Claim7.holds Tryd.pinned (.plain (OpenSpec.ofChange keepNeverSpec)) keepNeverCard

/-- THE SECOND FORM's CARD OF 'hoarfrostlaw14.KeepTells'. -/
def keepTellsUptoCard : Claim7 := { stood := { row := keepTellsUptoRow, standIns := [], harness := (true, "97b37c6239170f6440ba37b174884213c1d6299260d2076a9861dacaa3a5bf51"), looks := false }, kinds := [], alts := [], laidByText := true, laidKinds := [.data], laidTests := true, laidLooks := .later }
def KeepTellsUptoCardSaid : Prop := Claim7.holds Tryd.pinned (.plain (OpenSpec.upto keepTellsSpec)) keepTellsUptoCard

/-- THE SECOND FORM's CARD OF 'hoarfrostlaw14.KeepNever'. -/
def keepNeverUptoCard : Claim7 := { stood := { row := keepNeverUptoRow, standIns := [], harness := (true, "97b37c6239170f6440ba37b174884213c1d6299260d2076a9861dacaa3a5bf51"), looks := false }, kinds := [], alts := [], laidByText := true, laidKinds := [.data], laidTests := true, laidLooks := .later }
def KeepNeverUptoCardSaid : Prop := Claim7.holds Tryd.pinned (.plain (OpenSpec.upto keepNeverSpec)) keepNeverUptoCard
end Rows
end Go.Proofs.YtgmjmkkhoibbcaaDoor
