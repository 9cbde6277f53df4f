/-
  DERIVED. GIVEN WITH THE SEED: THE CARDS: each row of YthbdjgebpjffgaaGreatDoorRows.lean that lists a variable, with what it lists TIED to the program's text (the seventh form; the later family's looks); each row that meets fmt, with fmt's text TOLD by the authors' own Lean function (tested against real Go, not proved from fmt's source: count such statements apart). THE CARD IS WHAT COUNTS. Prove the row's statement (the work); the ties are given (YthbdjgebpjffgaaGreatDoorTie.lean); close each card by the builder's one call (the guide's Derived/Test/ToyasCard.lean, 'card_holds'). Laid BY PROGRAM, IN A SANDBOX (cutbox-door.mjs). By AI agents, Wed Nov 11 2026. No macro, syntax, notation, axiom, sorry.
-/
import Derived.Test.YthbdjgebpjffgaaGreatDoorRows
import GoSem.ClaimSeven
namespace Go.Proofs.YthbdjgebpjffgaaGreatDoor
namespace Rows

/-- THE TIED CARD OF 'selkielaw08.CutBytes'. -/
def cutBytesCard : Claim7 := { stood := { row := cutBytesRow, standIns := [], harness := (true, "50f8e2e6bf283c2e181956f6b266a04404b3487069168f8ad3f514dd09bfcd07"), looks := true }, kinds := [], alts := [], laidByText := true, laidKinds := [.handle], laidTests := true, laidLooks := .later }
def CutBytesCardSaid : Prop := Claim7.holds Tryz.pinned (.plain (OpenSpec.ofChange cutBytesSpec)) cutBytesCard

/-- THE SECOND FORM's CARD OF 'selkielaw08.CutBytes'. -/
def cutBytesUptoCard : Claim7 := { stood := { row := cutBytesUptoRow, standIns := [], harness := (true, "50f8e2e6bf283c2e181956f6b266a04404b3487069168f8ad3f514dd09bfcd07"), looks := true }, kinds := [], alts := [], laidByText := true, laidKinds := [.handle], laidTests := true, laidLooks := .later }
def CutBytesUptoCardSaid : Prop := Claim7.holds Tryz.pinned (.plain (OpenSpec.upto cutBytesSpec)) cutBytesUptoCard
end Rows
end Go.Proofs.YthbdjgebpjffgaaGreatDoor
