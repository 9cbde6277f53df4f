/-
  DERIVED. GIVEN WITH THE SEED: THE CARDS: each row of YtlahhlcapkhpdaaDoorRows.lean that lists a variable, with what it lists TIED to the program's text (the seventh form; the later family's looks); each row that meets fmt, with fmt's text TOLD by the authors' own Lean function (tested against real Go, not proved from fmt's source: count such statements apart). THE CARD IS WHAT COUNTS. Prove the row's statement (the work); the ties are given (YtlahhlcapkhpdaaDoorTie.lean); close each card by the builder's one call (the guide's Derived/Test/ToyasCard.lean, 'card_holds'). Laid BY PROGRAM, IN A SANDBOX (cutbox-door.mjs). By AI agents, Wed Nov 11 2026. No macro, syntax, notation, axiom, sorry.
-/
import Derived.Test.YtlahhlcapkhpdaaDoorRows
import GoSem.ClaimSeven
namespace Go.Proofs.YtlahhlcapkhpdaaDoor
namespace Rows

/-- THE TIED CARD OF 'selkielaw05.IdentBytes'. -/
def identBytesCard : Claim7 := { stood := { row := identBytesRow, standIns := [], harness := (true, "80c40bb86b6d5dedef0a4785272e0378c20fd618ba1c2c6d7e4f73ee99dae521"), looks := true }, kinds := [], alts := [], laidByText := true, laidKinds := [.handle], laidTests := true, laidLooks := .later }
def IdentBytesCardSaid : Prop := Claim7.holds Tryd.pinned (.plain (OpenSpec.ofChange identBytesSpec)) identBytesCard

/-- THE SECOND FORM's CARD OF 'selkielaw05.IdentBytes'. -/
def identBytesUptoCard : Claim7 := { stood := { row := identBytesUptoRow, standIns := [], harness := (true, "80c40bb86b6d5dedef0a4785272e0378c20fd618ba1c2c6d7e4f73ee99dae521"), looks := true }, kinds := [], alts := [], laidByText := true, laidKinds := [.handle], laidTests := true, laidLooks := .later }
def IdentBytesUptoCardSaid : Prop := Claim7.holds Tryd.pinned (.plain (OpenSpec.upto identBytesSpec)) identBytesUptoCard
end Rows
end Go.Proofs.YtlahhlcapkhpdaaDoor
