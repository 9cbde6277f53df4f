/-
  DERIVED. GIVEN WITH THE SEED: THE CARDS: each row of YtgcmlefalilodaaDoorRows.lean that lists a variable, with what it lists TIED to the program's text (the seventh form; the later family's looks); each row that meets fmt, with fmt's text TOLD by the authors' own Lean function (tested against real Go, not proved from fmt's source: count such statements apart). THE CARD IS WHAT COUNTS. Prove the row's statement (the work); the ties are given (YtgcmlefalilodaaDoorTie.lean); close each card by the builder's one call (the guide's Derived/Test/ToyasCard.lean, 'card_holds'). Laid BY PROGRAM, IN A SANDBOX (cutbox-door.mjs). By AI agents, Wed Nov 11 2026. No macro, syntax, notation, axiom, sorry.
-/
import Derived.Test.YtgcmlefalilodaaDoorRows
import GoSem.ClaimSeven
namespace Go.Proofs.YtgcmlefalilodaaDoor
namespace Rows

/-- THE TIED CARD OF 'selkielaw07.DotsFolds'. -/
def dotsFoldsCard : Claim7 := { stood := { row := dotsFoldsRow, standIns := [], harness := (true, "1665a9ea09c368eb7f8dd0c88be80ccbe43ea9bb3579d2577f99eb19804e3ff5"), looks := true }, kinds := [], alts := [], laidByText := true, laidKinds := [.handle], laidTests := true, laidLooks := .later }
def DotsFoldsCardSaid : Prop := Claim7.holds Tryd.pinned (.plain (OpenSpec.ofChange dotsFoldsSpec)) dotsFoldsCard

/-- THE SECOND FORM's CARD OF 'selkielaw07.DotsFolds'. -/
def dotsFoldsUptoCard : Claim7 := { stood := { row := dotsFoldsUptoRow, standIns := [], harness := (true, "1665a9ea09c368eb7f8dd0c88be80ccbe43ea9bb3579d2577f99eb19804e3ff5"), looks := true }, kinds := [], alts := [], laidByText := true, laidKinds := [.handle], laidTests := true, laidLooks := .later }
def DotsFoldsUptoCardSaid : Prop := Claim7.holds Tryd.pinned (.plain (OpenSpec.upto dotsFoldsSpec)) dotsFoldsUptoCard
end Rows
end Go.Proofs.YtgcmlefalilodaaDoor
