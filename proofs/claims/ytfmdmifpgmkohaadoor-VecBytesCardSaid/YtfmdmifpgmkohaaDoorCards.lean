/-
  DERIVED. GIVEN WITH THE SEED: THE CARDS: each row of YtfmdmifpgmkohaaDoorRows.lean that lists a variable, with what it lists TIED to the program's text (the seventh form; the later family's looks); each row that meets fmt, with fmt's text TOLD by the authors' own Lean function (tested against real Go, not proved from fmt's source: count such statements apart). THE CARD IS WHAT COUNTS. Prove the row's statement (the work); the ties are given (YtfmdmifpgmkohaaDoorTie.lean); close each card by the builder's one call (the guide's Derived/Test/ToyasCard.lean, 'card_holds'). Laid BY PROGRAM, IN A SANDBOX (cutbox-door.mjs). By AI agents, Wed Nov 11 2026. No macro, syntax, notation, axiom, sorry.
-/
import Derived.Test.YtfmdmifpgmkohaaDoorRows
import GoSem.ClaimSeven
namespace Go.Proofs.YtfmdmifpgmkohaaDoor
namespace Rows

/-- THE TIED CARD OF 'selkielaw06.VecBytes'. -/
def vecBytesCard : Claim7 := { stood := { row := vecBytesRow, standIns := [], harness := (true, "a0432cff4e11fe0f52389a3f0c4c39a281e1780827d37657021422dfaff48607"), looks := true }, kinds := [], alts := [], laidByText := true, laidKinds := [.data, .data, .data, .handle], laidTests := true, laidLooks := .later }
def VecBytesCardSaid : Prop := Claim7.holds Tryd.pinned (.plain (OpenSpec.ofChange vecBytesSpec)) vecBytesCard

/-- THE TIED CARD OF 'selkielaw06.VecOrder'. -/
def vecOrderCard : Claim7 := { stood := { row := vecOrderRow, standIns := [], harness := (true, "a0432cff4e11fe0f52389a3f0c4c39a281e1780827d37657021422dfaff48607"), looks := true }, kinds := [], alts := [], laidByText := true, laidKinds := [.data, .data, .data], laidTests := true, laidLooks := .later }
def VecOrderCardSaid : Prop := Claim7.holds Tryd.pinned (.plain (OpenSpec.ofChange vecOrderSpec)) vecOrderCard

/-- THE TIED CARD OF 'selkielaw06.VecSteps'. -/
def vecStepsCard : Claim7 := { stood := { row := vecStepsRow, standIns := [], harness := (true, "a0432cff4e11fe0f52389a3f0c4c39a281e1780827d37657021422dfaff48607"), looks := true }, kinds := [], alts := [], laidByText := true, laidKinds := [.data, .data, .data], laidTests := true, laidLooks := .later }
def VecStepsCardSaid : Prop := Claim7.holds Tryd.pinned (.plain (OpenSpec.ofChange vecStepsSpec)) vecStepsCard

/-- THE TIED CARD OF 'selkielaw06.VecBack'. -/
def vecBackCard : Claim7 := { stood := { row := vecBackRow, standIns := [], harness := (true, "a0432cff4e11fe0f52389a3f0c4c39a281e1780827d37657021422dfaff48607"), looks := true }, kinds := [], alts := [], laidByText := true, laidKinds := [.data, .data, .data], laidTests := true, laidLooks := .later }
def VecBackCardSaid : Prop := Claim7.holds Tryd.pinned (.plain (OpenSpec.ofChange vecBackSpec)) vecBackCard

/-- THE SECOND FORM's CARD OF 'selkielaw06.VecBytes'. -/
def vecBytesUptoCard : Claim7 := { stood := { row := vecBytesUptoRow, standIns := [], harness := (true, "a0432cff4e11fe0f52389a3f0c4c39a281e1780827d37657021422dfaff48607"), looks := true }, kinds := [], alts := [], laidByText := true, laidKinds := [.data, .data, .data, .handle], laidTests := true, laidLooks := .later }
def VecBytesUptoCardSaid : Prop := Claim7.holds Tryd.pinned (.plain (OpenSpec.upto vecBytesSpec)) vecBytesUptoCard

/-- THE SECOND FORM's CARD OF 'selkielaw06.VecOrder'. -/
def vecOrderUptoCard : Claim7 := { stood := { row := vecOrderUptoRow, standIns := [], harness := (true, "a0432cff4e11fe0f52389a3f0c4c39a281e1780827d37657021422dfaff48607"), looks := true }, kinds := [], alts := [], laidByText := true, laidKinds := [.data, .data, .data], laidTests := true, laidLooks := .later }
def VecOrderUptoCardSaid : Prop := Claim7.holds Tryd.pinned (.plain (OpenSpec.upto vecOrderSpec)) vecOrderUptoCard

/-- THE SECOND FORM's CARD OF 'selkielaw06.VecSteps'. -/
def vecStepsUptoCard : Claim7 := { stood := { row := vecStepsUptoRow, standIns := [], harness := (true, "a0432cff4e11fe0f52389a3f0c4c39a281e1780827d37657021422dfaff48607"), looks := true }, kinds := [], alts := [], laidByText := true, laidKinds := [.data, .data, .data], laidTests := true, laidLooks := .later }
def VecStepsUptoCardSaid : Prop := Claim7.holds Tryd.pinned (.plain (OpenSpec.upto vecStepsSpec)) vecStepsUptoCard

/-- THE SECOND FORM's CARD OF 'selkielaw06.VecBack'. -/
def vecBackUptoCard : Claim7 := { stood := { row := vecBackUptoRow, standIns := [], harness := (true, "a0432cff4e11fe0f52389a3f0c4c39a281e1780827d37657021422dfaff48607"), looks := true }, kinds := [], alts := [], laidByText := true, laidKinds := [.data, .data, .data], laidTests := true, laidLooks := .later }
def VecBackUptoCardSaid : Prop := Claim7.holds Tryd.pinned (.plain (OpenSpec.upto vecBackSpec)) vecBackUptoCard
end Rows
end Go.Proofs.YtfmdmifpgmkohaaDoor
