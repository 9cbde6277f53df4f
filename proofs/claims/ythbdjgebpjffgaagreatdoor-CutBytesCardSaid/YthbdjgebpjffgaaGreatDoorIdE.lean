/-
  An operation's name, by value: opened into its three numbers, and shut again: plain lemmas.
  Conditions: none.
-/
import Derived.Test.YthbdjgebpjffgaaGreatDoorRows
import Derived.Lib.SmallJoins
import Derived.ShutString
import Derived.OpenShut
set_option linter.unusedVariables false
set_option linter.unusedSimpArgs false
namespace Go.Proofs.YthbdjgebpjffgaaGreatDoor
open Go.ChangeShapes Go.WideShapes Go.RowKit Go.ChangeMaps Go.Joins
section
variable {H : Type} {enc : TypeId × Value → H} {w : World} {base b0 : Nat} {sp : Nat → Bool} {hd : Bool} {r : Reach}

theorem idCells : Tryz.prog.cellsOf 83 = 2 := by kernel_rfl
theorem intCells : Tryz.prog.cellsOf 3 = 1 := by kernel_rfl
theorem u32Cells : Tryz.prog.cellsOf 22 = 1 := by kernel_rfl

end
end Go.Proofs.YthbdjgebpjffgaaGreatDoor
