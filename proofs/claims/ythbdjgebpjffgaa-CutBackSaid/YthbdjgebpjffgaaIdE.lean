/-
  An operation's name, by value: opened into its three numbers, and shut again: plain lemmas.
  Conditions: none.
-/
import Derived.Test.YthbdjgebpjffgaaRows
import Derived.Lib.SmallJoins
import Derived.ShutString
import Derived.OpenShut
set_option linter.unusedVariables false
set_option linter.unusedSimpArgs false
namespace Go.Proofs.Ythbdjgebpjffgaa
open Go.ChangeShapes Go.WideShapes Go.RowKit Go.ChangeMaps Go.Joins
section
variable {H : Type} {enc : TypeId × Value → H} {w : World} {base b0 : Nat} {sp : Nat → Bool} {hd : Bool} {r : Reach}

theorem idCells : Try.prog.cellsOf 29 = 2 := by kernel_rfl
theorem intCells : Try.prog.cellsOf 3 = 1 := by kernel_rfl
theorem u32Cells : Try.prog.cellsOf 22 = 1 := by kernel_rfl

end
end Go.Proofs.Ythbdjgebpjffgaa
