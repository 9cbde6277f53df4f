/-
  An operation's name, by value: opened into its three numbers, and shut again: plain lemmas.
  Conditions: none.
-/
import Derived.Test.YtgcmlefalilodaaDoorRows
import Derived.Lib.SmallJoins
import Derived.ShutString
import Derived.OpenShut
namespace Go.Proofs.YtgcmlefalilodaaDoor
open Go.ChangeShapes Go.WideShapes Go.RowKit Go.ChangeMaps Go.Joins
section
variable {H : Type} {enc : TypeId × Value → H} {w : World} {base b0 : Nat} {sp : Nat → Bool} {hd : Bool} {r : Reach}

theorem idCells : Tryd.prog.cellsOf 53 = 2 := by kernel_rfl
theorem intCells : Tryd.prog.cellsOf 3 = 1 := by kernel_rfl
theorem u32Cells : Tryd.prog.cellsOf 22 = 1 := by kernel_rfl

end
end Go.Proofs.YtgcmlefalilodaaDoor
