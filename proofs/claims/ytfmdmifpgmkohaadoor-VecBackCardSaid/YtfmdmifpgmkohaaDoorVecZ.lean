/-
  From a row's condition on the three package variables that it lists (the library's table of powers of ten, two tables of package bits) to what a walk asks; and a world that meets the condition.
  Conditions: none.
-/
import Derived.Test.YtfmdmifpgmkohaaDoorIdL
import Derived.Lib.LaidTab
import Derived.Stop.LaidErr
import Derived.LaidLaws
import Derived.Test.YtfmdmifpgmkohaaDoorRows
import Derived.ChangeSame
import Derived.ChangeVars
import Derived.JoinedOf
import Derived.RowKit
import Derived.RowKitTokens
import Derived.LaidHandle
import Derived.Stop.Joined
namespace Go.Proofs.YtfmdmifpgmkohaaDoor
open Go.ChangeShapes Go.WideShapes Go.RowKit

theorem Tryd.ownK3 : ownKnob Tryd.prog.godebug = none := by kernel_rfl

/-- What the rows list. -/
def laidT : List (String × DataW Unit) := [("math/bits.deBruijn32tab", Rows.laid_math_bits_deBruijn32tab), ("math/bits.deBruijn64tab", Rows.laid_math_bits_deBruijn64tab), ("internal/strconv.uint64pow10", Rows.laid_internal_strconv_uint64pow10)]
theorem pow10_dataT : (Rows.laid_internal_strconv_uint64pow10 : DataW Unit) = Lib.tabData .u64 Lib.pow10Tab := by kernel_rfl

/-- What the laid variables' list gives a walk. -/
theorem tab_of_laid {W : World} (h : laidMetH Tryd.prog laidT W) : Tab W := by
  have h' : laidMet Tryd.prog laidT W := h
  have ht := laidMet.tail (laidMet.tail h')
  rw [pow10_dataT] at ht
  exact Lib.tabIs_of_head (g := 1) (t := 129) (e := 47) (n := 20) (by kernel_rfl) (by kernel_rfl) (by kernel_rfl) (by kernel_rfl) (by kernel_rfl) (by kernel_rfl) ht

/-- A table's cells. -/
def cellsT : DataW Unit → Array Value
  | .agg l => (l.map fun | .lit (.int k z) => Value.int k z | _ => Value.nilIface).toArray
  | _ => #[]
/-- A world that meets the condition: the settled one, the variables' cells laid. -/
noncomputable def laidWorldT (os : Os) : World :=
  let w0 := World.holding Tryd.prog os ⟨#[], #[], []⟩
  let lay (cs : Array Value) (o : Obj) : Obj := match o with
    | .cells _ t frozen => .cells cs t frozen
    | o => o
  { w0 with heap := ((w0.heap.modify 1 (lay (cellsT Rows.laid_internal_strconv_uint64pow10))).modify 3 (lay (cellsT Rows.laid_math_bits_deBruijn32tab))).modify 4 (lay (cellsT Rows.laid_math_bits_deBruijn64tab)) }
theorem laidWorldT_met (os : Os) (args : Array Value) : laidMetH Tryd.prog laidT ((laidWorldT os).forCall (fun _ _ => 0) ⟨#[], args, []⟩).memory :=
  laidMet_of_run' 8 (by kernel_rfl) (by kernel_rfl)
end Go.Proofs.YtfmdmifpgmkohaaDoor
