/-
  From a row's condition on the package variables that it lists (the library's table of powers of ten, two tables of package bits, package errors' own variable) to what a walk asks; and a world that meets the condition.
  Conditions: none.
-/
import Derived.Test.YtfmdmifpgmkohaaDoorOctH
import Derived.Test.YtfmdmifpgmkohaaDoorIdL
import Derived.Lib.LaidTab
import Derived.Stop.LaidErr
import Derived.LaidLaws
import Derived.Test.YtfmdmifpgmkohaaDoorRows
import Derived.ChangeSame
import Derived.ChangeVars
import Derived.JoinedOf
import Derived.RowKit
import Derived.RowKitTokens
import Derived.LaidHandle
import Derived.Stop.Joined
namespace Go.Proofs.YtfmdmifpgmkohaaDoor
open Go.ChangeShapes Go.WideShapes Go.RowKit

/-- What the rows list. -/
def laid4 : List (String × DataW Unit) := [("math/bits.deBruijn32tab", Rows.laid_math_bits_deBruijn32tab), ("math/bits.deBruijn64tab", Rows.laid_math_bits_deBruijn64tab), ("internal/strconv.uint64pow10", Rows.laid_internal_strconv_uint64pow10), ("errors.errorType", Rows.laid_errors_errorType)]
def laid3 : List (String × DataW Unit) := [("math/bits.deBruijn32tab", Rows.laid_math_bits_deBruijn32tab), ("math/bits.deBruijn64tab", Rows.laid_math_bits_deBruijn64tab), ("internal/strconv.uint64pow10", Rows.laid_internal_strconv_uint64pow10)]

theorem pow10_data : (Rows.laid_internal_strconv_uint64pow10 : DataW Unit) = Lib.tabData .u64 Lib.pow10Tab := by kernel_rfl

/-- What the laid variables' list gives a walk. -/
theorem met_of_laid {W : World} (h : laidMetH Tryd.prog laid4 W) : Handle W ∧ Tab W := by
  have h' : laidMet Tryd.prog laid3 W ∧ handlesMet Tryd.prog [("errors.errorType", Rows.laid_errors_errorType)] W := h
  refine ⟨?_, ?_⟩
  · obtain ⟨name, u, ty, e1, e2, e3, e4, e5⟩ := h'.2 _ (List.mem_singleton.2 rfl)
    have en : name = [101, 114, 114, 111, 114] := (Option.some.inj e1).symm
    subst en
    obtain rfl := Option.some.inj (Tryd.rt.symm.trans e2)
    have hm : ty ∈ (List.range Tryd.prog.types.size).filter fun t => Tryd.prog.rowNamed t [101, 114, 114, 111, 114] := List.mem_filter.2 ⟨List.mem_range.2 e3, e4⟩
    rw [Tryd.oneRow] at hm
    obtain rfl := List.mem_singleton.1 hm
    have hh : typeHandle Tryd.prog 39 = .pointer (some ⟨5, 39, none⟩) := by kernel_rfl
    rw [hh] at e5
    have h0 := World.var?_cell Tryd.et e5 0
    unfold Handle
    simpa using h0
  · have ht := laidMet.tail (laidMet.tail h'.1)
    rw [pow10_data] at ht
    exact Lib.tabIs_of_head (g := 1) (t := 129) (e := 47) (n := 20) (by kernel_rfl) (by kernel_rfl) (by kernel_rfl) (by kernel_rfl) (by kernel_rfl) (by kernel_rfl) ht

/-- A table's cells. -/
def dataCells : DataW Unit → Array Value
  | .agg l => (l.map fun | .lit (.int k z) => Value.int k z | _ => Value.nilIface).toArray
  | _ => #[]
/-- A world that meets the condition: the settled one, the variables' cells laid. -/
noncomputable def laidWorld4 (os : Os) : World :=
  let w0 := World.holding Tryd.prog os ⟨#[], #[], []⟩
  let lay (cs : Array Value) (o : Obj) : Obj := match o with
    | .cells _ t frozen => .cells cs t frozen
    | o => o
  { w0 with heap := (((w0.heap.modify 0 (lay #[.iface 116 (.agg #[.pointer (some ⟨5, 39, none⟩)])])).modify 1 (lay (dataCells Rows.laid_internal_strconv_uint64pow10))).modify 3 (lay (dataCells Rows.laid_math_bits_deBruijn32tab))).modify 4 (lay (dataCells Rows.laid_math_bits_deBruijn64tab)) }
theorem laidWorld4_met (os : Os) (args : Array Value) : laidMetH Tryd.prog laid4 ((laidWorld4 os).forCall (fun _ _ => 0) ⟨#[], args, []⟩).memory :=
  laidMetH_of_parts (laidMet_of_run' 8 (by kernel_rfl) (by kernel_rfl)) (by kernel_rfl)
end Go.Proofs.YtfmdmifpgmkohaaDoor
