/-
  The decimal numeral that strconv.Itoa gives, with no word of how the world has grown.
  Conditions: the library's own table of powers of ten holds what its text says.
-/
import Derived.Test.YtfmdmifpgmkohaaDoorItoL
import Derived.Test.YtfmdmifpgmkohaaDoorOctK
import Derived.Test.YtfmdmifpgmkohaaDoorIdA
import Derived.Lib.SmallJoins
import Derived.Sort.Grow
namespace Go.Proofs.YtfmdmifpgmkohaaDoor
open Go.RowKit

/-- The library's table of powers of ten holds what its text says. -/
def Tab (w : World) : Prop := Lib.TabIs Tryd.prog w "internal/strconv.uint64pow10" .u64 Lib.pow10Tab
theorem tabNamed : Tryd.prog.globalNamed "internal/strconv.uint64pow10" = some 1 := by kernel_rfl
theorem Tab.lt {w : World} (h : Tab w) : 1 < w.heap.size := by
  unfold Tab Lib.TabIs World.var? at h
  rw [tabNamed] at h
  simp only [Option.bind_some] at h
  rcases Nat.lt_or_ge 1 w.heap.size with h' | h'
  · exact h'
  · rw [Array.getElem?_eq_none h'] at h; cases h
theorem Tab.below {w w' : World} (h : Tab w) {B : Nat} (hb : Below B w w') (hB : w.heap.size ≤ B) : Tab w' := Joins.tab_stays tabNamed h hb hB
theorem Tab.alloc {w : World} (h : Tab w) (o : Obj) : Tab (w.alloc o) := Lib.tabIs_alloc h o

theorem grow_below (w : World) (k : Nat) (os : Array Obj) : Below w.heap.size w (Sort.grow (w.drewN k) os) :=
  ⟨rfl, rfl, rfl, by simp, fun j hj => Sort.heap_grow_old (w.drewN k) os hj⟩

end Go.Proofs.YtfmdmifpgmkohaaDoor
