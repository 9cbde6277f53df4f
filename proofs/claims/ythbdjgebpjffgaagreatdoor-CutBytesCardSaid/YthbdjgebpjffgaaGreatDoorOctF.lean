/-
  What Err and End of package octet's Reader answer.
  Conditions: the reader lies in a block of its own.
-/
import Derived.Test.YthbdjgebpjffgaaGreatDoorOctR
import Derived.StillTailTactics
import Derived.RegionTactic
set_option linter.unusedVariables false
set_option linter.unusedSimpArgs false
namespace Go.Proofs.YthbdjgebpjffgaaGreatDoor
open Go.RowKit

theorem err_none (r a : Nat) (s : ByteArray) (w : World) (h : Rdr w r s a 0) :
    Calls Tryz.prog 15 #[.pointer (some ⟨r, 0, none⟩)] w fun e w' => e = .returned .nilIface ∧ w = w' := by
  have h2 := h.c2
  clear h
  go_enter Tryz.func15, Tryz.ntmps15
  go_wp2
  go_ret
  exact ⟨rfl, rfl⟩

/-- The cells of an error with a place. -/
def flt (a : Nat) (c : Int) : Array Value := #[.int .i64 (a : Int), .iface 29 (.int .i64 c)]

set_option maxHeartbeats 400000 in
theorem err_some (r a : Nat) (s : ByteArray) (c : Int) (w : World) (h : Rdr w r s a c) (hc : ¬ c = 0) :
    Calls Tryz.prog 15 #[.pointer (some ⟨r, 0, none⟩)] w fun e w' => e = .returned (.iface 65 (.pointer (some ⟨w.heap.size, 0, none⟩))) ∧ Blk w' w.heap.size (flt a c) 69 ∧ Below w.heap.size w w' := by
  have h1 := h.c1
  have h2 := h.c2
  have hc' : (c == 0) = false := by simpa using hc
  clear h hc
  go_enter Tryz.func15, Tryz.ntmps15
  go_wp2
  go_region
  all_goals
    go_wp2
    go_ret
    exact ⟨rfl, Blk.new _ _ _, ((Below.refl _ _).alloc (Nat.le_refl _) _).drew⟩

/-- What is wrong behind End. -/
def endC (s : ByteArray) (a : Nat) (c : Int) : Int := if a < s.size then failC c 6 else c

end Go.Proofs.YthbdjgebpjffgaaGreatDoor
