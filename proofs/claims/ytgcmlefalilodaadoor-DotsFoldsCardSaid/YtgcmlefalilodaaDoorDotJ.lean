/-
  The document's Make: the walk.
  Conditions: none.
-/
import Derived.Lib.SmallJoins
import Derived.Test.YtgcmlefalilodaaDoorDotF
import Derived.Test.YtgcmlefalilodaaDoorOctC
namespace Go.Proofs.YtgcmlefalilodaaDoor
open Go.RowKit Go.Shelf Go.Lib Go.Sort

theorem take_mem {L : List (Int × Int)} {k : Nat} {x : Int × Int} (hx : L[k]? = some x) (z : Int × Int) : z ∈ L.take (k + 1) ↔ z ∈ L.take k ∨ z = x := by
  have hk := (List.getElem?_eq_some_iff.1 hx).1
  have e := (List.getElem?_eq_some_iff.1 hx).2
  rw [List.take_succ_eq_append_getElem hk, e, List.mem_append, List.mem_singleton]
theorem newId_at (w : World) (o q : Int) (b : Nat) (hb : b = w.heap.size) : ∀ (j : Nat) (x : Value), [Value.int .i64 o, Value.int .u32 q][j]? = some x → (w.alloc (.cells #[.int .i64 o, .int .u32 q] 53)).cell? ((⟨b, 0, none⟩ : Addr).add j) = some x := by
  intro j x h
  subst hb
  match j, h with
  | 0, h => simpa [Addr.add] using h
  | 1, h => simpa [Addr.add] using h

end Go.Proofs.YtgcmlefalilodaaDoor
