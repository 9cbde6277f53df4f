/-
  What the document's own reader answers: Text, End.
  Conditions: the reader lies in a block of its own.
-/
import Derived.Test.YtlahhlcapkhpdaaDoorOctL
namespace Go.Proofs.YtlahhlcapkhpdaaDoor
open Go.RowKit

theorem Blk.far {w : World} {r g : Nat} {cs : Array Value} {T : TypeId} (h : Blk w r cs T) (hr : r ≠ g) (j : Nat) (v : Value) : Blk (w.setCell ⟨g, j, none⟩ v) r cs T := (Below.heap_setCell w ⟨g, j, none⟩ v r hr).trans h
theorem Only.fresh {r g : Nat} {a b : World} (h : Only r a b) (hg : a.heap.size ≤ g) (j : Nat) (v : Value) : Only r a (b.setCell ⟨g, j, none⟩ v) :=
  ⟨h.os, h.tape, h.output, by simpa [World.setCell] using h.size, fun k hk hr => (Below.heap_setCell b ⟨g, j, none⟩ v k (by simp; omega)).trans (h.block k hk hr)⟩

end Go.Proofs.YtlahhlcapkhpdaaDoor
