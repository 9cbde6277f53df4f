/-
  Words for a block that a call writes: what it holds; that nothing else has turned. Plain lemmas; they speak of no program.
  Conditions: none.
-/
import Derived.WalkKit
import Derived.Deep.QuietTactic
import Derived.BigQuiet
import Derived.Lib.Hide
set_option linter.unusedVariables false
set_option linter.unusedSimpArgs false
namespace Go.Proofs.YthbdjgebpjffgaaGreatDoor
open Go.RowKit

/-- Block r holds these cells, and they may be written. -/
def Blk (w : World) (r : Nat) (cs : Array Value) (T : TypeId) : Prop := w.heap[r]? = some (.cells cs T (0, 0))

/-- Only block r may have turned; new blocks may have come. -/
structure Only (r : Nat) (w w' : World) : Prop where
  os : w'.os = w.os
  tape : w'.tape = w.tape
  output : w'.output = w.output
  size : w.heap.size ≤ w'.heap.size
  block : ∀ k, k < w.heap.size → k ≠ r → w'.heap[k]? = w.heap[k]?

theorem Only.refl (r : Nat) (w : World) : Only r w w := ⟨rfl, rfl, rfl, Nat.le_refl _, fun _ _ _ => rfl⟩
theorem Only.trans {r : Nat} {a b c : World} (h : Only r a b) (k : Only r b c) : Only r a c :=
  ⟨k.os.trans h.os, k.tape.trans h.tape, k.output.trans h.output, Nat.le_trans h.size k.size, fun i hi hr => (k.block i (Nat.lt_of_lt_of_le hi h.size) hr).trans (h.block i hi hr)⟩
theorem Only.drewN {r : Nat} {a b : World} (h : Only r a b) (n : Nat) : Only r a (b.drewN n) := ⟨h.os, h.tape, h.output, h.size, h.block⟩
theorem Only.drew {r : Nat} {a b : World} (h : Only r a b) : Only r a b.drew := ⟨h.os, h.tape, h.output, h.size, h.block⟩
theorem Only.alloc {r : Nat} {a b : World} (h : Only r a b) (o : Obj) : Only r a (b.alloc o) :=
  h.trans ⟨rfl, rfl, rfl, by simp, fun k hk _ => Below.heap_alloc _ _ _ hk⟩
theorem Only.set {r : Nat} {a b : World} (h : Only r a b) (j : Nat) (v : Value) : Only r a (b.setCell ⟨r, j, none⟩ v) :=
  h.trans ⟨rfl, rfl, rfl, by simp [World.setCell], fun k _ hr => Below.heap_setCell _ _ _ _ hr⟩
theorem Only.below {r B : Nat} {w a b : World} (h : Below B w a) (k : Only r a b) (hr : B ≤ r) (hB : B ≤ a.heap.size) : Below B w b :=
  h.trans ⟨k.os, k.tape, k.output, k.size, fun i hi => k.block i (Nat.lt_of_lt_of_le hi hB) (by omega)⟩
theorem only_of {r : Nat} {a b : World} (h : Below a.heap.size a b) : Only r a b := ⟨h.os, h.tape, h.output, h.size, fun k hk _ => h.block k hk⟩

theorem below_drewN {B : Nat} {a w : World} (h : Below B a w) (n : Nat) : Below B a (w.drewN n) := ⟨h.os, h.tape, h.output, h.size, h.block⟩

theorem Blk.lt {w : World} {r : Nat} {cs : Array Value} {T : TypeId} (h : Blk w r cs T) : r < w.heap.size := by
  rcases Nat.lt_or_ge r w.heap.size with h1 | h1
  · exact h1
  · have : w.heap[r]? = none := by simp; omega
    rw [Blk, this] at h; cases h
theorem Blk.cell {w : World} {r : Nat} {cs : Array Value} {T : TypeId} (h : Blk w r cs T) (j : Nat) : w.cell? ⟨r, j, none⟩ = cs[j]? := cell_of_row w r j cs T (0, 0) h
theorem Blk.free {w : World} {r : Nat} {cs : Array Value} {T : TypeId} (h : Blk w r cs T) (j : Nat) : w.frozen? ⟨r, j, none⟩ = false := frozen_of_row w r j cs T h
theorem Blk.set {w : World} {r : Nat} {cs : Array Value} {T : TypeId} (h : Blk w r cs T) (j : Nat) (v : Value) : Blk (w.setCell ⟨r, j, none⟩ v) r (cs.setIfInBounds j v) T := heap_setCell_same w r j cs T v h
theorem Blk.drewN {w : World} {r : Nat} {cs : Array Value} {T : TypeId} (h : Blk w r cs T) (n : Nat) : Blk (w.drewN n) r cs T := h
theorem Blk.alloc {w : World} {r : Nat} {cs : Array Value} {T : TypeId} (h : Blk w r cs T) (o : Obj) : Blk (w.alloc o) r cs T := (Below.heap_alloc w o r h.lt).trans h
theorem Blk.new (w : World) (cs : Array Value) (T : TypeId) : Blk (w.alloc (.cells cs T)) w.heap.size cs T := heap_alloc_new w _
theorem Blk.only {w w' : World} {q r : Nat} {cs : Array Value} {T : TypeId} (h : Blk w q cs T) (k : Only r w w') (hq : q ≠ r) : Blk w' q cs T := (k.block q h.lt hq).trans h
theorem Blk.below {w w' : World} {q : Nat} {cs : Array Value} {T : TypeId} (h : Blk w q cs T) (k : Below w.heap.size w w') : Blk w' q cs T := (k.block q h.lt).trans h
theorem Blk.far {w : World} {r g : Nat} {cs : Array Value} {T : TypeId} (h : Blk w r cs T) (hr : r ≠ g) (j : Nat) (v : Value) : Blk (w.setCell ⟨g, j, none⟩ v) r cs T := (Below.heap_setCell w ⟨g, j, none⟩ v r hr).trans h
theorem Only.fresh {r g : Nat} {a b : World} (h : Only r a b) (hg : a.heap.size ≤ g) (j : Nat) (v : Value) : Only r a (b.setCell ⟨g, j, none⟩ v) :=
  ⟨h.os, h.tape, h.output, by simpa [World.setCell] using h.size, fun k hk hr => (Below.heap_setCell b ⟨g, j, none⟩ v k (by simp; omega)).trans (h.block k hk hr)⟩

end Go.Proofs.YthbdjgebpjffgaaGreatDoor
