/-
  What Join and Meet of package vec, and the document's own Join and Meet, answer about any two vectors.
  Conditions: none.
-/
import Derived.Test.YthbdjgebpjffgaaGreatDoorVecB
import Derived.Laws.CopyOwn
import Derived.OwnWalk
set_option linter.unusedVariables false
set_option linter.unusedSimpArgs false
namespace Go.Proofs.YthbdjgebpjffgaaGreatDoor
open Go.RowKit

/-- The state of a loop over two vectors: the first k elements of the one behind the first pointer are those of j. -/
structure Pair (w : World) (a b j : Nat → Int) (k : Nat) (wr : World) : Prop where
  bel : Below w.heap.size w wr
  a : Blk wr w.heap.size #[.int .u32 (mixV k j a 0), .int .u32 (mixV k j a 1), .int .u32 (mixV k j a 2), .int .u32 (mixV k j a 3), .int .u32 (mixV k j a 4), .int .u32 (mixV k j a 5), .int .u32 (mixV k j a 6), .int .u32 (mixV k j a 7)] 24
  b : Blk wr (w.heap.size + 1) #[.int .u32 (b 0), .int .u32 (b 1), .int .u32 (b 2), .int .u32 (b 3), .int .u32 (b 4), .int .u32 (b 5), .int .u32 (b 6), .int .u32 (b 7)] 24
  c : Blk wr (w.heap.size + 1 + 1) #[.int .u32 0, .int .u32 0, .int .u32 0, .int .u32 0, .int .u32 0, .int .u32 0, .int .u32 0, .int .u32 0] 24

theorem Pair.start (w : World) (a b j : Nat → Int) : Pair w a b j 0 (((w.alloc (.cells #[.int .u32 (a 0), .int .u32 (a 1), .int .u32 (a 2), .int .u32 (a 3), .int .u32 (a 4), .int .u32 (a 5), .int .u32 (a 6), .int .u32 (a 7)] 24)).alloc (.cells #[.int .u32 (b 0), .int .u32 (b 1), .int .u32 (b 2), .int .u32 (b 3), .int .u32 (b 4), .int .u32 (b 5), .int .u32 (b 6), .int .u32 (b 7)] 24)).alloc (.cells #[.int .u32 0, .int .u32 0, .int .u32 0, .int .u32 0, .int .u32 0, .int .u32 0, .int .u32 0, .int .u32 0] 24)) where
  bel := (((Below.refl w.heap.size w).alloc (Nat.le_refl _) _).alloc (by simp) _).alloc (by simp; omega) _
  a := by rw [← mix_none]; exact ((Blk.new w #[.int .u32 (a 0), .int .u32 (a 1), .int .u32 (a 2), .int .u32 (a 3), .int .u32 (a 4), .int .u32 (a 5), .int .u32 (a 6), .int .u32 (a 7)] 24).alloc _).alloc _
  b := by
    have := (Blk.new (w.alloc (.cells #[.int .u32 (a 0), .int .u32 (a 1), .int .u32 (a 2), .int .u32 (a 3), .int .u32 (a 4), .int .u32 (a 5), .int .u32 (a 6), .int .u32 (a 7)] 24)) #[.int .u32 (b 0), .int .u32 (b 1), .int .u32 (b 2), .int .u32 (b 3), .int .u32 (b 4), .int .u32 (b 5), .int .u32 (b 6), .int .u32 (b 7)] 24).alloc (.cells #[.int .u32 0, .int .u32 0, .int .u32 0, .int .u32 0, .int .u32 0, .int .u32 0, .int .u32 0, .int .u32 0] 24)
    rwa [show (w.alloc (.cells #[.int .u32 (a 0), .int .u32 (a 1), .int .u32 (a 2), .int .u32 (a 3), .int .u32 (a 4), .int .u32 (a 5), .int .u32 (a 6), .int .u32 (a 7)] 24)).heap.size = w.heap.size + 1 by simp] at this
  c := by
    have := Blk.new ((w.alloc (.cells #[.int .u32 (a 0), .int .u32 (a 1), .int .u32 (a 2), .int .u32 (a 3), .int .u32 (a 4), .int .u32 (a 5), .int .u32 (a 6), .int .u32 (a 7)] 24)).alloc (.cells #[.int .u32 (b 0), .int .u32 (b 1), .int .u32 (b 2), .int .u32 (b 3), .int .u32 (b 4), .int .u32 (b 5), .int .u32 (b 6), .int .u32 (b 7)] 24)) #[.int .u32 0, .int .u32 0, .int .u32 0, .int .u32 0, .int .u32 0, .int .u32 0, .int .u32 0, .int .u32 0] 24
    rwa [show ((w.alloc (.cells #[.int .u32 (a 0), .int .u32 (a 1), .int .u32 (a 2), .int .u32 (a 3), .int .u32 (a 4), .int .u32 (a 5), .int .u32 (a 6), .int .u32 (a 7)] 24)).alloc (.cells #[.int .u32 (b 0), .int .u32 (b 1), .int .u32 (b 2), .int .u32 (b 3), .int .u32 (b 4), .int .u32 (b 5), .int .u32 (b 6), .int .u32 (b 7)] 24)).heap.size = w.heap.size + 2 by simp] at this
theorem Pair.drew {w wr : World} {a b j : Nat → Int} {k : Nat} (h : Pair w a b j k wr) : Pair w a b j k wr.drew := ⟨⟨h.bel.os, h.bel.tape, h.bel.output, h.bel.size, h.bel.block⟩, h.a, h.b, h.c⟩
theorem Pair.next {w wr : World} {a b j : Nat → Int} {k : Nat} (h : Pair w a b j k wr) (hk : k < 8) {x : Int} (hx : j k = x) : Pair w a b j (k + 1) (wr.setCell ⟨w.heap.size, k, none⟩ (.int .u32 x)) where
  bel := h.bel.setCell (by simp) _
  a := by
    subst hx
    have := h.a.set k (.int .u32 (j k))
    rw [vec_set _ k hk, mix_step hk] at this
    exact this
  b := h.b.far (by omega) _ _
  c := h.c.far (by omega) _ _

end Go.Proofs.YthbdjgebpjffgaaGreatDoor
