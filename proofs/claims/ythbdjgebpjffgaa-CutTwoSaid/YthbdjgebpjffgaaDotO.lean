/-
  Package dots' merge: the iterator that goes through two lists in order.
  Conditions: none.
-/
import Derived.Test.YthbdjgebpjffgaaDotN
import Derived.Shelf.Abstract
import Derived.Shelf.RegionOpen
import Derived.OwnWalkIn
import Derived.Maps.AppendAt
set_option linter.unusedVariables false
set_option linter.unusedSimpArgs false
namespace Go.Proofs.Ythbdjgebpjffgaa
open Go.RowKit Go.Shelf Go.Lib Go.Sort
attribute [local go_sem] Oper.semAt_some

/-- The rest of a list. -/
theorem Ids.tail {w : World} {b off len cap : Nat} {x : Int × Int} {A : List (Int × Int)} (h : Ids w (some ⟨b, off, none⟩) len cap (x :: A)) : Ids w (some ⟨b, off + 2, none⟩) (len - 1) (cap - 1) A :=
  ⟨by rw [h.ln]; simp, by have := h.fit; omega, by have := h.bd; omega, nofun, fun k hk => by
    obtain ⟨b', off', o, q, e, hx, i0, i1⟩ := h.nth (k + 1) (by omega)
    simp only [Option.some.injEq, Addr.mk.injEq, and_true] at e
    obtain ⟨rfl, rfl⟩ := e
    exact ⟨b, off + 2, o, q, rfl, by simpa using hx, by rw [show off + 2 + k * 2 = off + (k + 1) * 2 by omega]; exact i0, by rw [show off + 2 + k * 2 + 1 = off + (k + 1) * 2 + 1 by omega]; exact i1⟩⟩
theorem Ids.tail0 {w : World} {b off len cap : Nat} {x : Int × Int} {A : List (Int × Int)} (h : Ids w (some ⟨b, off, none⟩) len cap (x :: A)) (hc : cap - 1 = 0) : Ids w (some ⟨b, off, none⟩) (len - 1) 0 A :=
  ⟨by rw [h.ln]; simp, by have := h.fit; omega, by omega, nofun, fun k hk => by have := h.fit; omega⟩
end Go.Proofs.Ythbdjgebpjffgaa
