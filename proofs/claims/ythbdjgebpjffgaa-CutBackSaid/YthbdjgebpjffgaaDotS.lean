/-
  The document's Minus; and Beyond, package dots' and the document's.
  Conditions: none.
-/
import Derived.Test.YthbdjgebpjffgaaDotP
import Derived.Test.YthbdjgebpjffgaaVecK
set_option linter.unusedVariables false
set_option linter.unusedSimpArgs false
namespace Go.Proofs.Ythbdjgebpjffgaa
open Go.RowKit Go.Shelf Go.Lib Go.Sort

theorem take_filter {L : List (Int × Int)} {k : Nat} {x : Int × Int} (hx : L[k]? = some x) (p : Int × Int → Bool) : (L.take (k + 1)).filter p = (L.take k).filter p ++ (if p x then [x] else []) := by
  have hk := (List.getElem?_eq_some_iff.1 hx).1
  have e := (List.getElem?_eq_some_iff.1 hx).2
  rw [List.take_succ_eq_append_getElem hk, e, List.filter_append]
  congr 1
  by_cases h : p x <;> simp [h]
theorem filter_le (L : List (Int × Int)) (k : Nat) (p : Int × Int → Bool) : ((L.take k).filter p).length ≤ k := by
  have := List.length_filter_le p (L.take k)
  have : (L.take k).length ≤ k := List.length_take_le k L
  omega

end Go.Proofs.Ythbdjgebpjffgaa
