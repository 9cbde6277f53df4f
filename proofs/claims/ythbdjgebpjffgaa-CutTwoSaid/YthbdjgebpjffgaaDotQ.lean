/-
  Package dots' Minus.
  Conditions: none.
-/
import Derived.Test.YthbdjgebpjffgaaDotP
set_option linter.unusedVariables false
set_option linter.unusedSimpArgs false
namespace Go.Proofs.Ythbdjgebpjffgaa
open Go.RowKit Go.Shelf Go.Lib Go.Sort
attribute [local go_sem] Oper.semAt_some

end Go.Proofs.Ythbdjgebpjffgaa
