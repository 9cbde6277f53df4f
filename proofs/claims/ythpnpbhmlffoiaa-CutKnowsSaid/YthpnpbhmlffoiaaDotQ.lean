/-
  Package dots' Minus.
  Conditions: none.
-/
import Derived.Test.YthpnpbhmlffoiaaDotP
set_option linter.unusedVariables false
set_option linter.unusedSimpArgs false
namespace Go.Proofs.Ythpnpbhmlffoiaa
open Go.RowKit Go.Shelf Go.Lib Go.Sort
attribute [local go_sem] Oper.semAt_some

end Go.Proofs.Ythpnpbhmlffoiaa
