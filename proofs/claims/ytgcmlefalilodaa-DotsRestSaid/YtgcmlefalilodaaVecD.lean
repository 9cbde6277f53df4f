/-
  What the document's own Join and Meet answer about any two vectors.
  Conditions: none.
-/
import Derived.Test.YtgcmlefalilodaaVecC
import Derived.RegionTactic
namespace Go.Proofs.Ytgcmlefalilodaa
open Go.RowKit

end Go.Proofs.Ytgcmlefalilodaa
