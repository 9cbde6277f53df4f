/-
  What the document's own Join and Meet answer about any two vectors.
  Conditions: none.
-/
import Derived.Test.YtfmdmifpgmkohaaDoorVecC
import Derived.RegionTactic
namespace Go.Proofs.YtfmdmifpgmkohaaDoor
open Go.RowKit

end Go.Proofs.YtfmdmifpgmkohaaDoor
