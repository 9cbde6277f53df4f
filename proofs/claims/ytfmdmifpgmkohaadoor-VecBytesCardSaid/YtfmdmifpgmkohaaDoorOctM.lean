/-
  What the document's own reader answers: Text, End.
  Conditions: the reader lies in a block of its own.
-/
import Derived.Test.YtfmdmifpgmkohaaDoorOctL
namespace Go.Proofs.YtfmdmifpgmkohaaDoor
open Go.RowKit

end Go.Proofs.YtfmdmifpgmkohaaDoor
