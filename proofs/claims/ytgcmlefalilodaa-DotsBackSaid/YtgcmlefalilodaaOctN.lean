/-
  What the statements' own Seen tells of an error of package octet: nothing of nil; the place and the number of a fault.
  Conditions: package errors' own variable holds the handle of the type error.
-/
import Derived.Test.YtgcmlefalilodaaOctF
import Derived.Test.YtgcmlefalilodaaOctE
namespace Go.Proofs.Ytgcmlefalilodaa
open Go.RowKit

theorem Try.noErrno (v : Value) (w : World) : (Instr.typeAssert (.iface 85 v) 56 28 true).run Try.prog w = .ok (.tuple #[.int .i64 0, .bool false]) w := by kernel_rfl
theorem Try.isErrno (c : Int) (w : World) : (Instr.typeAssert (.iface 28 (.int .i64 c)) 56 28 true).run Try.prog w = .ok (.tuple #[.int .i64 c, .bool true]) w := by kernel_rfl

end Go.Proofs.Ytgcmlefalilodaa
