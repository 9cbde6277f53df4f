/-
  Readings of a struct's fields, shut again: plain lemmas.
  Conditions: none.
-/
import Derived.Lib.SmallJoins
import Derived.ShutString
import Derived.OpenShut
namespace Go.Proofs.YtcmdemblegdelaaDoor
open Go.ChangeShapes Go.WideShapes Go.RowKit Go.ChangeMaps Go.Joins
section
variable {H : Type} {enc : TypeId × Value → H} {P : Program} {w : World} {b0 : Nat} {sp : Nat → Bool} {hd : Bool}
theorem field_int {t : TypeId} {k : IntKind} {n : Int} (ht : P.underlying t = some (.int k)) (hn : (Lit.int k n).wf = true) :
    ∃ m, DataW.trod enc P w b0 sp hd m t [.int k n] = some (.lit (.int k n), []) := field_of_Trod (shut_int ht hn) rfl
theorem field_string {t : TypeId} {s : ByteArray} (ht : P.underlying t = some .string) (hs : s.size ≤ maxLen) :
    ∃ m, DataW.trod enc P w b0 sp hd m t [.string s] = some (.lit (.string s.data.toList), []) := field_of_Trod (shut_string ht hs) rfl
end
end Go.Proofs.YtcmdemblegdelaaDoor
