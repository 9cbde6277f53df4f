/-
  The examples that each law of octet checks first come out as the document says.
  Conditions: package errors' own variable holds the handle of the type error.
-/
import Derived.Test.YtgcmlefalilodaaOctV
import Derived.Test.YtgcmlefalilodaaOctN
namespace Go.Proofs.Ytgcmlefalilodaa
open Go.RowKit

theorem d0 : digs 0 = [] := digs_zero
theorem d1 : digs 1 = [1] := by rw [digs_pos (by decide), show 1 / 256 = 0 from rfl, d0]; rfl
theorem d2 : digs 2 = [2] := by rw [digs_pos (by decide), show 2 / 256 = 0 from rfl, d0]; rfl
theorem d300 : digs 300 = [1, 44] := by rw [digs_pos (by decide), show 300 / 256 = 1 from rfl, d1]; rfl
theorem n300 : numS 300 = ⟨#[2, 1, 44]⟩ := by unfold numS numL; rw [d300]; rfl
theorem n0 : numS 0 = ⟨#[0]⟩ := by unfold numS numL; rw [d0]; rfl
theorem s1 : numS (sgnN (-1)) = ⟨#[1, 1]⟩ := by unfold numS numL; rw [show sgnN (-1) = 1 from rfl, d1]; rfl
theorem tab : txtS ⟨#[97, 98]⟩ = ⟨#[1, 2, 97, 98]⟩ := by unfold txtS; rw [show (⟨#[97, 98]⟩ : ByteArray).size = 2 from rfl]; unfold numS numL; rw [d2]; rfl

/-- The bytes that the second example reads. -/
def exQ : ByteArray := ⟨#[1, 2, 97, 98, 1, 1, 120]⟩
def exR : ByteArray := ⟨#[2, 0, 1]⟩

theorem cat : (⟨#[1, 2, 97, 98]⟩ : ByteArray) ++ ⟨#[1, 1]⟩ ++ ⟨#[120]⟩ = exQ := by decide

theorem r1 : nC' exR 0 0 = 3 ∧ nV' exR 0 0 = 0 ∧ nA' exR 0 0 = 0 := by decide +kernel
theorem q1 : tC' exQ 0 2 0 = 0 ∧ tV' exQ 0 2 0 = ⟨#[97, 98]⟩ ∧ tA' exQ 0 2 0 = 4 := by decide +kernel
theorem q2 : sC' exQ 4 0 = 0 ∧ sV' exQ 4 0 = -1 ∧ sA' exQ 4 0 = 6 := by decide +kernel
theorem q3 : endC exQ 6 0 = 6 := by decide +kernel

end Go.Proofs.Ytgcmlefalilodaa
