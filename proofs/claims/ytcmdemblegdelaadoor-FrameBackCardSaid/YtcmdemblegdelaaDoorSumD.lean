/-
  The walk of the law SumTells, and what the laws' own examples answer.
  Conditions: the numbers fit their kinds; a text is no longer than Go allows.
-/
import Derived.Test.YtcmdemblegdelaaDoorSumC
import Derived.OpenShut
namespace Go.Proofs.YtcmdemblegdelaaDoor
open Go.RowKit

/-- The examples' texts. -/
def ex9 : ByteArray := ⟨#[49, 50, 51, 52, 53, 54, 55, 56, 57]⟩
def ex3 : ByteArray := ⟨#[97, 98, 99]⟩
def ex4 : ByteArray := ⟨#[97, 98, 99, 100]⟩

theorem ex9_sum : ofC ex9.data.toList = 3421780262 := by kernel_rfl
theorem ex0_sum : ofC [] = 0 := by kernel_rfl
theorem ex3_ends : endsB (sealS ex3) = true := by kernel_rfl
theorem ex4_ends : endsB ex4 = false := by kernel_rfl
theorem ex0_ends : endsB ⟨#[]⟩ = false := by kernel_rfl

theorem of_ex9 (w : World) : Calls Tryd.prog 41 #[.string { data := #[49, 50, 51, 52, 53, 54, 55, 56, 57] }] w fun e w' => e = .returned (.int .u32 3421780262) ∧ w = w' :=
  (of_any ex9 w (by unfold maxLen; decide)).mono fun _ _ ⟨he, hw⟩ => ⟨by rw [he, ex9_sum]; rfl, hw⟩
theorem of_ex0 (w : World) : Calls Tryd.prog 41 #[.string { data := #[] }] w fun e w' => e = .returned (.int .u32 0) ∧ w = w' :=
  (of_any ⟨#[]⟩ w (by unfold maxLen; decide)).mono fun _ _ ⟨he, hw⟩ => ⟨by rw [he]; show Ending.returned (.int .u32 ((ofC [] : Nat) : Int)) = _; rw [ex0_sum]; rfl, hw⟩
theorem seal_ex3 (w : World) : Calls Tryd.prog 20 #[.string { data := #[97, 98, 99] }] w fun e w' => e = .returned (.string (sealS ex3)) ∧ Below w.heap.size w w' :=
  seal_any ex3 w (by decide)
theorem ends_ex3 (w : World) : Calls Tryd.prog 53 #[.string (sealS ex3)] w fun e w' => e = .returned (.bool true) ∧ Below w.heap.size w w' :=
  (ends_any (sealS ex3) w (by decide +kernel)).mono fun _ _ ⟨he, hw⟩ => ⟨by rw [he, ex3_ends], hw⟩
theorem ends_ex4 (w : World) : Calls Tryd.prog 53 #[.string { data := #[97, 98, 99, 100] }] w fun e w' => e = .returned (.bool false) ∧ Below w.heap.size w w' :=
  (ends_any ex4 w (by decide +kernel)).mono fun _ _ ⟨he, hw⟩ => ⟨by rw [he, ex4_ends], hw⟩
theorem ends_ex0 (w : World) : Calls Tryd.prog 53 #[.string { data := #[] }] w fun e w' => e = .returned (.bool false) ∧ Below w.heap.size w w' :=
  (ends_any ⟨#[]⟩ w (by decide +kernel)).mono fun _ _ ⟨he, hw⟩ => ⟨by rw [he, ex0_ends], hw⟩

end Go.Proofs.YtcmdemblegdelaaDoor
