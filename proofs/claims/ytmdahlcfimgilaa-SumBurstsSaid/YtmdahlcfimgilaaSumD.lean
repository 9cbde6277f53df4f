/-
  The walk of the law SumTells, and what the laws' own examples answer.
  Conditions: the numbers fit their kinds; a text is no longer than Go allows.
-/
import Derived.Test.YtmdahlcfimgilaaSumC
import Derived.OpenShut
namespace Go.Proofs.Ytmdahlcfimgilaa
open Go.RowKit

/-- The examples' texts. -/
def ex9 : ByteArray := ⟨#[49, 50, 51, 52, 53, 54, 55, 56, 57]⟩
def ex3 : ByteArray := ⟨#[97, 98, 99]⟩
def ex4 : ByteArray := ⟨#[97, 98, 99, 100]⟩

theorem ex9_sum : ofC ex9.data.toList = 3421780262 := by kernel_rfl
theorem ex0_sum : ofC [] = 0 := by kernel_rfl
theorem ex3_ends : endsB (sealS ex3) = true := by kernel_rfl
theorem ex4_ends : endsB ex4 = false := by kernel_rfl
theorem ex0_ends : endsB ⟨#[]⟩ = false := by kernel_rfl

theorem of_ex9 (w : World) : Calls Try.prog 6 #[.string { data := #[49, 50, 51, 52, 53, 54, 55, 56, 57] }] w fun e w' => e = .returned (.int .u32 3421780262) ∧ w = w' :=
  (of_any ex9 w (by unfold maxLen; decide)).mono fun _ _ ⟨he, hw⟩ => ⟨by rw [he, ex9_sum]; rfl, hw⟩
theorem of_ex0 (w : World) : Calls Try.prog 6 #[.string { data := #[] }] w fun e w' => e = .returned (.int .u32 0) ∧ w = w' :=
  (of_any ⟨#[]⟩ w (by unfold maxLen; decide)).mono fun _ _ ⟨he, hw⟩ => ⟨by rw [he]; show Ending.returned (.int .u32 ((ofC [] : Nat) : Int)) = _; rw [ex0_sum]; rfl, hw⟩
theorem seal_ex3 (w : World) : Calls Try.prog 14 #[.string { data := #[97, 98, 99] }] w fun e w' => e = .returned (.string (sealS ex3)) ∧ Below w.heap.size w w' :=
  seal_any ex3 w (by decide)
theorem ends_ex3 (w : World) : Calls Try.prog 12 #[.string (sealS ex3)] w fun e w' => e = .returned (.bool true) ∧ Below w.heap.size w w' :=
  (ends_any (sealS ex3) w (by decide +kernel)).mono fun _ _ ⟨he, hw⟩ => ⟨by rw [he, ex3_ends], hw⟩
theorem ends_ex4 (w : World) : Calls Try.prog 12 #[.string { data := #[97, 98, 99, 100] }] w fun e w' => e = .returned (.bool false) ∧ Below w.heap.size w w' :=
  (ends_any ex4 w (by decide +kernel)).mono fun _ _ ⟨he, hw⟩ => ⟨by rw [he, ex4_ends], hw⟩
theorem ends_ex0 (w : World) : Calls Try.prog 12 #[.string { data := #[] }] w fun e w' => e = .returned (.bool false) ∧ Below w.heap.size w w' :=
  (ends_any ⟨#[]⟩ w (by decide +kernel)).mono fun _ _ ⟨he, hw⟩ => ⟨by rw [he, ex0_ends], hw⟩

set_option maxHeartbeats 400000 in
theorem works_any (w : World) : Calls Try.prog 16 #[] w fun e w' => e = .returned (.bool true) ∧ Below w.heap.size w w' := by
  go_enter Try.func16, Try.ntmps16
  go_wp2_with fail
  refine (of_ex9 _).mono ?_
  rintro e w1 ⟨rfl, rfl⟩
  go_wp2_with fail
  refine (of_ex0 _).mono ?_
  rintro e w1 ⟨rfl, rfl⟩
  go_wp2_with fail
  refine (seal_ex3 _).mono ?_
  rintro e w1 ⟨rfl, b1⟩
  go_wp2_with fail
  refine (ends_ex3 _).mono ?_
  rintro e w2 ⟨rfl, b2⟩
  have g2 := below_then b1 b2
  clear b1 b2
  go_wp2_with fail
  refine (ends_ex4 _).mono ?_
  rintro e w3 ⟨rfl, b3⟩
  have g3 := below_then g2 b3
  clear g2 b3
  go_wp2_with fail
  refine (ends_ex0 _).mono ?_
  rintro e w4 ⟨rfl, b4⟩
  have g4 := below_then g3 b4
  clear g3 b4
  go_wp2
  go_ret
  exact ⟨rfl, g4⟩

set_option maxHeartbeats 400000 in
theorem sumTells_walk0 (s : ByteArray) (n : Nat) (w : World) (h0 : s.size ≤ maxLen) (h1 : n < 4294967296) :
    Calls Try.prog 3 #[.string s, .int .u32 n] w fun e w' => e = .returned (.bool true) ∧ Below w.heap.size w w' := by
  have h0' := h0
  unfold maxLen at h0
  by_cases ht : 3000 < s.size
  · clear h0'
    go_enter Try.func3, Try.ntmps3
    go_wp2
    go_ret
    exact ⟨rfl, Below.refl _ _⟩
  · have hs : s.size ≤ 1048576 := by omega
    go_enter Try.func3, Try.ntmps3
    go_wp2_with fail
    refine (of_any _ _ h0').mono ?_
    rintro e w1 ⟨rfl, rfl⟩
    go_wp2_with fail
    refine (rof_any _ _ h0').mono ?_
    rintro e w1 ⟨rfl, rfl⟩
    go_wp2_with fail
    refine (more_any _ _ _ h1 h0').mono ?_
    rintro e w1 ⟨rfl, rfl⟩
    go_wp2_with fail
    refine (rmore_any _ _ _ h1 h0').mono ?_
    rintro e w1 ⟨rfl, rfl⟩
    go_wp2_with fail
    refine (bytes_any _ _ h1).mono ?_
    rintro e w1 ⟨rfl, b1⟩
    go_wp2_with fail
    refine (rbytes_any _ _ h1).mono ?_
    rintro e w2 ⟨rfl, b2⟩
    have g2 := below_then b1 b2
    clear b1 b2
    go_wp2_with fail
    refine (ends_any _ _ hs).mono ?_
    rintro e w3 ⟨rfl, b3⟩
    have g3 := below_then g2 b3
    clear g2 b3
    go_wp2_with fail
    refine (rends_any _ _ hs).mono ?_
    rintro e w4 ⟨rfl, b4⟩
    have g4 := below_then g3 b4
    clear g3 b4
    go_wp2_with fail
    refine (seal_any _ _ hs).mono ?_
    rintro e w5 ⟨rfl, b5⟩
    have g5 := below_then g4 b5
    clear g4 b5
    go_wp2_with fail
    refine (rseal_any _ _ hs).mono ?_
    rintro e w6 ⟨rfl, b6⟩
    have g6 := below_then g5 b6
    clear g5 b6
    go_wp2
    go_ret
    exact ⟨rfl, g6⟩

theorem sumTells_walk (s : ByteArray) (n : Int) (w : World) (h0 : s.size ≤ maxLen) (h1 : (Lit.int .u32 n).wf = true) :
    Calls Try.prog 3 #[.string s, .int .u32 n] w fun e w' => e = .returned (.bool true) ∧ Below w.heap.size w w' := by
  have hb := bounds_u32 h1
  obtain ⟨m, rfl⟩ : ∃ m : Nat, n = m := ⟨n.toNat, by omega⟩
  exact sumTells_walk0 s m w h0 (by omega)
end Go.Proofs.Ytmdahlcfimgilaa
