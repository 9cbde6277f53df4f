/-
  What Times and Ceil of package tally answer, and what the document's own Times and Ceil answer, for any two ints.
  Conditions: the numbers are ints.
-/
import Derived.Test.YtfdmpahgoooepaaTallyB
namespace Go.Proofs.Ytfdmpahgoooepaa
open Go.RowKit

/-- The product of two sizes, or an error. -/
def mulV (a b : Int) : Int × Int := if inB 0 1099511627776 [a, b] then (if b ≠ 0 ∧ 1099511627776 / b < a then (0, 12) else (a * b, 0)) else (0, 2)

/-- The quotient of two sizes, rounded up, or an error. -/
def ceilV (a b : Int) : Int × Int := if inB 0 1099511627776 [a, b] ∧ b ≠ 0 then (if a % b = 0 then a / b else a / b + 1, 0) else (0, 2)

theorem mul_in {a b : Int} (h0 : 0 ≤ a) (h1 : 1 ≤ b) (h : a ≤ 1099511627776 / b) : 0 ≤ a * b ∧ a * b ≤ 1099511627776 := by
  refine ⟨Int.mul_nonneg h0 (by omega), ?_⟩
  have h2 := Int.mul_le_mul_of_nonneg_right h (show 0 ≤ b by omega)
  have h3 := Int.ediv_mul_le 1099511627776 (show b ≠ 0 by omega)
  omega

set_option maxHeartbeats 400000 in
theorem times_any (a b : Int) (w : World) :
    Calls Try.prog 16 #[.int .i64 a, .int .i64 b] w fun e w' => e = .returned (.tuple #[.int .i64 (mulV a b).1, .int .i64 (mulV a b).2]) ∧ Below w.heap.size w w' := by
  rcases hb : inB 0 1099511627776 [a, b]
  · have hv : mulV a b = (0, 2) := by simp [mulV, hb]
    have HV := Lib.hid hv; clear hv
    have HB := Lib.hid hb; clear hb
    go_enter Try.func16, Try.ntmps16
    go_wp2_with (go_at_call 25; refine (within2_int _ _ a b _ _ _ ?_ ?_).mono ?_; rotate_left; rotate_left; rintro e w' ⟨rfl, rfl⟩; rw [HB.out])
    · go_ret2
      exact ⟨ret_two HV.out, (Below.refl _ _).alloc (Nat.le_refl _) _⟩
    all_goals simp
  · obtain ⟨⟨h1, h2⟩, h3, h4⟩ := inB_two hb
    by_cases hz : b = 0
    · subst hz
      have hv : mulV a 0 = (a * 0, 0) := by simp [mulV, hb]
      have HV := Lib.hid hv; clear hv
      have HB := Lib.hid hb; clear hb
      go_enter Try.func16, Try.ntmps16
      go_wp2_with (go_at_call 25; refine (within2_int _ _ a 0 _ _ _ ?_ ?_).mono ?_; rotate_left; rotate_left; rintro e w' ⟨rfl, rfl⟩; rw [HB.out])
      · go_ret2
        exact ⟨ret_two (by rw [HV.out]; simp), (Below.refl _ _).alloc (Nat.le_refl _) _⟩
      all_goals simp
    · by_cases hq : 1099511627776 / b < a
      · have hv : mulV a b = (0, 12) := by simp [mulV, hb, hz, hq]
        have HV := Lib.hid hv; clear hv
        have HB := Lib.hid hb; clear hb
        have h5 : 1 ≤ b := by omega
        have h6 : (b != 0) = true := by simpa using hz
        go_enter Try.func16, Try.ntmps16
        go_wp2_with (go_at_call 25; refine (within2_int _ _ a b _ _ _ ?_ ?_).mono ?_; rotate_left; rotate_left; rintro e w' ⟨rfl, rfl⟩; rw [HB.out])
        · go_ret2
          exact ⟨ret_two HV.out, (Below.refl _ _).alloc (Nat.le_refl _) _⟩
        all_goals simp
      · have hv : mulV a b = (a * b, 0) := by simp [mulV, hb, hq]
        have HV := Lib.hid hv; clear hv
        have HB := Lib.hid hb; clear hb
        have h5 : 1 ≤ b := by omega
        have h6 : (b != 0) = true := by simpa using hz
        obtain ⟨h7, h8⟩ := mul_in h1 h5 (by omega)
        go_enter Try.func16, Try.ntmps16
        go_wp2_with (go_at_call 25; refine (within2_int _ _ a b _ _ _ ?_ ?_).mono ?_; rotate_left; rotate_left; rintro e w' ⟨rfl, rfl⟩; rw [HB.out])
        · go_ret2
          exact ⟨ret_two HV.out, (Below.refl _ _).alloc (Nat.le_refl _) _⟩
        all_goals simp

/-- Is it a size? -/
def isB (a : Int) : Bool := decide (0 ≤ a) && decide (a ≤ 1099511627776)

theorem is_any (a : Int) (w : World) :
    Calls Try.prog 26 #[.int .i64 a] w fun e w' => e = .returned (.bool (isB a)) ∧ w = w' := by
  by_cases h0 : 0 ≤ a
  · by_cases h1 : a ≤ 1099511627776
    · have hv : true = isB a := by simp [isB, h0, h1]
      have HV := Lib.hid hv; clear hv
      go_enter Try.func26, Try.ntmps26
      go_wp2
      go_ret
      exact ⟨ret_bool HV.out, rfl⟩
    · have hv : false = isB a := by simp [isB, h1]
      have HV := Lib.hid hv; clear hv
      have h2 : decide (a ≤ 1099511627776) = false := by simpa using h1
      go_enter Try.func26, Try.ntmps26
      go_wp2
      go_ret
      exact ⟨ret_bool HV.out, rfl⟩
  · have hv : false = isB a := by simp [isB, h0]
    have HV := Lib.hid hv; clear hv
    have h2 : decide (0 ≤ a) = false := by simpa using h0
    go_enter Try.func26, Try.ntmps26
    go_wp2
    go_ret
    exact ⟨ret_bool HV.out, rfl⟩

theorem is_yes {a b : Int} (h : inB 0 1099511627776 [a, b] = true) : isB a = true ∧ isB b = true := by
  have := inB_two h
  simp [isB]; omega

theorem is_no {a b : Int} (h : inB 0 1099511627776 [a, b] = false) : isB a = false ∨ (isB a = true ∧ isB b = false) := by
  rcases ha : isB a
  · exact .inl rfl
  · rcases hb : isB b
    · exact .inr ⟨rfl, rfl⟩
    · simp [isB] at ha hb
      simp [inB] at h
      omega

end Go.Proofs.Ytfdmpahgoooepaa
