/-
  What the document's own Times answers, and what both functions Ceil answer, for any two ints.
  Conditions: the numbers are ints.
-/
import Derived.Test.YtfdmpahgoooepaaTallyC
namespace Go.Proofs.Ytfdmpahgoooepaa
open Go.RowKit

theorem rtimes_any (a b : Int) (w : World) :
    Calls Try.prog 17 #[.int .i64 a, .int .i64 b] w fun e w' => e = .returned (.tuple #[.int .i64 (mulV a b).1, .int .i64 (mulV a b).2]) ∧ w = w' := by
  rcases hb : inB 0 1099511627776 [a, b]
  · have hv : mulV a b = (0, 2) := by simp [mulV, hb]
    have HV := Lib.hid hv; clear hv
    rcases is_no hb with h1 | ⟨h1, h2⟩
    · have H1 := Lib.hid h1; clear h1 hb
      go_enter Try.func17, Try.ntmps17
      go_wp2_with (go_at_call 26; refine (is_any a _).mono ?_; rintro e w' ⟨rfl, rfl⟩; rw [H1.out])
      go_ret2
      exact ⟨ret_two HV.out, rfl⟩
    · have H1 := Lib.hid h1; clear h1 hb
      have H2 := Lib.hid h2; clear h2
      go_enter Try.func17, Try.ntmps17
      go_wp2_with fail
      refine (is_any a _).mono ?_
      rintro e w' ⟨rfl, rfl⟩
      rw [H1.out]
      go_wp2_with fail
      refine (is_any b _).mono ?_
      rintro e w' ⟨rfl, rfl⟩
      rw [H2.out]
      go_wp2
      go_ret2
      exact ⟨ret_two HV.out, rfl⟩
  · obtain ⟨⟨h1, h2⟩, h3, h4⟩ := inB_two hb
    obtain ⟨i1, i2⟩ := is_yes hb
    have I1 := Lib.hid i1; clear i1
    have I2 := Lib.hid i2; clear i2
    by_cases hz : b = 0
    · subst hz
      have hv : mulV a 0 = (a * 0, 0) := by simp [mulV, hb]
      have HV := Lib.hid hv; clear hv hb
      go_enter Try.func17, Try.ntmps17
      go_wp2_with fail
      refine (is_any a _).mono ?_
      rintro e w' ⟨rfl, rfl⟩
      rw [I1.out]
      go_wp2_with fail
      refine (is_any 0 _).mono ?_
      rintro e w' ⟨rfl, rfl⟩
      rw [I2.out]
      go_wp2
      go_ret2
      exact ⟨ret_two (by rw [HV.out]; simp), rfl⟩
    · have h5 : 1 ≤ b := by omega
      by_cases hq : 1099511627776 / b < a
      · have hv : mulV a b = (0, 12) := by simp [mulV, hb, hz, hq]
        have HV := Lib.hid hv; clear hv hb
        go_enter Try.func17, Try.ntmps17
        go_wp2_with fail
        refine (is_any a _).mono ?_
        rintro e w' ⟨rfl, rfl⟩
        rw [I1.out]
        go_wp2_with fail
        refine (is_any b _).mono ?_
        rintro e w' ⟨rfl, rfl⟩
        rw [I2.out]
        go_wp2
        go_ret2
        exact ⟨ret_two HV.out, rfl⟩
      · have hv : mulV a b = (a * b, 0) := by simp [mulV, hb, hq]
        have HV := Lib.hid hv; clear hv hb
        obtain ⟨h7, h8⟩ := mul_in h1 h5 (by omega)
        go_enter Try.func17, Try.ntmps17
        go_wp2_with fail
        refine (is_any a _).mono ?_
        rintro e w' ⟨rfl, rfl⟩
        rw [I1.out]
        go_wp2_with fail
        refine (is_any b _).mono ?_
        rintro e w' ⟨rfl, rfl⟩
        rw [I2.out]
        go_wp2
        go_ret2
        exact ⟨ret_two HV.out, rfl⟩

/-! ### Ceil -/

theorem ceil_no {a b : Int} (h : inB 0 1099511627776 [a, b] = false ∨ b = 0) : ceilV a b = (0, 2) := by
  unfold ceilV
  rw [if_neg]
  rintro ⟨h1, h2⟩
  rcases h with h | h
  · simp [h] at h1
  · exact h2 h

theorem ceil_yes {a b : Int} (h : inB 0 1099511627776 [a, b] = true) (hz : b ≠ 0) : ceilV a b = (if a % b = 0 then a / b else a / b + 1, 0) := by
  unfold ceilV
  rw [if_pos ⟨h, hz⟩]

theorem div_bd {a b : Int} (h0 : 0 ≤ a) (h1 : 1 ≤ b) : 0 ≤ a / b ∧ a / b ≤ a ∧ a / b * b ≤ a ∧ 0 ≤ a / b * b := by
  have h2 : 0 ≤ a / b := Int.ediv_nonneg h0 (by omega)
  refine ⟨h2, Int.ediv_le_self b h0, Int.ediv_mul_le a (by omega), Int.mul_nonneg h2 (by omega)⟩

set_option maxHeartbeats 400000 in
theorem ceil_any (a b : Int) (w : World) :
    Calls Try.prog 18 #[.int .i64 a, .int .i64 b] w fun e w' => e = .returned (.tuple #[.int .i64 (ceilV a b).1, .int .i64 (ceilV a b).2]) ∧ Below w.heap.size w w' := by
  rcases hb : inB 0 1099511627776 [a, b]
  · have hv := ceil_no (a := a) (b := b) (.inl hb)
    have HV := Lib.hid hv; clear hv
    have HB := Lib.hid hb; clear hb
    go_enter Try.func18, Try.ntmps18
    go_wp2_with (go_at_call 25; refine (within2_int _ _ a b _ _ _ ?_ ?_).mono ?_; rotate_left; rotate_left; rintro e w' ⟨rfl, rfl⟩; rw [HB.out])
    · go_ret2
      exact ⟨ret_two HV.out, (Below.refl _ _).alloc (Nat.le_refl _) _⟩
    all_goals simp
  · obtain ⟨⟨h1, h2⟩, h3, h4⟩ := inB_two hb
    by_cases hz : b = 0
    · subst hz
      have hv := ceil_no (a := a) (b := 0) (.inr rfl)
      have HV := Lib.hid hv; clear hv
      have HB := Lib.hid hb; clear hb
      go_enter Try.func18, Try.ntmps18
      go_wp2_with (go_at_call 25; refine (within2_int _ _ a 0 _ _ _ ?_ ?_).mono ?_; rotate_left; rotate_left; rintro e w' ⟨rfl, rfl⟩; rw [HB.out])
      · go_ret2
        exact ⟨ret_two HV.out, (Below.refl _ _).alloc (Nat.le_refl _) _⟩
      all_goals simp
    · have h5 : 1 ≤ b := by omega
      have h6 : (b == 0) = false := by simpa using hz
      obtain ⟨d0, d1, d2, d3⟩ := div_bd h1 h5
      have hv := ceil_yes hb hz
      by_cases hm : a % b = 0
      · rw [if_pos hm] at hv
        have HV := Lib.hid hv; clear hv
        have HB := Lib.hid hb; clear hb
        have h7 : (a % b != 0) = false := by simpa using hm
        have HM := Lib.hid hm; clear hm
        go_enter Try.func18, Try.ntmps18
        go_wp2_with (go_at_call 25; refine (within2_int _ _ a b _ _ _ ?_ ?_).mono ?_; rotate_left; rotate_left; rintro e w' ⟨rfl, rfl⟩; rw [HB.out])
        · go_ret2
          exact ⟨ret_two HV.out, (Below.refl _ _).alloc (Nat.le_refl _) _⟩
        all_goals simp
      · rw [if_neg hm] at hv
        have HV := Lib.hid hv; clear hv
        have HB := Lib.hid hb; clear hb
        have h7 : (a % b != 0) = true := by simpa using hm
        have HM := Lib.hid hm; clear hm
        go_enter Try.func18, Try.ntmps18
        go_wp2_with (go_at_call 25; refine (within2_int _ _ a b _ _ _ ?_ ?_).mono ?_; rotate_left; rotate_left; rintro e w' ⟨rfl, rfl⟩; rw [HB.out])
        · go_ret2
          exact ⟨ret_two HV.out, (Below.refl _ _).alloc (Nat.le_refl _) _⟩
        all_goals simp

set_option maxHeartbeats 400000 in
theorem rceil_any (a b : Int) (w : World) :
    Calls Try.prog 19 #[.int .i64 a, .int .i64 b] w fun e w' => e = .returned (.tuple #[.int .i64 (ceilV a b).1, .int .i64 (ceilV a b).2]) ∧ w = w' := by
  rcases hb : inB 0 1099511627776 [a, b]
  · have hv := ceil_no (a := a) (b := b) (.inl hb)
    have HV := Lib.hid hv; clear hv
    rcases is_no hb with h1 | ⟨h1, h2⟩
    · have H1 := Lib.hid h1; clear h1 hb
      go_enter Try.func19, Try.ntmps19
      go_wp2_with (go_at_call 26; refine (is_any a _).mono ?_; rintro e w' ⟨rfl, rfl⟩; rw [H1.out])
      go_ret2
      exact ⟨ret_two HV.out, rfl⟩
    · have H1 := Lib.hid h1; clear h1 hb
      have H2 := Lib.hid h2; clear h2
      go_enter Try.func19, Try.ntmps19
      go_wp2_with fail
      refine (is_any a _).mono ?_
      rintro e w' ⟨rfl, rfl⟩
      rw [H1.out]
      go_wp2_with fail
      refine (is_any b _).mono ?_
      rintro e w' ⟨rfl, rfl⟩
      rw [H2.out]
      go_wp2
      go_ret2
      exact ⟨ret_two HV.out, rfl⟩
  · obtain ⟨⟨h1, h2⟩, h3, h4⟩ := inB_two hb
    obtain ⟨i1, i2⟩ := is_yes hb
    have I1 := Lib.hid i1; clear i1
    have I2 := Lib.hid i2; clear i2
    by_cases hz : b = 0
    · subst hz
      have hv := ceil_no (a := a) (b := 0) (.inr rfl)
      have HV := Lib.hid hv; clear hv hb
      go_enter Try.func19, Try.ntmps19
      go_wp2_with fail
      refine (is_any a _).mono ?_
      rintro e w' ⟨rfl, rfl⟩
      rw [I1.out]
      go_wp2_with fail
      refine (is_any 0 _).mono ?_
      rintro e w' ⟨rfl, rfl⟩
      rw [I2.out]
      go_wp2
      go_ret2
      exact ⟨ret_two HV.out, rfl⟩
    · have h5 : 1 ≤ b := by omega
      have h6 : (b == 0) = false := by simpa using hz
      obtain ⟨d0, d1, d2, d3⟩ := div_bd h1 h5
      have hv := ceil_yes hb hz
      have hq : a % b = a - a / b * b := by rw [Int.emod_def, Int.mul_comm]
      by_cases hm : a % b = 0
      · rw [if_pos hm] at hv
        have HV := Lib.hid hv; clear hv hb
        have h7 : ¬ a / b * b < a := by omega
        clear hq hm
        go_enter Try.func19, Try.ntmps19
        go_wp2_with fail
        refine (is_any a _).mono ?_
        rintro e w' ⟨rfl, rfl⟩
        rw [I1.out]
        go_wp2_with fail
        refine (is_any b _).mono ?_
        rintro e w' ⟨rfl, rfl⟩
        rw [I2.out]
        go_wp2
        go_ret2
        exact ⟨ret_two HV.out, rfl⟩
      · rw [if_neg hm] at hv
        have HV := Lib.hid hv; clear hv hb
        have h7 : a / b * b < a := by omega
        clear hq hm
        go_enter Try.func19, Try.ntmps19
        go_wp2_with fail
        refine (is_any a _).mono ?_
        rintro e w' ⟨rfl, rfl⟩
        rw [I1.out]
        go_wp2_with fail
        refine (is_any b _).mono ?_
        rintro e w' ⟨rfl, rfl⟩
        rw [I2.out]
        go_wp2
        go_ret2
        exact ⟨ret_two HV.out, rfl⟩

end Go.Proofs.Ytfdmpahgoooepaa
