/-
  What bounded, Add, Next, Plus, Times and Ceil of package tally answer, and what the document's own Add, Plus, Times and Ceil answer, whatever numbers they are given.
  Conditions: none; the numbers fit their kinds.
-/
import Derived.Test.YtfmdmifpgmkohaaTallyA
namespace Go.Proofs.Ytfmdmifpgmkohaa
open Go.RowKit

/-- A result between two bounds, or an error. -/
def bndV (lo hi v : Int) : Int × Int := if inB lo hi [v] then (v, 0) else (0, 12)

theorem ret_two {k l : IntKind} {a b : Int} {p : Int × Int} (h : p = (a, b)) : Ending.returned (.tuple #[.int k a, .int l b]) = .returned (.tuple #[.int k p.1, .int l p.2]) := by rw [h]

theorem ret_pair {k l : IntKind} {p q : Int × Int} (h : p = q) : Ending.returned (.tuple #[.int k p.1, .int l p.2]) = .returned (.tuple #[.int k q.1, .int l q.2]) := by rw [h]

theorem within1_u32 (lo hi v : Int) (b cap : Nat) (w : World) (hc : w.cell? ⟨b, 0, none⟩ = some (.int .u32 v)) :
    Calls Try.prog 25 #[.int .u32 lo, .int .u32 hi, .slice (some ⟨b, 0, none⟩) 1 cap] w fun e w' => e = .returned (.bool (inB lo hi [v])) ∧ w = w' :=
  within_u32 lo hi [v] b 0 cap w (by simp) (fun j hj => by
    match j, hj with
    | 0, _ => simpa using hc)

theorem within2_u32 (lo hi v u : Int) (b cap : Nat) (w : World) (hc : w.cell? ⟨b, 0, none⟩ = some (.int .u32 v)) (hd : w.cell? ⟨b, 1, none⟩ = some (.int .u32 u)) :
    Calls Try.prog 25 #[.int .u32 lo, .int .u32 hi, .slice (some ⟨b, 0, none⟩) 2 cap] w fun e w' => e = .returned (.bool (inB lo hi [v, u])) ∧ w = w' :=
  within_u32 lo hi [v, u] b 0 cap w (by simp) (fun j hj => by
    match j, hj with
    | 0, _ => simpa using hc
    | 1, _ => simpa using hd)

set_option maxHeartbeats 400000 in
theorem bounded_u32 (lo hi v : Int) (w : World) :
    Calls Try.prog 26 #[.int .u32 lo, .int .u32 hi, .int .u32 v] w fun e w' => e = .returned (.tuple #[.int .u32 (bndV lo hi v).1, .int .i64 (bndV lo hi v).2]) ∧ Below w.heap.size w w' := by
  rcases hb : inB lo hi [v]
  · have hv : bndV lo hi v = (0, 12) := by simp [bndV, hb]
    have HV := Lib.hid hv; clear hv
    have HB := Lib.hid hb; clear hb
    go_enter Try.func26, Try.ntmps26
    go_wp2_with (go_at_call 25; refine (within1_u32 _ _ v _ _ _ ?_).mono ?_; rotate_left; rintro e w' ⟨rfl, rfl⟩; rw [HB.out])
    · go_ret2
      exact ⟨ret_two HV.out, (Below.refl _ _).alloc (Nat.le_refl _) _⟩
    · simp
  · have hv : bndV lo hi v = (v, 0) := by simp [bndV, hb]
    have HV := Lib.hid hv; clear hv
    have HB := Lib.hid hb; clear hb
    go_enter Try.func26, Try.ntmps26
    go_wp2_with (go_at_call 25; refine (within1_u32 _ _ v _ _ _ ?_).mono ?_; rotate_left; rintro e w' ⟨rfl, rfl⟩; rw [HB.out])
    · go_ret2
      exact ⟨ret_two HV.out, (Below.refl _ _).alloc (Nat.le_refl _) _⟩
    · simp

/-- The sum of two numbers between two bounds, or an error. -/
def sumV (lo hi a b : Int) : Int × Int := if inB lo hi [a, b] then bndV lo hi (a + b) else (0, 2)

theorem inB_two {lo hi a b : Int} (h : inB lo hi [a, b] = true) : (lo ≤ a ∧ a ≤ hi) ∧ lo ≤ b ∧ b ≤ hi := by simpa [inB] using h

theorem inB_two_not {lo hi a b : Int} (h : inB lo hi [a, b] = false) : a < lo ∨ hi < a ∨ b < lo ∨ hi < b := by
  simp [inB] at h; omega

set_option maxHeartbeats 400000 in
theorem add_any (a b : Int) (w : World) :
    Calls Try.prog 24 #[.int .u32 a, .int .u32 b] w fun e w' => e = .returned (.tuple #[.int .u32 (sumV 0 1048576 a b).1, .int .i64 (sumV 0 1048576 a b).2]) ∧ Below w.heap.size w w' := by
  rcases hb : inB 0 1048576 [a, b]
  · have hv : sumV 0 1048576 a b = (0, 2) := by simp [sumV, hb]
    have HV := Lib.hid hv; clear hv
    have HB := Lib.hid hb; clear hb
    go_enter Try.func24, Try.ntmps24
    go_wp2_with (go_at_call 25; refine (within2_u32 _ _ a b _ _ _ ?_ ?_).mono ?_; rotate_left; rotate_left; rintro e w' ⟨rfl, rfl⟩; rw [HB.out])
    · go_ret2
      exact ⟨ret_two HV.out, (Below.refl _ _).alloc (Nat.le_refl _) _⟩
    all_goals simp
  · have hv : sumV 0 1048576 a b = bndV 0 1048576 (a + b) := by simp [sumV, hb]
    have HV := Lib.hid hv; clear hv
    obtain ⟨⟨h1, h2⟩, h3, h4⟩ := inB_two hb
    have HB := Lib.hid hb; clear hb
    go_enter Try.func24, Try.ntmps24
    go_wp2_with (first | (go_at_call 25; refine (within2_u32 _ _ a b _ _ _ ?_ ?_).mono ?_; rotate_left; rotate_left; rintro e w' ⟨rfl, rfl⟩; rw [HB.out]) | (go_at_call 26; refine (bounded_u32 _ _ (a + b) _).mono ?_; rintro e w1 ⟨rfl, hb1⟩))
    · go_ret2
      exact ⟨ret_pair HV.out.symm, ((Below.refl _ _).alloc (Nat.le_refl _) _).trans (hb1.mono (by simp))⟩
    all_goals simp

set_option maxHeartbeats 400000 in
theorem next_any (a : Int) (w : World) :
    Calls Try.prog 21 #[.int .u32 a] w fun e w' => e = .returned (.tuple #[.int .u32 (sumV 0 1048576 a 1).1, .int .i64 (sumV 0 1048576 a 1).2]) ∧ Below w.heap.size w w' := by
  go_enter Try.func21, Try.ntmps21
  go_wp2_with (go_at_call 24; refine (add_any a 1 _).mono ?_; rintro e w1 ⟨rfl, hb1⟩)
  go_ret2
  exact ⟨rfl, hb1⟩

end Go.Proofs.Ytfmdmifpgmkohaa
