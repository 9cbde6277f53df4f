/-
  What package frame's check answers; the document's answer to Next, as plain functions of the text.
  Conditions: none.
-/
import Derived.Test.YtcmdemblegdelaaDoorFraB
import Derived.Test.YtcmdemblegdelaaDoorOctM
namespace Go.Proofs.YtcmdemblegdelaaDoor
open Go.RowKit

/-- What is wrong with the checksum behind the first a bytes. -/
def cC (s : ByteArray) (a : Nat) : Int := if s.size < a + 4 then 1 else if endsB (s.extract 0 (a + 4)) = true then 0 else 13

theorem ends_check (s : ByteArray) (a : Nat) (w : World) (hs : s.size ≤ 1048576) :
    Calls Tryd.prog 53 #[.string (s.extract 0 (a + 4))] w fun e w' => e = .returned (.bool (endsB (s.extract 0 (a + 4)))) ∧ Below w.heap.size w w' :=
  ends_any _ w (by have := ext_le s 0 (a + 4); omega)

theorem check_any (s : ByteArray) (a : Nat) (w : World) (hs : s.size ≤ 1048576) (ha : a ≤ s.size) :
    Calls Tryd.prog 32 #[.string s, .int .i64 (a : Int)] w fun e w' => e = .returned (.int .i64 (cC s a)) ∧ Below w.heap.size w w' := by
  by_cases h1 : s.size < a + 4
  · have HC : Hid (cC s a = 1) := Lib.hid (by unfold cC; rw [if_pos h1])
    have h2 : (s.size : Int) < (a : Int) + 4 := by omega
    go_enter Tryd.func32, Tryd.ntmps32
    go_wp2
    go_ret
    exact ⟨ret_i64 HC.out.symm, Below.refl _ _⟩
  · have HX := Lib.hid (ends_check s a w hs)
    have h2 : (a : Int) + 4 ≤ s.size := by omega
    by_cases he : endsB (s.extract 0 (a + 4)) = true
    · have HC : Hid (cC s a = 0) := Lib.hid (by unfold cC; rw [if_neg h1, if_pos he])
      rw [he] at HX
      clear h1 he
      go_enter Tryd.func32, Tryd.ntmps32
      go_wp2_with fail
      refine HX.out.mono ?_
      rintro e w1 ⟨rfl, b1⟩
      go_wp2
      go_ret
      exact ⟨ret_i64 HC.out.symm, b1⟩
    · have HC : Hid (cC s a = 13) := Lib.hid (by unfold cC; rw [if_neg h1, if_neg he])
      rw [Bool.not_eq_true] at he
      rw [he] at HX
      clear h1 he
      go_enter Tryd.func32, Tryd.ntmps32
      go_wp2_with fail
      refine HX.out.mono ?_
      rintro e w1 ⟨rfl, b1⟩
      go_wp2
      go_ret
      exact ⟨ret_i64 HC.out.symm, b1⟩

/-- The place behind the kind; behind the load. -/
def iP (s : ByteArray) : Nat := iA s 0 99
def tP (s : ByteArray) : Nat := tA s (iP s) 4096
/-- What Next tells of a text: what is wrong; where; the kind; the load; the length. -/
def xC (s : ByteArray) : Int :=
  if iC s 0 99 = 0 then (if iV s 0 99 = 0 then 5 else if tC s (iP s) 4096 = 0 then cC s (tP s) else tC s (iP s) 4096) else iC s 0 99
def xAt (s : ByteArray) : Nat :=
  if iC s 0 99 = 0 then (if iV s 0 99 = 0 then 0 else if tC s (iP s) 4096 = 0 then (if cC s (tP s) = 0 then 0 else tP s) else iP s) else 0
def xK (s : ByteArray) : Nat := if xC s = 0 then iV s 0 99 else 0
def xL (s : ByteArray) : ByteArray := if xC s = 0 then tV s (iP s) 4096 else ⟨#[]⟩
def xN (s : ByteArray) : Nat := if xC s = 0 then tP s + 4 else 0

theorem iP_le (s : ByteArray) : iP s ≤ s.size := iA_le (Nat.zero_le _)
theorem tA_le {s : ByteArray} {a : Nat} {m : Int} (ha : a ≤ s.size) : tA s a m ≤ s.size := by
  unfold tA
  split
  · rename_i h
    unfold tC at h
    by_cases hi : iC s a m = 0
    · rw [if_pos hi] at h
      split at h
      · simp at h
      · omega
    · rw [if_neg hi] at h; exact absurd h hi
  · exact ha
theorem tP_le (s : ByteArray) : tP s ≤ s.size := tA_le (iP_le s)
/-- A text of which nothing is wrong. -/
theorem x_good {s : ByteArray} (h : xC s = 0) : iC s 0 99 = 0 ∧ ¬ iV s 0 99 = 0 ∧ tC s (iP s) 4096 = 0 ∧ cC s (tP s) = 0 := by
  unfold xC at h
  by_cases h1 : iC s 0 99 = 0
  · rw [if_pos h1] at h
    by_cases h2 : iV s 0 99 = 0
    · rw [if_pos h2] at h; simp at h
    · rw [if_neg h2] at h
      by_cases h3 : tC s (iP s) 4096 = 0
      · rw [if_pos h3] at h; exact ⟨h1, h2, h3, h⟩
      · rw [if_neg h3] at h; exact absurd h h3
  · rw [if_neg h1] at h; exact absurd h h1
theorem cC_good {s : ByteArray} {a : Nat} (h : cC s a = 0) : a + 4 ≤ s.size ∧ endsB (s.extract 0 (a + 4)) = true := by
  unfold cC at h
  split at h
  · simp at h
  · split at h
    · rename_i h1 h2; exact ⟨by omega, h2⟩
    · simp at h
end Go.Proofs.YtcmdemblegdelaaDoor
