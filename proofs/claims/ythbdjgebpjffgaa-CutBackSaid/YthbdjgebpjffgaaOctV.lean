/-
  What Signed and Text of package octet's Reader answer.
  Conditions: the reader lies in a block of its own.
-/
import Derived.Test.YthbdjgebpjffgaaOctU
set_option linter.unusedVariables false
set_option linter.unusedSimpArgs false
namespace Go.Proofs.Ythbdjgebpjffgaa
open Go.RowKit

/-! ### Signed -/

def sC (s : ByteArray) (a : Nat) : Int := nC s a
/-- The number with a sign. -/
def sV (s : ByteArray) (a : Nat) : Int := if nV s a % 2 = 1 then -((nV s a / 2 : Nat) : Int) - 1 else ((nV s a / 2 : Nat) : Int)
def sA (s : ByteArray) (a : Nat) : Nat := nA s a
def sC' (s : ByteArray) (a : Nat) (c : Int) : Int := if c = 0 then sC s a else c
def sV' (s : ByteArray) (a : Nat) (c : Int) : Int := if c = 0 then sV s a else 0
def sA' (s : ByteArray) (a : Nat) (c : Int) : Nat := if c = 0 then sA s a else a
theorem sV_bad {s : ByteArray} {a : Nat} (h : ¬ sC s a = 0) : sV s a = 0 := by unfold sV; rw [nV_bad h]; rfl
theorem sA_bad {s : ByteArray} {a : Nat} (h : ¬ sC s a = 0) : sA s a = a := nA_bad h

theorem and_one (x : Nat) (h : x < 18446744073709551616) : bits .and .u64 (x : Int) 1 = ((x % 2 : Nat) : Int) := by
  have := u64_and_nat x 1 h (by omega)
  rw [nat_mask1] at this
  exact this

/-! ### Text -/

def tC (s : ByteArray) (a : Nat) (m : Int) : Int := if iC s a m = 0 then (if s.size < iA s a m + iV s a m then 1 else 0) else iC s a m
def tV (s : ByteArray) (a : Nat) (m : Int) : ByteArray := if tC s a m = 0 then s.extract (iA s a m) (iA s a m + iV s a m) else ⟨#[]⟩
def tA (s : ByteArray) (a : Nat) (m : Int) : Nat := if tC s a m = 0 then iA s a m + iV s a m else a
def tC' (s : ByteArray) (a : Nat) (m c : Int) : Int := if c = 0 then tC s a m else c
def tV' (s : ByteArray) (a : Nat) (m c : Int) : ByteArray := if c = 0 then tV s a m else ⟨#[]⟩
def tA' (s : ByteArray) (a : Nat) (m c : Int) : Nat := if c = 0 then tA s a m else a
theorem tV_bad {s : ByteArray} {a : Nat} {m : Int} (h : ¬ tC s a m = 0) : tV s a m = ⟨#[]⟩ := by unfold tV; rw [if_neg h]
theorem tA_bad {s : ByteArray} {a : Nat} {m : Int} (h : ¬ tC s a m = 0) : tA s a m = a := by unfold tA; rw [if_neg h]

/-- What a step of the kind of counted leaves. -/
def TxtPost (r : Nat) (s : ByteArray) (a : Nat) (m c : Int) (w w' : World) : Prop := ∃ a', Rdr w' r s a' c ∧ (tC s a m = 0 → a' = tA s a m) ∧ Only r w w'

theorem ret_strC {x y : ByteArray} {e f : Int} (h1 : x = y) (h2 : e = f) : Ending.returned (.tuple #[.string x, .int .i64 e]) = .returned (.tuple #[.string y, .int .i64 f]) := by rw [h1, h2]

theorem ext_le (s : ByteArray) (a b : Nat) : (s.extract a b).size ≤ s.size := by rw [ByteArray.size_extract]; omega

end Go.Proofs.Ythbdjgebpjffgaa
