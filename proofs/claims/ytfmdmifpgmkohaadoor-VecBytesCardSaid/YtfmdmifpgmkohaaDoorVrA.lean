/-
  What Read of package vec, and the document's own Read, answer, whatever the reader holds. Plain lemmas.
  Conditions: none.
-/
import Derived.Test.YtfmdmifpgmkohaaDoorOctU
import Derived.Test.YtfmdmifpgmkohaaDoorOctL
import Derived.Test.YtfmdmifpgmkohaaDoorOctN
import Derived.Test.YtfmdmifpgmkohaaDoorOctF
import Derived.Test.YtfmdmifpgmkohaaDoorVecC
namespace Go.Proofs.YtfmdmifpgmkohaaDoor
open Go.RowKit

theorem iV'_bad {s : ByteArray} {a : Nat} {m c : Int} (h : ¬ iC' s a m c = 0) : iV' s a m c = 0 := by
  unfold iC' at h; unfold iV'
  split
  · rename_i k; rw [if_pos k] at h; exact iV_bad h
  · rfl
theorem iV'_le {s : ByteArray} {a : Nat} {m c : Int} (hm : 0 ≤ m) : (iV' s a m c : Int) ≤ m := by
  unfold iV'
  split
  · unfold iV
    split
    · rename_i h
      unfold iC at h
      split at h
      · split at h
        · exact absurd h (by decide)
        · omega
      · rename_i k; exact absurd h k
    · omega
  · omega
theorem iA'_in {s : ByteArray} {a : Nat} {m c : Int} (ha : a ≤ s.size) : iA' s a m c ≤ s.size := by
  unfold iA'
  split
  · exact iA_le ha
  · exact ha
theorem failC_three (c : Int) : ¬ failC c 3 = 0 := by
  unfold failC
  split
  · decide
  · assumption

theorem rdInt_val (r a : Nat) (s : ByteArray) (m c : Int) (w : World) (v b : Nat) (d : Int) (hv : iV' s a m c = v) (hb : iA' s a m c = b) (hd : iC' s a m c = d) (h : Rdr w r s a c) (ha : a ≤ s.size) (hs : s.size ≤ 1048576) (hm : -9223372036854775808 ≤ m ∧ m ≤ 9223372036854775807) :
    Calls Tryd.prog 35 #[.pointer (some ⟨r, 0, none⟩), .int .i64 m] w fun e w' => e = .returned (.int .i64 (v : Int)) ∧ Rdr w' r s b d ∧ Only r w w' := by
  subst hv; subst hb; subst hd
  exact rdInt_any r a s m c w h ha hs hm
theorem rInt_val (q a : Nat) (s : ByteArray) (m c : Int) (w : World) (v b : Nat) (d : Int) (hv : iV' s a m c = v) (hb : iA' s a m c = b) (hd : iC' s a m c = d) (h : RR w q s a (fA a c) c) (ha : a ≤ s.size) (hs : s.size ≤ 1048576) (hm : -9223372036854775808 ≤ m ∧ m ≤ 9223372036854775807) :
    Calls Tryd.prog 37 #[.pointer (some ⟨q, 0, none⟩), .int .i64 m] w fun e w' => e = .returned (.int .i64 (v : Int)) ∧ RR w' q s b (fA b d) d ∧ Only q w w' := by
  subst hv; subst hb; subst hd
  exact rInt_any q a s m c w h ha hs hm

/-- How many elements are read; where the next one begins behind k of them, what is wrong by then; the next one. -/
def rN (s : ByteArray) (a : Nat) (c : Int) : Nat := iV' s a 8 c
def rS (s : ByteArray) (a : Nat) (c : Int) : Nat → Nat × Int
  | 0 => (iA' s a 8 c, iC' s a 8 c)
  | k + 1 => (iA' s (rS s a c k).1 1048576 (rS s a c k).2, iC' s (rS s a c k).1 1048576 (rS s a c k).2)
def rX (s : ByteArray) (a : Nat) (c : Int) (k : Nat) : Nat := iV' s (rS s a c k).1 1048576 (rS s a c k).2
/-- Behind all of them; what is wrong at the end; the vector. -/
def rA (s : ByteArray) (a : Nat) (c : Int) : Nat := (rS s a c (rN s a c)).1
def rD (s : ByteArray) (a : Nat) (c : Int) : Int := (rS s a c (rN s a c)).2
def rC (s : ByteArray) (a : Nat) (c : Int) : Int := if 0 < rN s a c ∧ rX s a c (rN s a c - 1) = 0 then failC (rD s a c) 3 else rD s a c
def rV (s : ByteArray) (a : Nat) (c : Int) (i : Nat) : Int := if rC s a c = 0 ∧ i < rN s a c then (rX s a c i : Int) else 0
/-- The elements that are read, as the loop lays them. -/
def rY (s : ByteArray) (a : Nat) (c : Int) (i : Nat) : Int := (rX s a c i : Int)
def z0V (_ : Nat) : Int := 0

section
variable {s : ByteArray} {a : Nat} {c : Int}
theorem rN_le : rN s a c ≤ 8 := by have := iV'_le (s := s) (a := a) (c := c) (m := 8) (by omega); unfold rN; omega
theorem rX_le (k : Nat) : (rX s a c k : Int) ≤ 1048576 := iV'_le (by omega)
theorem rS_in (ha : a ≤ s.size) : ∀ k, (rS s a c k).1 ≤ s.size
  | 0 => iA'_in ha
  | k + 1 => iA'_in (rS_in ha k)
theorem rV_at {n : Nat} (hn : rN s a c = n) (h : rC s a c = 0) : (#[.int .u32 (mixV n (rY s a c) z0V 0), .int .u32 (mixV n (rY s a c) z0V 1), .int .u32 (mixV n (rY s a c) z0V 2), .int .u32 (mixV n (rY s a c) z0V 3), .int .u32 (mixV n (rY s a c) z0V 4), .int .u32 (mixV n (rY s a c) z0V 5), .int .u32 (mixV n (rY s a c) z0V 6), .int .u32 (mixV n (rY s a c) z0V 7)] : Array Value) = #[.int .u32 (rV s a c 0), .int .u32 (rV s a c 1), .int .u32 (rV s a c 2), .int .u32 (rV s a c 3), .int .u32 (rV s a c 4), .int .u32 (rV s a c 5), .int .u32 (rV s a c 6), .int .u32 (rV s a c 7)] := by
  subst hn
  refine vec_congr fun i _ => ?_
  unfold mixV rV rY z0V
  by_cases hi : i < rN s a c
  · rw [if_pos hi, if_pos ⟨h, hi⟩]
  · rw [if_neg hi, if_neg (fun k => hi k.2)]
theorem rV_bad (h : ¬ rC s a c = 0) : (#[.int .u32 (rV s a c 0), .int .u32 (rV s a c 1), .int .u32 (rV s a c 2), .int .u32 (rV s a c 3), .int .u32 (rV s a c 4), .int .u32 (rV s a c 5), .int .u32 (rV s a c 6), .int .u32 (rV s a c 7)] : Array Value) = #[.int .u32 (z0V 0), .int .u32 (z0V 1), .int .u32 (z0V 2), .int .u32 (z0V 3), .int .u32 (z0V 4), .int .u32 (z0V 5), .int .u32 (z0V 6), .int .u32 (z0V 7)] :=
  vec_congr fun i _ => by unfold rV z0V; rw [if_neg (fun k => h k.1)]
theorem rC_none (h : rN s a c = 0) : rC s a c = rD s a c := by unfold rC; rw [if_neg (fun k => by omega)]
theorem rC_zero {n : Nat} (hn : rN s a c = n + 1) (h : rX s a c n = 0) : rC s a c = failC (rD s a c) 3 := by
  unfold rC; rw [if_pos ⟨by omega, by rw [hn]; exact h⟩]
theorem rC_some {n : Nat} (hn : rN s a c = n + 1) (h : ¬ rX s a c n = 0) : rC s a c = rD s a c ∧ rD s a c = 0 := by
  have hD : rD s a c = 0 := by
    rcases Decidable.em (rD s a c = 0) with k | k
    · exact k
    · unfold rD at k
      rw [hn] at k
      exact absurd (iV'_bad k) h
  exact ⟨by unfold rC; rw [if_neg (fun k => h (by have := k.2; rw [hn] at this; exact this))], hD⟩
end
end Go.Proofs.YtfmdmifpgmkohaaDoor
