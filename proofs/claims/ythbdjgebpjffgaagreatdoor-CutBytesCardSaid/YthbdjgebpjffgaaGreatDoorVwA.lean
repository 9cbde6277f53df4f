/-
  A vector in bytes: what Write of package vec answers.
  Conditions: the elements are uint32 numbers.
-/
import Derived.Test.YthbdjgebpjffgaaGreatDoorDotX
import Derived.Test.YthbdjgebpjffgaaGreatDoorOctC
import Derived.Test.YthbdjgebpjffgaaGreatDoorVecU
set_option linter.unusedVariables false
set_option linter.unusedSimpArgs false
namespace Go.Proofs.YthbdjgebpjffgaaGreatDoor
open Go.RowKit

theorem trimmed_val (v : Nat → Int) (n : Nat) (w : World) (hn : lngV v 8 = n) :
    Calls Tryz.prog 37 #[.agg #[.int .u32 (v 0), .int .u32 (v 1), .int .u32 (v 2), .int .u32 (v 3), .int .u32 (v 4), .int .u32 (v 5), .int .u32 (v 6), .int .u32 (v 7)]] w fun e w' => e = .returned (.slice (some ⟨w.heap.size, 0, none⟩) n 8) ∧ Blk w' w.heap.size #[.int .u32 (v 0), .int .u32 (v 1), .int .u32 (v 2), .int .u32 (v 3), .int .u32 (v 4), .int .u32 (v 5), .int .u32 (v 6), .int .u32 (v 7)] 24 ∧ Below w.heap.size w w' := by
  subst hn; exact trimmed_any v w

/-- The first k elements in bytes, one after the other. -/
def cellsW (v : Nat → Int) : Nat → List UInt8
  | 0 => []
  | k + 1 => cellsW v k ++ numL (v k).toNat
/-- .. and how many there are before them. -/
def codeW (v : Nat → Int) (n k : Nat) : List UInt8 := numL n ++ cellsW v k
def writeV (v : Nat → Int) : ByteArray := ⟨(codeW v (lngV v 8) (lngV v 8)).toArray⟩
theorem codeW_next (v : Nat → Int) (n k : Nat) : codeW v n (k + 1) = codeW v n k ++ numL (v k).toNat := by
  unfold codeW; rw [cellsW, List.append_assoc]

theorem digs_len8 {n : Nat} (h : n < 4294967296) : (digs n).length ≤ 8 := digs_le8 (by omega)
theorem numL_len9 {n : Nat} (h : n < 4294967296) : (numL n).length ≤ 9 := by
  have := digs_len8 h
  simp only [numL, List.length_cons]; omega
theorem cellsW_len {v : Nat → Int} (hv : ∀ i, i < 8 → 0 ≤ v i ∧ v i ≤ 4294967295) : ∀ k, k ≤ 8 → (cellsW v k).length ≤ 9 * k
  | 0, _ => by simp [cellsW]
  | k + 1, hk => by
    have h1 := cellsW_len hv k (by omega)
    have h2 := numL_len9 (n := (v k).toNat) (by have := hv k (by omega); omega)
    rw [cellsW, List.length_append]; omega
theorem codeW_len {v : Nat → Int} (hv : ∀ i, i < 8 → 0 ≤ v i ∧ v i ≤ 4294967295) {n k : Nat} (hn : n ≤ 8) (hk : k ≤ 8) : (codeW v n k).length ≤ 81 := by
  have h1 := cellsW_len hv k hk
  have h2 := numL_len9 (n := n) (by omega)
  unfold codeW
  rw [List.length_append]; omega

theorem Blk.belowAt {w w' : World} {q b : Nat} {cs : Array Value} {T : TypeId} (h : Blk w q cs T) (k : Below b w w') (hq : q < b) : Blk w' q cs T := (k.block q hq).trans h
theorem wstr_any (b n : Nat) (l : List UInt8) (w : World) (h : Bld w b l) (hl : l.length ≤ 100) (hn : n < 4294967296) (hb : b ≤ w.heap.size) :
    Calls Tryz.prog 33 #[.pointer (some ⟨b, 0, none⟩), .string (numS n)] w fun e w' => e = .returned (.tuple #[.int .i64 (numS n).size, .nilIface]) ∧ Bld w' b (l ++ numL n) ∧ Below b w w' := by
  have hs : (numS n).size ≤ 9 := by rw [numS_size]; have := digs_len8 hn; omega
  refine (Any.Builder_WriteString_k Tryz.lays_Lays_n166 Tryz.builderExtra b b (Lib.byteCells l) (numS n) w h (by rw [Lib.byteCells_length]; omega) hb).mono fun _ _ ⟨h1, h2, h3, _⟩ => ⟨h1, ?_, h3⟩
  rw [Lib.strCells_eq, ← Lib.byteCells_append] at h2
  exact Or.inr h2
theorem num_val (x : Int) (h0 : 0 ≤ x) (h1 : x ≤ 4294967295) (w : World) :
    Calls Tryz.prog 34 #[.int .u64 x] w fun e w' => e = .returned (.string (numS x.toNat)) ∧ Below w.heap.size w w' := by
  obtain ⟨n, rfl⟩ : ∃ n : Nat, x = n := ⟨x.toNat, by omega⟩
  exact num_any n w (by omega)

set_option maxRecDepth 100000 in
set_option maxHeartbeats 400000 in
theorem write_any (v : Nat → Int) (w : World) (hv : ∀ i, i < 8 → 0 ≤ v i ∧ v i ≤ 4294967295) :
    Calls Tryz.prog 18 #[.agg #[.int .u32 (v 0), .int .u32 (v 1), .int .u32 (v 2), .int .u32 (v 3), .int .u32 (v 4), .int .u32 (v 5), .int .u32 (v 6), .int .u32 (v 7)]] w fun e w' => e = .returned (.string (writeV v)) ∧ Below w.heap.size w w' := by
  have hb := (Below.refl w.heap.size w).alloc (Nat.le_refl _) (.cells #[.int .u32 (v 0), .int .u32 (v 1), .int .u32 (v 2), .int .u32 (v 3), .int .u32 (v 4), .int .u32 (v 5), .int .u32 (v 6), .int .u32 (v 7)] 24)
  have hz1 : (w.alloc (.cells #[.int .u32 (v 0), .int .u32 (v 1), .int .u32 (v 2), .int .u32 (v 3), .int .u32 (v 4), .int .u32 (v 5), .int .u32 (v 6), .int .u32 (v 7)] 24)).heap.size = w.heap.size + 1 := by simp
  have HV := Lib.hid hv; clear hv
  obtain ⟨n, hn⟩ : ∃ n, lngV v 8 = n := ⟨_, rfl⟩
  have hn8 : n ≤ 8 := by have := lngV_le v 8; omega
  have HR : Hid (writeV v = ⟨(codeW v n n).toArray⟩) := Lib.hid (by unfold writeV; rw [hn])
  have HN := Lib.hid hn; clear hn
  go_enter Tryz.func18, Tryz.ntmps18
  go_wp2_with fail
  refine (trimmed_val v n _ HN.out).mono ?_
  rintro e w1 ⟨rfl, hb1, bl1⟩
  have b := below_then hb bl1
  rw [hz1] at hb1
  have hl1 := Blk.lt hb1
  have HB1 := Lib.hid (hb1.alloc (.cells #[.pointer none, .slice none 0 0] 77))
  have HW := Lib.hid (Bld.new w1)
  have hbA := below_new b (.cells #[.pointer none, .slice none 0 0] 77)
  have hn63 : (n : Int) ≤ 8 := by omega
  clear hb1 bl1 hz1 b hb
  go_wp2_with fail
  refine (num_val (n : Int) (by omega) (by omega) _).mono ?_
  rintro e w2 ⟨rfl, b2⟩
  rw [Int.toNat_natCast]
  have HB2 := Lib.hid (HB1.out.below b2)
  have HW2 := Lib.hid (HW.out.below b2)
  have hbel2 := below_then hbA b2
  have hs2 := b2.size
  simp at hs2
  clear b2 HB1 HW hbA
  go_wp2_with fail
  refine (wstr_any w1.heap.size n [] _ HW2.out (by simp) (by omega) (by omega)).mono ?_
  rintro e w3 ⟨rfl, hw3, b3⟩
  have HB3 := Lib.hid (Blk.belowAt HB2.out b3 (by omega))
  have HW3 := Lib.hid hw3
  have hbel3 := below_at hbel2 b3 (by omega)
  have hs3 : w1.heap.size < w3.heap.size := Nat.lt_of_lt_of_le (by omega) b3.size
  clear hw3 b3 HB2 HW2 hbel2 hs2
  go_wp2
  go_loopw [16] (fun i wr => ∃ k : Nat, k ≤ n ∧ i = .int .i64 k ∧ Below w.heap.size w wr ∧ Blk wr (w.heap.size + 1) #[.int .u32 (v 0), .int .u32 (v 1), .int .u32 (v 2), .int .u32 (v 3), .int .u32 (v 4), .int .u32 (v 5), .int .u32 (v 6), .int .u32 (v 7)] 24 ∧ Bld wr w1.heap.size (codeW v n k) ∧ w1.heap.size < wr.heap.size) (fun i _ => n - (intOf i).toNat)
  case atStart => exact ⟨0, Nat.zero_le _, rfl, hbel3, HB3.out, by unfold codeW cellsW; simpa using HW3.out, hs3⟩
  case round =>
    obtain ⟨k, hk, rfl, hbel, hB1, hW1, hsr⟩ := hrel
    clear HB3 HW3 hbel3 hs3
    have HB := Lib.hid hB1; clear hB1
    have HW := Lib.hid hW1; clear hW1
    by_cases hlt : k < n
    · have hi := vec_cell HB.out k (by omega)
      have hvk := HV.out k (by omega)
      go_wp2_with fail
      refine (num_val (v k) hvk.1 hvk.2 _).mono ?_
      rintro e w4 ⟨rfl, b4⟩
      have HB4 := Lib.hid (HB.out.below b4)
      have HW4 := Lib.hid (HW.out.below b4)
      have hbel4 := below_then hbel b4
      have hs4 := b4.size
      clear b4 hi HB HW hbel
      go_wp2_with fail
      refine (wstr_any w1.heap.size (v k).toNat _ _ HW4.out (by have := codeW_len HV.out hn8 (show k ≤ 8 by omega); omega) (by omega) (by omega)).mono ?_
      rintro e w5 ⟨rfl, hw5, b5⟩
      have HB5 := Lib.hid (Blk.belowAt HB4.out b5 (by omega))
      have HW5 := Lib.hid hw5
      have hbel5 := below_at hbel4 b5 (by omega)
      have hs5 := b5.size
      clear hw5 b5 HB4 HW4 hbel4
      go_wp2
      go_roundw
      case rel => exact ⟨k + 1, by omega, by go_num, hbel5, HB5.out, by rw [codeW_next]; exact HW5.out, by omega⟩
      case measure => simp [intOf]; omega
    · obtain rfl : k = n := by omega
      go_wp2_with fail
      refine (bstr_any w1.heap.size _ _ HW.out (by omega)).mono ?_
      rintro e w4 ⟨rfl, b4⟩
      have hbel4 := below_at hbel b4 (by omega)
      clear b4 hbel
      go_wp2
      go_ret
      exact ⟨by rw [HR.out]; rfl, hbel4⟩
end Go.Proofs.YthbdjgebpjffgaaGreatDoor

/-
  A vector in bytes: what the document's own Write answers.
  Conditions: the elements are uint32 numbers.
-/

namespace Go.Proofs.YthbdjgebpjffgaaGreatDoor
open Go.RowKit

theorem rnum_val (x : Int) (h0 : 0 ≤ x) (h1 : x ≤ 4294967295) (w : World) :
    Calls Tryz.prog 41 #[.int .u64 x] w fun e w' => e = .returned (.string (numS x.toNat)) ∧ Below w.heap.size w w' := by
  obtain ⟨n, rfl⟩ : ∃ n : Nat, x = n := ⟨x.toNat, by omega⟩
  exact rnum_any n w (by omega)
theorem long_val (v : Nat → Int) (n : Nat) (w : World) (hn : lngV v 8 = n) :
    Calls Tryz.prog 43 #[.agg #[.int .u32 (v 0), .int .u32 (v 1), .int .u32 (v 2), .int .u32 (v 3), .int .u32 (v 4), .int .u32 (v 5), .int .u32 (v 6), .int .u32 (v 7)]] w fun e w' => e = .returned (.int .i64 (n : Int)) ∧ Below w.heap.size w w' := by
  subst hn; exact long_any v w
def codeS (v : Nat → Int) (n k : Nat) : ByteArray := ⟨(codeW v n k).toArray⟩
theorem codeS_zero (v : Nat → Int) (n : Nat) : codeS v n 0 = numS n := by unfold codeS codeW cellsW numS; simp
theorem codeS_next (v : Nat → Int) (n k : Nat) : codeS v n k ++ numS (v k).toNat = codeS v n (k + 1) := by
  unfold codeS numS; rw [codeW_next]; apply ByteArray.ext; simp
theorem codeS_add {v : Nat → Int} (hv : ∀ i, i < 8 → 0 ≤ v i ∧ v i ≤ 4294967295) {n k : Nat} (hn : n ≤ 8) (hk : k < 8) (W : World) : (Op.stringOp .add (codeS v n k) (numS (v k).toNat)).run Tryz.prog W = .ok (.string (codeS v n (k + 1))) W := by
  rw [run_string_add_sum W _ _ (by
    have h1 := codeW_len hv hn (show k + 1 ≤ 8 by omega)
    rw [← ByteArray.size_append, codeS_next]
    show (codeW v n (k + 1)).toArray.size ≤ _
    simp; omega), codeS_next]

set_option maxRecDepth 100000 in
set_option maxHeartbeats 400000 in
theorem rwrite_any (v : Nat → Int) (w : World) (hv : ∀ i, i < 8 → 0 ≤ v i ∧ v i ≤ 4294967295) :
    Calls Tryz.prog 21 #[.agg #[.int .u32 (v 0), .int .u32 (v 1), .int .u32 (v 2), .int .u32 (v 3), .int .u32 (v 4), .int .u32 (v 5), .int .u32 (v 6), .int .u32 (v 7)]] w fun e w' => e = .returned (.string (writeV v)) ∧ Below w.heap.size w w' := by
  have hb := (Below.refl w.heap.size w).alloc (Nat.le_refl _) (.cells #[.int .u32 (v 0), .int .u32 (v 1), .int .u32 (v 2), .int .u32 (v 3), .int .u32 (v 4), .int .u32 (v 5), .int .u32 (v 6), .int .u32 (v 7)] 24)
  have HB0 := Lib.hid (Blk.new w #[.int .u32 (v 0), .int .u32 (v 1), .int .u32 (v 2), .int .u32 (v 3), .int .u32 (v 4), .int .u32 (v 5), .int .u32 (v 6), .int .u32 (v 7)] 24)
  have HV := Lib.hid hv; clear hv
  obtain ⟨n, hn⟩ : ∃ n, lngV v 8 = n := ⟨_, rfl⟩
  have hn8 : n ≤ 8 := by have := lngV_le v 8; omega
  have hn63 : (n : Int) ≤ 8 := by omega
  have HR : Hid (writeV v = codeS v n n) := Lib.hid (by unfold writeV codeS; rw [hn])
  have HN := Lib.hid hn; clear hn
  go_enter Tryz.func21, Tryz.ntmps21
  go_wp2_with fail
  refine (long_val v n _ HN.out).mono ?_
  rintro e w1 ⟨rfl, b1⟩
  have HB1 := Lib.hid (HB0.out.below b1)
  have hb1 := below_then hb b1
  clear b1 HB0 hb
  go_wp2_with fail
  refine (rnum_val (n : Int) (by omega) (by omega) _).mono ?_
  rintro e w2 ⟨rfl, b2⟩
  rw [Int.toNat_natCast, ← codeS_zero v n]
  have HB2 := Lib.hid (HB1.out.below b2)
  have hbel2 := below_then hb1 b2
  clear b2 HB1 hb1
  go_wp2
  go_loopw [4, 5] (fun s i wr => ∃ k : Nat, k ≤ n ∧ s = .string (codeS v n k) ∧ i = .int .i64 k ∧ Below w.heap.size w wr ∧ Blk wr w.heap.size #[.int .u32 (v 0), .int .u32 (v 1), .int .u32 (v 2), .int .u32 (v 3), .int .u32 (v 4), .int .u32 (v 5), .int .u32 (v 6), .int .u32 (v 7)] 24) (fun _ i _ => n - (intOf i).toNat)
  case atStart => exact ⟨0, Nat.zero_le _, rfl, rfl, hbel2, HB2.out⟩
  case round =>
    obtain ⟨k, hk, rfl, rfl, hbel, hB1⟩ := hrel
    clear HB2 hbel2
    have HB := Lib.hid hB1; clear hB1
    by_cases hlt : k < n
    · have hi := vec_cell HB.out k (by omega)
      have hvk := HV.out k (by omega)
      have hadd := codeS_add HV.out hn8 (show k < 8 by omega)
      go_wp2_with fail
      refine (rnum_val (v k) hvk.1 hvk.2 _).mono ?_
      rintro e w4 ⟨rfl, b4⟩
      have HB4 := Lib.hid (HB.out.below b4)
      have hbel4 := below_then hbel b4
      clear b4 hi HB hbel
      go_wp2
      go_roundw
      case rel => exact ⟨k + 1, by omega, rfl, by go_num, hbel4, HB4.out⟩
      case measure => simp [intOf]; omega
    · obtain rfl : k = n := by omega
      go_wp2
      go_ret
      exact ⟨by rw [HR.out]; rfl, hbel⟩
end Go.Proofs.YthbdjgebpjffgaaGreatDoor
