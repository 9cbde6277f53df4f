/-
  A vector in bytes: what the document's own Write answers.
  Conditions: the elements are uint32 numbers.
-/
import Derived.Test.YtfmdmifpgmkohaaDoorVwA
namespace Go.Proofs.YtfmdmifpgmkohaaDoor
open Go.RowKit

theorem rnum_val (x : Int) (h0 : 0 ≤ x) (h1 : x ≤ 4294967295) (w : World) :
    Calls Tryd.prog 34 #[.int .u64 x] w fun e w' => e = .returned (.string (numS x.toNat)) ∧ Below w.heap.size w w' := by
  obtain ⟨n, rfl⟩ : ∃ n : Nat, x = n := ⟨x.toNat, by omega⟩
  exact rnum_any n w (by omega)
theorem long_val (v : Nat → Int) (n : Nat) (w : World) (hn : lngV v 8 = n) :
    Calls Tryd.prog 29 #[.agg #[.int .u32 (v 0), .int .u32 (v 1), .int .u32 (v 2), .int .u32 (v 3), .int .u32 (v 4), .int .u32 (v 5), .int .u32 (v 6), .int .u32 (v 7)]] w fun e w' => e = .returned (.int .i64 (n : Int)) ∧ Below w.heap.size w w' := by
  subst hn; exact long_any v w
def codeS (v : Nat → Int) (n k : Nat) : ByteArray := ⟨(codeW v n k).toArray⟩
theorem codeS_zero (v : Nat → Int) (n : Nat) : codeS v n 0 = numS n := by unfold codeS codeW cellsW numS; simp
theorem codeS_next (v : Nat → Int) (n k : Nat) : codeS v n k ++ numS (v k).toNat = codeS v n (k + 1) := by
  unfold codeS numS; rw [codeW_next]; apply ByteArray.ext; simp
theorem codeS_add {v : Nat → Int} (hv : ∀ i, i < 8 → 0 ≤ v i ∧ v i ≤ 4294967295) {n k : Nat} (hn : n ≤ 8) (hk : k < 8) (W : World) : (Op.stringOp .add (codeS v n k) (numS (v k).toNat)).run Tryd.prog W = .ok (.string (codeS v n (k + 1))) W := by
  rw [run_string_add_sum W _ _ (by
    have h1 := codeW_len hv hn (show k + 1 ≤ 8 by omega)
    rw [← ByteArray.size_append, codeS_next]
    show (codeW v n (k + 1)).toArray.size ≤ _
    simp; omega), codeS_next]

set_option maxRecDepth 100000 in
set_option maxHeartbeats 400000 in
theorem rwrite_any (v : Nat → Int) (w : World) (hv : ∀ i, i < 8 → 0 ≤ v i ∧ v i ≤ 4294967295) :
    Calls Tryd.prog 10 #[.agg #[.int .u32 (v 0), .int .u32 (v 1), .int .u32 (v 2), .int .u32 (v 3), .int .u32 (v 4), .int .u32 (v 5), .int .u32 (v 6), .int .u32 (v 7)]] w fun e w' => e = .returned (.string (writeV v)) ∧ Below w.heap.size w w' := by
  have hb := (Below.refl w.heap.size w).alloc (Nat.le_refl _) (.cells #[.int .u32 (v 0), .int .u32 (v 1), .int .u32 (v 2), .int .u32 (v 3), .int .u32 (v 4), .int .u32 (v 5), .int .u32 (v 6), .int .u32 (v 7)] 24)
  have HB0 := Lib.hid (Blk.new w #[.int .u32 (v 0), .int .u32 (v 1), .int .u32 (v 2), .int .u32 (v 3), .int .u32 (v 4), .int .u32 (v 5), .int .u32 (v 6), .int .u32 (v 7)] 24)
  have HV := Lib.hid hv; clear hv
  obtain ⟨n, hn⟩ : ∃ n, lngV v 8 = n := ⟨_, rfl⟩
  have hn8 : n ≤ 8 := by have := lngV_le v 8; omega
  have hn63 : (n : Int) ≤ 8 := by omega
  have HR : Hid (writeV v = codeS v n n) := Lib.hid (by unfold writeV codeS; rw [hn])
  have HN := Lib.hid hn; clear hn
  go_enter Tryd.func10, Tryd.ntmps10
  go_wp2_with fail
  refine (long_val v n _ HN.out).mono ?_
  rintro e w1 ⟨rfl, b1⟩
  have HB1 := Lib.hid (HB0.out.below b1)
  have hb1 := below_then hb b1
  clear b1 HB0 hb
  go_wp2_with fail
  refine (rnum_val (n : Int) (by omega) (by omega) _).mono ?_
  rintro e w2 ⟨rfl, b2⟩
  rw [Int.toNat_natCast, ← codeS_zero v n]
  have HB2 := Lib.hid (HB1.out.below b2)
  have hbel2 := below_then hb1 b2
  clear b2 HB1 hb1
  go_wp2
  go_loopw [4, 5] (fun s i wr => ∃ k : Nat, k ≤ n ∧ s = .string (codeS v n k) ∧ i = .int .i64 k ∧ Below w.heap.size w wr ∧ Blk wr w.heap.size #[.int .u32 (v 0), .int .u32 (v 1), .int .u32 (v 2), .int .u32 (v 3), .int .u32 (v 4), .int .u32 (v 5), .int .u32 (v 6), .int .u32 (v 7)] 24) (fun _ i _ => n - (intOf i).toNat)
  case atStart => exact ⟨0, Nat.zero_le _, rfl, rfl, hbel2, HB2.out⟩
  case round =>
    obtain ⟨k, hk, rfl, rfl, hbel, hB1⟩ := hrel
    clear HB2 hbel2
    have HB := Lib.hid hB1; clear hB1
    by_cases hlt : k < n
    · have hi := vec_cell HB.out k (by omega)
      have hvk := HV.out k (by omega)
      have hadd := codeS_add HV.out hn8 (show k < 8 by omega)
      go_wp2_with fail
      refine (rnum_val (v k) hvk.1 hvk.2 _).mono ?_
      rintro e w4 ⟨rfl, b4⟩
      have HB4 := Lib.hid (HB.out.below b4)
      have hbel4 := below_then hbel b4
      clear b4 hi HB hbel
      go_wp2
      go_roundw
      case rel => exact ⟨k + 1, by omega, rfl, by go_num, hbel4, HB4.out⟩
      case measure => simp [intOf]; omega
    · obtain rfl : k = n := by omega
      go_wp2
      go_ret
      exact ⟨by rw [HR.out]; rfl, hbel⟩
end Go.Proofs.YtfmdmifpgmkohaaDoor
