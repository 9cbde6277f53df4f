/-
  How long a vector is without the zeros at its end: what package vec's trimmed and the document's long answer.
  Conditions: none.
-/
import Derived.Test.YthbdjgebpjffgaaGreatDoorOctB
import Derived.Test.YthbdjgebpjffgaaGreatDoorVecA
import Derived.Deep.RegionHeld3
set_option linter.unusedVariables false
set_option linter.unusedSimpArgs false
namespace Go.Proofs.YthbdjgebpjffgaaGreatDoor
open Go.RowKit

/-- Of the first k elements: how many are left without the zeros at the end. -/
def lngV (v : Nat → Int) : Nat → Nat
  | 0 => 0
  | k + 1 => if v k = 0 then lngV v k else k + 1
theorem lngV_le (v : Nat → Int) : ∀ k, lngV v k ≤ k
  | 0 => Nat.le_refl _
  | k + 1 => by
    unfold lngV
    split
    · have := lngV_le v k; omega
    · exact Nat.le_refl _
theorem lngV_zero {v : Nat → Int} {k : Nat} (h : v k = 0) : lngV v (k + 1) = lngV v k := by rw [lngV, if_pos h]
theorem lngV_some {v : Nat → Int} {k : Nat} (h : ¬ v k = 0) : lngV v (k + 1) = k + 1 := by rw [lngV, if_neg h]
/-- Behind it all is zero. -/
theorem lngV_behind {v : Nat → Int} : ∀ {k i : Nat}, lngV v k ≤ i → i < k → v i = 0
  | 0, i, _, h => by omega
  | k + 1, i, h, hi => by
    by_cases hz : v k = 0
    · rw [lngV_zero hz] at h
      by_cases e : i = k
      · subst e; exact hz
      · exact lngV_behind h (by omega)
    · rw [lngV_some hz] at h; omega
/-- The last one is not. -/
theorem lngV_last {v : Nat → Int} : ∀ {k : Nat}, 0 < lngV v k → ¬ v (lngV v k - 1) = 0
  | 0, h => by simp [lngV] at h
  | k + 1, h => by
    by_cases hz : v k = 0
    · rw [lngV_zero hz] at h ⊢; exact lngV_last h
    · rw [lngV_some hz]; simpa using hz

set_option maxHeartbeats 400000 in
theorem long_any (v : Nat → Int) (w : World) :
    Calls Tryz.prog 43 #[.agg #[.int .u32 (v 0), .int .u32 (v 1), .int .u32 (v 2), .int .u32 (v 3), .int .u32 (v 4), .int .u32 (v 5), .int .u32 (v 6), .int .u32 (v 7)]] w fun e w' => e = .returned (.int .i64 (lngV v 8 : Int)) ∧ Below w.heap.size w w' := by
  have hb := (Below.refl w.heap.size w).alloc (Nat.le_refl _) (.cells #[.int .u32 (v 0), .int .u32 (v 1), .int .u32 (v 2), .int .u32 (v 3), .int .u32 (v 4), .int .u32 (v 5), .int .u32 (v 6), .int .u32 (v 7)] 24)
  have hB := Lib.hid (Blk.new w #[.int .u32 (v 0), .int .u32 (v 1), .int .u32 (v 2), .int .u32 (v 3), .int .u32 (v 4), .int .u32 (v 5), .int .u32 (v 6), .int .u32 (v 7)] 24)
  go_enter Tryz.func43, Tryz.ntmps43
  go_wp2
  go_loopw [3] (fun i wr => ∃ k : Nat, k ≤ 8 ∧ i = .int .i64 k ∧ lngV v k = lngV v 8 ∧ Below w.heap.size w wr ∧ Blk wr w.heap.size #[.int .u32 (v 0), .int .u32 (v 1), .int .u32 (v 2), .int .u32 (v 3), .int .u32 (v 4), .int .u32 (v 5), .int .u32 (v 6), .int .u32 (v 7)] 24) (fun i _ => (intOf i).toNat)
  case atStart => exact ⟨8, Nat.le_refl _, rfl, rfl, hb, hB.out⟩
  case round =>
    obtain ⟨k, hk, rfl, hv, hbel, hB1⟩ := hrel
    clear hB hb
    have HV := Lib.hid hv; clear hv
    have HB := Lib.hid hB1; clear hB1
    rcases Nat.eq_zero_or_pos k with rfl | hpos
    · go_wp2
      go_ret
      exact ⟨by rw [← HV.out]; rfl, hbel⟩
    · obtain ⟨m, rfl⟩ : ∃ m, k = m + 1 := ⟨k - 1, by omega⟩
      have hi := vec_cell HB.out m (by omega)
      by_cases hz : v m = 0
      · have ht : (v m == 0) = true := by simpa using hz
        have HZ := Lib.hid hz; clear hz
        go_wp2
        go_roundw
        case rel => exact ⟨m, by omega, by go_num, (lngV_zero HZ.out).symm.trans HV.out, hbel, HB.out⟩
        case measure => simp [intOf]
      · have ht : (v m == 0) = false := by simpa using hz
        have HZ := Lib.hid hz; clear hz
        go_wp2
        go_ret
        exact ⟨by rw [← HV.out, lngV_some HZ.out]; rfl, hbel⟩

/-- The first elements, as a slice of a block that holds the vector. -/
theorem trimmed_any (v : Nat → Int) (w : World) :
    Calls Tryz.prog 37 #[.agg #[.int .u32 (v 0), .int .u32 (v 1), .int .u32 (v 2), .int .u32 (v 3), .int .u32 (v 4), .int .u32 (v 5), .int .u32 (v 6), .int .u32 (v 7)]] w fun e w' => e = .returned (.slice (some ⟨w.heap.size, 0, none⟩) (lngV v 8) 8) ∧ Blk w' w.heap.size #[.int .u32 (v 0), .int .u32 (v 1), .int .u32 (v 2), .int .u32 (v 3), .int .u32 (v 4), .int .u32 (v 5), .int .u32 (v 6), .int .u32 (v 7)] 24 ∧ Below w.heap.size w w' := by
  have hb := (Below.refl w.heap.size w).alloc (Nat.le_refl _) (.cells #[.int .u32 (v 0), .int .u32 (v 1), .int .u32 (v 2), .int .u32 (v 3), .int .u32 (v 4), .int .u32 (v 5), .int .u32 (v 6), .int .u32 (v 7)] 24)
  have hB := Lib.hid (Blk.new w #[.int .u32 (v 0), .int .u32 (v 1), .int .u32 (v 2), .int .u32 (v 3), .int .u32 (v 4), .int .u32 (v 5), .int .u32 (v 6), .int .u32 (v 7)] 24)
  have hsl : ∀ n : Nat, n ≤ 8 → ∀ W, (Instr.sliceAt 24 (.pointer (some ⟨w.heap.size, 0, none⟩)) none (some (.int .i64 (n : Int))) none).run Tryz.prog W = .ok (.slice (some ⟨w.heap.size, 0, none⟩) n 8) W := fun n hn W => by
    have hal : Tryz.prog.arrayLen 24 = 8 := by kernel_rfl
    rw [run_sliceAt_array_h W 24 ⟨w.heap.size, 0, none⟩ (by kernel_rfl) .i64 (n : Int) (by omega) (by rw [hal]; omega)]
    go_simp
  have HS := Lib.hid hsl; clear hsl
  go_enter Tryz.func37, Tryz.ntmps37
  go_wp2
  go_loopw [3] (fun i wr => ∃ k : Nat, k ≤ 8 ∧ i = .int .i64 k ∧ lngV v k = lngV v 8 ∧ Below w.heap.size w wr ∧ Blk wr w.heap.size #[.int .u32 (v 0), .int .u32 (v 1), .int .u32 (v 2), .int .u32 (v 3), .int .u32 (v 4), .int .u32 (v 5), .int .u32 (v 6), .int .u32 (v 7)] 24) (fun i _ => (intOf i).toNat)
  case atStart => exact ⟨8, Nat.le_refl _, rfl, rfl, hb, hB.out⟩
  case round =>
    obtain ⟨k, hk, rfl, hv, hbel, hB1⟩ := hrel
    clear hB hb
    have HV := Lib.hid hv; clear hv
    have HB := Lib.hid hB1; clear hB1
    rcases Nat.eq_zero_or_pos k with rfl | hpos
    · have h0 := HS.out 0 (by omega)
      go_wp2
      go_ret
      exact ⟨by rw [← HV.out]; rfl, HB.out, hbel⟩
    · obtain ⟨m, rfl⟩ : ∃ m, k = m + 1 := ⟨k - 1, by omega⟩
      have hi := vec_cell HB.out m (by omega)
      by_cases hz : v m = 0
      · have ht : (v m == 0) = true := by simpa using hz
        have HZ := Lib.hid hz; clear hz
        go_wp2
        go_roundw
        case rel => exact ⟨m, by omega, by go_num, (lngV_zero HZ.out).symm.trans HV.out, hbel, HB.out⟩
        case measure => simp [intOf]
      · have ht : (v m == 0) = false := by simpa using hz
        have HZ := Lib.hid hz; clear hz
        have h0 := HS.out (m + 1) (by omega)
        rw [show ((m + 1 : Nat) : Int) = (m : Int) + 1 by omega] at h0
        go_wp2
        go_ret
        exact ⟨by rw [← HV.out, lngV_some HZ.out]; rfl, HB.out, hbel⟩
end Go.Proofs.YthbdjgebpjffgaaGreatDoor
