/-
  A vector in writing: what the document's own Text answers.
  Conditions: the elements are uint32 numbers.
-/
import Derived.Test.YtfmdmifpgmkohaaDoorVwB
namespace Go.Proofs.YtfmdmifpgmkohaaDoor
open Go.RowKit

theorem rdig_val (x : Int) (h0 : 0 ≤ x) (h1 : x ≤ 4294967295) (w : World) :
    Calls Tryd.prog 30 #[.int .u32 x] w fun e w' => e = .returned (.string (digS x.toNat)) ∧ Below w.heap.size w w' := by
  obtain ⟨n, rfl⟩ : ∃ n : Nat, x = n := ⟨x.toNat, by omega⟩
  exact digits_any n w (by omega)
/-- The first k elements in decimal; .. and the comma behind them. -/
def catS (v : Nat → Int) (k : Nat) : ByteArray := ⟨(catT v k).toArray⟩
def midS (v : Nat → Int) (k : Nat) : ByteArray := ⟨(catT v k ++ (if k = 0 then [] else [44])).toArray⟩
theorem catS_len {v : Nat → Int} (hv : ∀ i, i < 8 → 0 ≤ v i ∧ v i ≤ 4294967295) {k : Nat} (hk : k ≤ 8) : (catS v k).size ≤ 88 := by
  have := catT_len hv k hk
  show (catT v k).toArray.size ≤ 88
  simp; omega
theorem cat_comma {v : Nat → Int} (hv : ∀ i, i < 8 → 0 ≤ v i ∧ v i ≤ 4294967295) {k : Nat} (hk : k ≤ 8) (h0 : ¬ k = 0) (W : World) : (Op.stringOp .add (catS v k) ⟨#[44]⟩).run Tryd.prog W = .ok (.string (midS v k)) W := by
  have h1 := catS_len hv hk
  rw [run_string_add_sum W _ _ (by show (catS v k).size + 1 ≤ _; omega)]
  have h2 : catS v k ++ ⟨#[44]⟩ = midS v k := by
    unfold catS midS; rw [if_neg h0]; apply ByteArray.ext; simp
  rw [h2]
theorem mid_zero (v : Nat → Int) : midS v 0 = catS v 0 := by unfold midS catS; simp
theorem mid_digits {v : Nat → Int} (hv : ∀ i, i < 8 → 0 ≤ v i ∧ v i ≤ 4294967295) {k : Nat} (hk : k < 8) (W : World) : (Op.stringOp .add (midS v k) (digS (v k).toNat)).run Tryd.prog W = .ok (.string (catS v (k + 1))) W := by
  have h2 : midS v k ++ digS (v k).toNat = catS v (k + 1) := by
    unfold catS midS digS; rw [catT]; apply ByteArray.ext; simp
  have h1 := catS_len hv (show k + 1 ≤ 8 by omega)
  rw [run_string_add_sum W _ _ (by rw [← ByteArray.size_append, h2]; omega), h2]

set_option maxRecDepth 100000 in
set_option maxHeartbeats 400000 in
theorem rtextV_any (v : Nat → Int) (w : World) (hv : ∀ i, i < 8 → 0 ≤ v i ∧ v i ≤ 4294967295) :
    Calls Tryd.prog 8 #[.agg #[.int .u32 (v 0), .int .u32 (v 1), .int .u32 (v 2), .int .u32 (v 3), .int .u32 (v 4), .int .u32 (v 5), .int .u32 (v 6), .int .u32 (v 7)]] w fun e w' => e = .returned (.string (textV v)) ∧ Below w.heap.size w w' := by
  have hb := (Below.refl w.heap.size w).alloc (Nat.le_refl _) (.cells #[.int .u32 (v 0), .int .u32 (v 1), .int .u32 (v 2), .int .u32 (v 3), .int .u32 (v 4), .int .u32 (v 5), .int .u32 (v 6), .int .u32 (v 7)] 24)
  have HB0 := Lib.hid (Blk.new w #[.int .u32 (v 0), .int .u32 (v 1), .int .u32 (v 2), .int .u32 (v 3), .int .u32 (v 4), .int .u32 (v 5), .int .u32 (v 6), .int .u32 (v 7)] 24)
  have HV := Lib.hid hv; clear hv
  by_cases h0 : lngV v 8 = 0
  · have HR : Hid (textV v = ⟨#[45]⟩) := Lib.hid (by unfold textV; rw [if_pos h0])
    have H0 := Lib.hid h0; clear h0
    go_enter Tryd.func8, Tryd.ntmps8
    go_wp2_with fail
    refine (long_val v 0 _ H0.out).mono ?_
    rintro e w1 ⟨rfl, b1⟩
    have b := below_then hb b1
    clear b1 hb HB0
    go_wp2
    go_ret
    exact ⟨by rw [HR.out]; rfl, b⟩
  · obtain ⟨n, hn⟩ : ∃ n, lngV v 8 = n := ⟨_, rfl⟩
    have hn0 : 0 < n := by omega
    have hn8 : n ≤ 8 := by have := lngV_le v 8; omega
    have HR : Hid (textV v = catS v n) := Lib.hid (by unfold textV catS; rw [if_neg h0, hn])
    have HN := Lib.hid hn; clear hn h0
    have t0 : ((n : Int) == 0) = false := by simp; omega
    go_enter Tryd.func8, Tryd.ntmps8
    go_wp2_with fail
    refine (long_val v n _ HN.out).mono ?_
    rintro e w1 ⟨rfl, b1⟩
    have HB1 := Lib.hid (HB0.out.below b1)
    have hb1 := below_then hb b1
    clear b1 HB0 hb
    go_wp2
    go_loopw [4, 5] (fun s i wr => ∃ k : Nat, k ≤ n ∧ s = .string (catS v k) ∧ i = .int .i64 k ∧ Below w.heap.size w wr ∧ Blk wr w.heap.size #[.int .u32 (v 0), .int .u32 (v 1), .int .u32 (v 2), .int .u32 (v 3), .int .u32 (v 4), .int .u32 (v 5), .int .u32 (v 6), .int .u32 (v 7)] 24) (fun _ i _ => n - (intOf i).toNat)
    case atStart => exact ⟨0, Nat.zero_le _, rfl, rfl, hb1, HB1.out⟩
    case round =>
      obtain ⟨k, hk, rfl, rfl, hbel, hB1⟩ := hrel
      clear HB1 hb1
      have HB := Lib.hid hB1; clear hB1
      by_cases hlt : k < n
      · have hi := vec_cell HB.out k (by omega)
        have hvk := HV.out k (by omega)
        have hmid := mid_digits HV.out (show k < 8 by omega)
        rcases Nat.eq_zero_or_pos k with rfl | hpos
        · rw [mid_zero] at hmid
          go_wp2_with fail
          refine (rdig_val (v 0) hvk.1 hvk.2 _).mono ?_
          rintro e w4 ⟨rfl, b4⟩
          have HB4 := Lib.hid (HB.out.below b4)
          have hbel4 := below_then hbel b4
          clear b4 hi HB hbel
          go_wp2
          go_roundw
          case rel => exact ⟨1, by omega, rfl, by go_num, hbel4, HB4.out⟩
          case measure => simp [intOf]; omega
        · have hcom := cat_comma HV.out (show k ≤ 8 by omega) (by omega)
          go_wp2_with fail
          refine (rdig_val (v k) hvk.1 hvk.2 _).mono ?_
          rintro e w4 ⟨rfl, b4⟩
          have HB4 := Lib.hid (HB.out.below b4)
          have hbel4 := below_then hbel b4
          clear b4 hi HB hbel
          go_wp2
          go_roundw
          case rel => exact ⟨k + 1, by omega, rfl, by go_num, hbel4, HB4.out⟩
          case measure => simp [intOf]; omega
      · obtain rfl : k = n := by omega
        go_wp2
        go_ret
        exact ⟨by rw [HR.out]; rfl, hbel⟩
end Go.Proofs.YtfmdmifpgmkohaaDoor
