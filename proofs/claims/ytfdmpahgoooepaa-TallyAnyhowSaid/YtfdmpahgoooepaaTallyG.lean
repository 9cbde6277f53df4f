/-
  The examples that each law of tally checks first come out as the document says; and the walk of the law TallyBack.
  Conditions: the numbers fit their kinds.
-/
import Derived.Test.YtfdmpahgoooepaaTallyF
namespace Go.Proofs.Ytfdmpahgoooepaa
open Go.RowKit

theorem below_then {w a b : World} (h : Below w.heap.size w a) (k : Below a.heap.size a b) : Below w.heap.size w b := h.trans (k.mono h.size)
theorem below_new {w a : World} (h : Below w.heap.size w a) (o : Obj) : Below w.heap.size w (a.alloc o) := h.alloc h.size o

theorem ex_add : sumV 0 1048576 1048576 1 = (0, 12) := by decide +kernel
theorem ex_ceil : ceilV 7 3 = (3, 0) := by decide +kernel
theorem ex_times : mulV 3 549755813888 = (0, 12) := by decide +kernel
theorem ex_sum : sumL [1, 2, 3] = (6, 0) := by decide +kernel
theorem ex_plus : sumV (-1125899906842624) 1125899906842624 (-5) 7 = (2, 0) := by decide +kernel

set_option maxHeartbeats 400000 in
theorem works_any (w : World) :
    Calls Try.prog 20 #[] w fun e w' => e = .returned (.bool true) ∧ Below w.heap.size w w' := by
  go_enter Try.func20, Try.ntmps20
  go_wp2_with fail
  refine (add_any 1048576 1 _).mono ?_
  rintro e w1 ⟨rfl, hb1⟩
  rw [ex_add]
  go_wp2_with fail
  refine (ceil_any 7 3 _).mono ?_
  rintro e w2 ⟨rfl, hb2⟩
  rw [ex_ceil]
  go_wp2_with fail
  refine (times_any 3 549755813888 _).mono ?_
  rintro e w3 ⟨rfl, hb3⟩
  rw [ex_times]
  go_wp2_with fail
  refine (sum_any [1, 2, 3] w3.heap.size 0 3 _ (by simp) (by simp) (fun j hj => ?_)).mono ?_
  · match j, hj with
    | 0, _ => simp
    | 1, _ => simp
    | 2, _ => simp
  rintro e w4 ⟨rfl, hb4⟩
  rw [ex_sum]
  go_wp2_with fail
  refine (plus_any (-5) 7 _).mono ?_
  rintro e w5 ⟨rfl, hb5⟩
  rw [ex_plus]
  go_wp2
  go_ret
  exact ⟨rfl, below_then (below_then (below_new (below_then (below_then hb1 hb2) hb3) _) hb4) hb5⟩

/-- What goes so often into a size: that often, and not once fewer. -/
theorem ceil_spec {a b : Int} (h : inB 0 1099511627776 [a, b] = true) (hz : b ≠ 0) : ∃ n, ceilV a b = (n, 0) ∧ 0 ≤ n ∧ n ≤ 1099511627777 ∧ a ≤ n * b ∧ n * b ≤ 2199023255552 ∧ ((n = 0 ∧ a = 0) ∨ (1 ≤ n ∧ 0 ≤ (n - 1) * b ∧ (n - 1) * b < a)) := by
  obtain ⟨⟨h1, h2⟩, h3, h4⟩ := inB_two h
  have hb : 1 ≤ b := by omega
  obtain ⟨d0, d1, d2, d3⟩ := div_bd h1 hb
  have hq : a % b = a - a / b * b := by rw [Int.emod_def, Int.mul_comm]
  have hr := Int.emod_lt_of_pos a (show 0 < b by omega)
  have hr0 := Int.emod_nonneg a hz
  have hv := ceil_yes h hz
  have e1 : (a / b - 1) * b = a / b * b - b := by rw [Int.sub_mul]; omega
  have e2 : (a / b + 1) * b = a / b * b + b := by rw [Int.add_mul]; omega
  have e3 : (a / b + 1 - 1) * b = a / b * b := by rw [Int.add_sub_cancel]
  by_cases hm : a % b = 0
  · rw [if_pos hm] at hv
    refine ⟨a / b, hv, d0, by omega, by omega, by omega, ?_⟩
    by_cases hn : a / b = 0
    · left
      rw [hn] at hq
      exact ⟨hn, by omega⟩
    · right
      have hn1 : 1 ≤ a / b := by omega
      have := Int.mul_nonneg (show 0 ≤ a / b - 1 by omega) (show 0 ≤ b by omega)
      exact ⟨hn1, this, by omega⟩
  · rw [if_neg hm] at hv
    refine ⟨a / b + 1, hv, by omega, by omega, by omega, by omega, .inr ⟨by omega, by omega, by omega⟩⟩

set_option maxHeartbeats 400000 in
theorem tallyBack_walk (a b : Int) (w : World) (_w0 : (Lit.int .i64 a).wf = true) (_w1 : (Lit.int .i64 b).wf = true) :
    Calls Try.prog 8 #[.int .i64 a, .int .i64 b] w fun e w' => e = .returned (.bool true) ∧ Below w.heap.size w w' := by
  by_cases hy : inB 0 1099511627776 [a, b] = true ∧ b ≠ 0
  · obtain ⟨hy, hz⟩ := hy
    obtain ⟨⟨h1, h2⟩, h3, h4⟩ := inB_two hy
    obtain ⟨n, hv, n0, n1, n2, n3, hc⟩ := ceil_spec hy hz
    have HV := Lib.hid hv; clear hv hy hz
    rcases hc with ⟨hn, ha⟩ | ⟨hn, g0, g1⟩
    · subst hn ha
      go_enter Try.func8, Try.ntmps8
      go_wp2_with fail
      refine (works_any _).mono ?_
      rintro e w1 ⟨rfl, hb1⟩
      go_wp2_with fail
      refine (ceil_any 0 b _).mono ?_
      rintro e w2 ⟨rfl, hb2⟩
      rw [HV.out]
      go_wp2
      go_ret
      exact ⟨rfl, below_then hb1 hb2⟩
    · go_enter Try.func8, Try.ntmps8
      go_wp2_with fail
      refine (works_any _).mono ?_
      rintro e w1 ⟨rfl, hb1⟩
      go_wp2_with fail
      refine (ceil_any a b _).mono ?_
      rintro e w2 ⟨rfl, hb2⟩
      rw [HV.out]
      go_wp2
      go_ret
      exact ⟨rfl, below_then hb1 hb2⟩
  · have hv : ceilV a b = (0, 2) := by
      unfold ceilV
      rw [if_neg hy]
    have HV := Lib.hid hv; clear hv hy
    go_enter Try.func8, Try.ntmps8
    go_wp2_with fail
    refine (works_any _).mono ?_
    rintro e w1 ⟨rfl, hb1⟩
    go_wp2_with fail
    refine (ceil_any a b _).mono ?_
    rintro e w2 ⟨rfl, hb2⟩
    rw [HV.out]
    go_wp2
    go_ret
    exact ⟨rfl, below_then hb1 hb2⟩

end Go.Proofs.Ytfdmpahgoooepaa
