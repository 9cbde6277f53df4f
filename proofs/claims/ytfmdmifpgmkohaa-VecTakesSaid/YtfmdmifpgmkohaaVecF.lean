/-
  The walk of the law VecStands.
  Conditions: none.
-/
import Derived.Test.YtfmdmifpgmkohaaVecE
import Derived.OpenShut
namespace Go.Proofs.Ytfmdmifpgmkohaa
open Go.RowKit

theorem eqV_self (a : Nat → Int) : eqV a a = true := eqV_iff.2 fun _ _ => rfl

section
variable {w wr : World} {a b : Nat → Int}
theorem vCheck_Two (x : Nat → Int) (h : Two w a b wr) :
    Calls Try.prog 5 #[.agg #[.int .u32 (x 0), .int .u32 (x 1), .int .u32 (x 2), .int .u32 (x 3), .int .u32 (x 4), .int .u32 (x 5), .int .u32 (x 6), .int .u32 (x 7)]] wr fun e w' => e = .returned (.int .i64 (chkV x)) ∧ Two w a b w' :=
  (vCheck_any x wr).mono fun _ _ ⟨h1, h2⟩ => ⟨h1, h.next h2⟩
theorem rvCheck_Two (x : Nat → Int) (h : Two w a b wr) :
    Calls Try.prog 6 #[.agg #[.int .u32 (x 0), .int .u32 (x 1), .int .u32 (x 2), .int .u32 (x 3), .int .u32 (x 4), .int .u32 (x 5), .int .u32 (x 6), .int .u32 (x 7)]] wr fun e w' => e = .returned (.int .i64 (chkV x)) ∧ Two w a b w' :=
  (rvCheck_any x wr).mono fun _ _ ⟨h1, h2⟩ => ⟨h1, h.next h2⟩
theorem le_Two (x y : Nat → Int) (h : Two w a b wr) :
    Calls Try.prog 7 #[.agg #[.int .u32 (x 0), .int .u32 (x 1), .int .u32 (x 2), .int .u32 (x 3), .int .u32 (x 4), .int .u32 (x 5), .int .u32 (x 6), .int .u32 (x 7)], .agg #[.int .u32 (y 0), .int .u32 (y 1), .int .u32 (y 2), .int .u32 (y 3), .int .u32 (y 4), .int .u32 (y 5), .int .u32 (y 6), .int .u32 (y 7)]] wr fun e w' => e = .returned (.bool (leV x y)) ∧ Two w a b w' :=
  (le_any x y wr).mono fun _ _ ⟨h1, h2⟩ => ⟨h1, h.next h2⟩
theorem rle_Two (x y : Nat → Int) (h : Two w a b wr) :
    Calls Try.prog 8 #[.agg #[.int .u32 (x 0), .int .u32 (x 1), .int .u32 (x 2), .int .u32 (x 3), .int .u32 (x 4), .int .u32 (x 5), .int .u32 (x 6), .int .u32 (x 7)], .agg #[.int .u32 (y 0), .int .u32 (y 1), .int .u32 (y 2), .int .u32 (y 3), .int .u32 (y 4), .int .u32 (y 5), .int .u32 (y 6), .int .u32 (y 7)]] wr fun e w' => e = .returned (.bool (leV x y)) ∧ Two w a b w' :=
  (rLE_any x y wr).mono fun _ _ ⟨h1, h2⟩ => ⟨h1, h.next h2⟩
theorem rjoin_Two (x y : Nat → Int) (h : Two w a b wr) :
    Calls Try.prog 10 #[.agg #[.int .u32 (x 0), .int .u32 (x 1), .int .u32 (x 2), .int .u32 (x 3), .int .u32 (x 4), .int .u32 (x 5), .int .u32 (x 6), .int .u32 (x 7)], .agg #[.int .u32 (y 0), .int .u32 (y 1), .int .u32 (y 2), .int .u32 (y 3), .int .u32 (y 4), .int .u32 (y 5), .int .u32 (y 6), .int .u32 (y 7)]] wr fun e w' => e = .returned (.agg #[.int .u32 (joinV x y 0), .int .u32 (joinV x y 1), .int .u32 (joinV x y 2), .int .u32 (joinV x y 3), .int .u32 (joinV x y 4), .int .u32 (joinV x y 5), .int .u32 (joinV x y 6), .int .u32 (joinV x y 7)]) ∧ Two w a b w' :=
  (rjoin_any x y wr).mono fun _ _ ⟨h1, h2⟩ => ⟨h1, h.next h2⟩
theorem meet_Two (x y : Nat → Int) (h : Two w a b wr) :
    Calls Try.prog 11 #[.agg #[.int .u32 (x 0), .int .u32 (x 1), .int .u32 (x 2), .int .u32 (x 3), .int .u32 (x 4), .int .u32 (x 5), .int .u32 (x 6), .int .u32 (x 7)], .agg #[.int .u32 (y 0), .int .u32 (y 1), .int .u32 (y 2), .int .u32 (y 3), .int .u32 (y 4), .int .u32 (y 5), .int .u32 (y 6), .int .u32 (y 7)]] wr fun e w' => e = .returned (.agg #[.int .u32 (meetV x y 0), .int .u32 (meetV x y 1), .int .u32 (meetV x y 2), .int .u32 (meetV x y 3), .int .u32 (meetV x y 4), .int .u32 (meetV x y 5), .int .u32 (meetV x y 6), .int .u32 (meetV x y 7)]) ∧ Two w a b w' :=
  (meet_any x y wr).mono fun _ _ ⟨h1, h2⟩ => ⟨h1, h.next h2⟩
theorem rmeet_Two (x y : Nat → Int) (h : Two w a b wr) :
    Calls Try.prog 12 #[.agg #[.int .u32 (x 0), .int .u32 (x 1), .int .u32 (x 2), .int .u32 (x 3), .int .u32 (x 4), .int .u32 (x 5), .int .u32 (x 6), .int .u32 (x 7)], .agg #[.int .u32 (y 0), .int .u32 (y 1), .int .u32 (y 2), .int .u32 (y 3), .int .u32 (y 4), .int .u32 (y 5), .int .u32 (y 6), .int .u32 (y 7)]] wr fun e w' => e = .returned (.agg #[.int .u32 (meetV x y 0), .int .u32 (meetV x y 1), .int .u32 (meetV x y 2), .int .u32 (meetV x y 3), .int .u32 (meetV x y 4), .int .u32 (meetV x y 5), .int .u32 (meetV x y 6), .int .u32 (meetV x y 7)]) ∧ Two w a b w' :=
  (rmeet_any x y wr).mono fun _ _ ⟨h1, h2⟩ => ⟨h1, h.next h2⟩
theorem total_Two (x : Nat → Int) (hx : ∀ i, i < 8 → 0 ≤ x i ∧ x i ≤ 4294967295) (h : Two w a b wr) :
    Calls Try.prog 13 #[.agg #[.int .u32 (x 0), .int .u32 (x 1), .int .u32 (x 2), .int .u32 (x 3), .int .u32 (x 4), .int .u32 (x 5), .int .u32 (x 6), .int .u32 (x 7)]] wr fun e w' => e = .returned (.int .u64 (totV x 8)) ∧ Two w a b w' :=
  (total_any x wr hx).mono fun _ _ ⟨h1, h2⟩ => ⟨h1, h.next h2⟩
theorem rtotal_Two (x : Nat → Int) (hx : ∀ i, i < 8 → 0 ≤ x i ∧ x i ≤ 4294967295) (h : Two w a b wr) :
    Calls Try.prog 14 #[.agg #[.int .u32 (x 0), .int .u32 (x 1), .int .u32 (x 2), .int .u32 (x 3), .int .u32 (x 4), .int .u32 (x 5), .int .u32 (x 6), .int .u32 (x 7)]] wr fun e w' => e = .returned (.int .u64 (totV x 8)) ∧ Two w a b w' :=
  (rtotal_any x wr hx).mono fun _ _ ⟨h1, h2⟩ => ⟨h1, h.next h2⟩
end

set_option maxRecDepth 100000 in
set_option maxHeartbeats 4000000 in
theorem vecStands_core (a b : Nat → Int) (w : World) (ha : ∀ i, i < 8 → 0 ≤ a i ∧ a i ≤ 4294967295) :
    Calls Try.prog 3 #[.agg #[.int .u32 (a 0), .int .u32 (a 1), .int .u32 (a 2), .int .u32 (a 3), .int .u32 (a 4), .int .u32 (a 5), .int .u32 (a 6), .int .u32 (a 7)], .agg #[.int .u32 (b 0), .int .u32 (b 1), .int .u32 (b 2), .int .u32 (b 3), .int .u32 (b 4), .int .u32 (b 5), .int .u32 (b 6), .int .u32 (b 7)]] w fun e w' => e = .returned (.bool true) ∧ Below w.heap.size w w' := by
  have hI := Two.start w a b
  have HA := Lib.hid ha; clear ha
  have hj : ∀ w, (Op.equalIn 10000 24 (.agg #[.int .u32 (joinV a b 0), .int .u32 (joinV a b 1), .int .u32 (joinV a b 2), .int .u32 (joinV a b 3), .int .u32 (joinV a b 4), .int .u32 (joinV a b 5), .int .u32 (joinV a b 6), .int .u32 (joinV a b 7)]) (.agg #[.int .u32 (joinV a b 0), .int .u32 (joinV a b 1), .int .u32 (joinV a b 2), .int .u32 (joinV a b 3), .int .u32 (joinV a b 4), .int .u32 (joinV a b 5), .int .u32 (joinV a b 6), .int .u32 (joinV a b 7)])).run Try.prog w = .ok true w := fun w => by rw [← eqV_self (joinV a b)]; exact eql_vec 9998 (joinV a b) (joinV a b) w
  have hm : ∀ w, (Op.equalIn 10000 24 (.agg #[.int .u32 (meetV a b 0), .int .u32 (meetV a b 1), .int .u32 (meetV a b 2), .int .u32 (meetV a b 3), .int .u32 (meetV a b 4), .int .u32 (meetV a b 5), .int .u32 (meetV a b 6), .int .u32 (meetV a b 7)]) (.agg #[.int .u32 (meetV a b 0), .int .u32 (meetV a b 1), .int .u32 (meetV a b 2), .int .u32 (meetV a b 3), .int .u32 (meetV a b 4), .int .u32 (meetV a b 5), .int .u32 (meetV a b 6), .int .u32 (meetV a b 7)])).run Try.prog w = .ok true w := fun w => by rw [← eqV_self (meetV a b)]; exact eql_vec 9998 (meetV a b) (meetV a b) w
  go_enter Try.func3, Try.ntmps3
  go_wp2_with fail
  go_region_held3 (fun w' => w'.cell? ⟨w.heap.size, 0, none⟩ = some (.int .u32 (a 0)) ∧ w'.cell? ⟨w.heap.size, 1, none⟩ = some (.int .u32 (a 1)) ∧ w'.cell? ⟨w.heap.size, 2, none⟩ = some (.int .u32 (a 2)) ∧ w'.cell? ⟨w.heap.size, 3, none⟩ = some (.int .u32 (a 3)) ∧ w'.cell? ⟨w.heap.size, 4, none⟩ = some (.int .u32 (a 4)) ∧ w'.cell? ⟨w.heap.size, 5, none⟩ = some (.int .u32 (a 5)) ∧ w'.cell? ⟨w.heap.size, 6, none⟩ = some (.int .u32 (a 6)) ∧ w'.cell? ⟨w.heap.size, 7, none⟩ = some (.int .u32 (a 7)) ∧ w'.cell? ⟨w.heap.size + 1, 0, none⟩ = some (.int .u32 (b 0)) ∧ w'.cell? ⟨w.heap.size + 1, 1, none⟩ = some (.int .u32 (b 1)) ∧ w'.cell? ⟨w.heap.size + 1, 2, none⟩ = some (.int .u32 (b 2)) ∧ w'.cell? ⟨w.heap.size + 1, 3, none⟩ = some (.int .u32 (b 3)) ∧ w'.cell? ⟨w.heap.size + 1, 4, none⟩ = some (.int .u32 (b 4)) ∧ w'.cell? ⟨w.heap.size + 1, 5, none⟩ = some (.int .u32 (b 5)) ∧ w'.cell? ⟨w.heap.size + 1, 6, none⟩ = some (.int .u32 (b 6)) ∧ w'.cell? ⟨w.heap.size + 1, 7, none⟩ = some (.int .u32 (b 7)) ∧ Two w a b w') (first | exact Two.cells (by assumption) | exact Two.cells (Two.drew (by assumption))) (first | (go_at_call 5; refine (vCheck_Two (w := w) (a := a) (b := b) _ (by first | assumption | exact Two.held (by assumption))).mono ?_; rintro e wa0 ⟨rfl, hJ0⟩) | (go_at_call 6; refine (rvCheck_Two (w := w) (a := a) (b := b) _ (by first | assumption | exact Two.held (by assumption))).mono ?_; rintro e wa1 ⟨rfl, hJ1⟩) | (go_at_call 7; refine (le_Two (w := w) (a := a) (b := b) _ _ (by first | assumption | exact Two.held (by assumption))).mono ?_; rintro e wa2 ⟨rfl, hJ2⟩) | (go_at_call 8; refine (rle_Two (w := w) (a := a) (b := b) _ _ (by first | assumption | exact Two.held (by assumption))).mono ?_; rintro e wa3 ⟨rfl, hJ3⟩) | (go_at_call 9; refine (join_Two (w := w) (a := a) (b := b) _ _ (by first | assumption | exact Two.held (by assumption))).mono ?_; rintro e wa4 ⟨rfl, hJ4⟩) | (go_at_call 10; refine (rjoin_Two (w := w) (a := a) (b := b) _ _ (by first | assumption | exact Two.held (by assumption))).mono ?_; rintro e wa5 ⟨rfl, hJ5⟩) | (go_at_call 11; refine (meet_Two (w := w) (a := a) (b := b) _ _ (by first | assumption | exact Two.held (by assumption))).mono ?_; rintro e wa6 ⟨rfl, hJ6⟩) | (go_at_call 12; refine (rmeet_Two (w := w) (a := a) (b := b) _ _ (by first | assumption | exact Two.held (by assumption))).mono ?_; rintro e wa7 ⟨rfl, hJ7⟩) | (go_at_call 13; refine (total_Two (w := w) (a := a) (b := b) _ HA.out (by first | assumption | exact Two.held (by assumption))).mono ?_; rintro e wa8 ⟨rfl, hJ8⟩) | (go_at_call 14; refine (rtotal_Two (w := w) (a := a) (b := b) _ HA.out (by first | assumption | exact Two.held (by assumption))).mono ?_; rintro e wa9 ⟨rfl, hJ9⟩))
  all_goals
    go_wp2
    go_ret
    exact ⟨rfl, Two.bel (by assumption)⟩

theorem vec_bounds {a : Nat → Int} (h : ∀ i, i < 8 → (Lit.int .u32 (a i)).wf = true) : ∀ i, i < 8 → 0 ≤ a i ∧ a i ≤ 4294967295 := fun i hi => by
  have := bounds_u32 (h i hi); omega

theorem vecStands_walk (a b : Nat → Int) (w : World) (wa : ∀ i, i < 8 → (Lit.int .u32 (a i)).wf = true) (_ : ∀ i, i < 8 → (Lit.int .u32 (b i)).wf = true) :
    Calls Try.prog 3 #[.agg #[.int .u32 (a 0), .int .u32 (a 1), .int .u32 (a 2), .int .u32 (a 3), .int .u32 (a 4), .int .u32 (a 5), .int .u32 (a 6), .int .u32 (a 7)], .agg #[.int .u32 (b 0), .int .u32 (b 1), .int .u32 (b 2), .int .u32 (b 3), .int .u32 (b 4), .int .u32 (b 5), .int .u32 (b 6), .int .u32 (b 7)]] w fun e w' => e = .returned (.bool true) ∧ Below w.heap.size w w' :=
  vecStands_core a b w (vec_bounds wa)
end Go.Proofs.Ytfmdmifpgmkohaa
