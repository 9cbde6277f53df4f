/-
  The walk of the law IdentTells.
  Conditions: none.
-/
import Derived.Test.YtlahhlcapkhpdaaIdD
import Derived.OpenShut
namespace Go.Proofs.Ytlahhlcapkhpdaa
open Go.RowKit

section
variable {w0 w : World} {o q n o' q' n' : Int}
theorem check_TT (a b : Int) (h : TT w0 o q n o' q' n' w) :
    Calls Try.prog 4 #[.agg #[.int .i64 a, .int .u32 b]] w fun e w' => e = .returned (.int .i64 (chk a b)) ∧ TT w0 o q n o' q' n' w' :=
  (check_any a b w).mono fun _ _ ⟨h1, h2⟩ => ⟨h1, h.next h2⟩
theorem rcheck_TT (a b : Int) (h : TT w0 o q n o' q' n' w) :
    Calls Try.prog 5 #[.agg #[.int .i64 a, .int .u32 b]] w fun e w' => e = .returned (.int .i64 (chk a b)) ∧ TT w0 o q n o' q' n' w' :=
  (rcheck_any a b w).mono fun _ _ ⟨h1, h2⟩ => ⟨h1, h.next h2⟩
theorem checkTag_TT (a b c : Int) (h : TT w0 o q n o' q' n' w) :
    Calls Try.prog 6 #[.agg #[.int .i64 a, .int .u32 b, .int .i64 c]] w fun e w' => e = .returned (.int .i64 (chkT a b c)) ∧ TT w0 o q n o' q' n' w' :=
  (checkTag_any a b c w).mono fun _ _ ⟨h1, h2⟩ => ⟨h1, h.next h2⟩
theorem rcheckTag_TT (a b c : Int) (h : TT w0 o q n o' q' n' w) :
    Calls Try.prog 7 #[.agg #[.int .i64 a, .int .u32 b, .int .i64 c]] w fun e w' => e = .returned (.int .i64 (chkT a b c)) ∧ TT w0 o q n o' q' n' w' :=
  (rcheckTag_any a b c w).mono fun _ _ ⟨h1, h2⟩ => ⟨h1, h.next h2⟩
theorem rcompare_TT (a b c d : Int) (h : TT w0 o q n o' q' n' w) (hb : 0 ≤ b ∧ b ≤ 4294967295) (hd : 0 ≤ d ∧ d ≤ 4294967295) :
    Calls Try.prog 9 #[.agg #[.int .i64 a, .int .u32 b], .agg #[.int .i64 c, .int .u32 d]] w fun e w' => e = .returned (.int .i64 (cmpI a b c d)) ∧ TT w0 o q n o' q' n' w' :=
  (rcompare_any a b c d w hb hd).mono fun _ _ ⟨h1, h2⟩ => ⟨h1, h.next h2⟩
theorem compareTag_TT (a b x c d y : Int) (h : TT w0 o q n o' q' n' w) :
    Calls Try.prog 10 #[.agg #[.int .i64 a, .int .u32 b, .int .i64 x], .agg #[.int .i64 c, .int .u32 d, .int .i64 y]] w fun e w' => e = .returned (.int .i64 (cmpT a b x c d y)) ∧ TT w0 o q n o' q' n' w' :=
  (compareTag_any a b x c d y w).mono fun _ _ ⟨h1, h2⟩ => ⟨h1, h.next h2⟩
theorem rcompareTag_TT (a b x c d y : Int) (h : TT w0 o q n o' q' n' w) (hb : 0 ≤ b ∧ b ≤ 4294967295) (hd : 0 ≤ d ∧ d ≤ 4294967295) :
    Calls Try.prog 11 #[.agg #[.int .i64 a, .int .u32 b, .int .i64 x], .agg #[.int .i64 c, .int .u32 d, .int .i64 y]] w fun e w' => e = .returned (.int .i64 (cmpT a b x c d y)) ∧ TT w0 o q n o' q' n' w' :=
  (rcompareTag_any a b x c d y w hb hd).mono fun _ _ ⟨h1, h2⟩ => ⟨h1, h.next h2⟩
end

set_option maxRecDepth 100000 in
set_option maxHeartbeats 4000000 in
theorem identTells_core (o q n o' q' n' : Int) (w : World) (hq : 0 ≤ q ∧ q ≤ 4294967295) (hq' : 0 ≤ q' ∧ q' ≤ 4294967295) :
    Calls Try.prog 3 #[.agg #[.int .i64 o, .int .u32 q, .int .i64 n], .agg #[.int .i64 o', .int .u32 q', .int .i64 n']] w fun e w' => e = .returned (.bool true) ∧ Below w.heap.size w w' := by
  have hI := TT.start w o q n o' q' n'
  have HQ := Lib.hid hq; have HQ' := Lib.hid hq'
  clear hq hq'
  go_enter Try.func3, Try.ntmps3
  go_wp2_with fail
  go_region_held3 (fun w' => w'.cell? ⟨w.heap.size, 0, none⟩ = some (.int .i64 o) ∧ w'.cell? ⟨w.heap.size, 1, none⟩ = some (.int .u32 q) ∧ w'.cell? ⟨w.heap.size, 2, none⟩ = some (.int .i64 n) ∧ w'.cell? ⟨w.heap.size + 1, 0, none⟩ = some (.int .i64 o') ∧ w'.cell? ⟨w.heap.size + 1, 1, none⟩ = some (.int .u32 q') ∧ w'.cell? ⟨w.heap.size + 1, 2, none⟩ = some (.int .i64 n') ∧ TT w o q n o' q' n' w') (first | exact TT.cells (by assumption) | exact TT.cells (TT.drew (by assumption))) (first | (go_at_call 4; refine (check_TT (w0 := w) (o := o) (q := q) (n := n) (o' := o') (q' := q') (n' := n') _ _ (by first | assumption | exact TT.held (by assumption))).mono ?_; rintro e wa0 ⟨rfl, hJ0⟩) | (go_at_call 5; refine (rcheck_TT (w0 := w) (o := o) (q := q) (n := n) (o' := o') (q' := q') (n' := n') _ _ (by first | assumption | exact TT.held (by assumption))).mono ?_; rintro e wa1 ⟨rfl, hJ1⟩) | (go_at_call 6; refine (checkTag_TT (w0 := w) (o := o) (q := q) (n := n) (o' := o') (q' := q') (n' := n') _ _ _ (by first | assumption | exact TT.held (by assumption))).mono ?_; rintro e wa2 ⟨rfl, hJ2⟩) | (go_at_call 7; refine (rcheckTag_TT (w0 := w) (o := o) (q := q) (n := n) (o' := o') (q' := q') (n' := n') _ _ _ (by first | assumption | exact TT.held (by assumption))).mono ?_; rintro e wa3 ⟨rfl, hJ3⟩) | (go_at_call 8; refine (compare_TT (w0 := w) (o := o) (q := q) (n := n) (o' := o') (q' := q') (n' := n') _ _ _ _ (by first | assumption | exact TT.held (by assumption))).mono ?_; rintro e wa4 ⟨rfl, hJ4⟩) | (go_at_call 9; refine (rcompare_TT (w0 := w) (o := o) (q := q) (n := n) (o' := o') (q' := q') (n' := n') _ _ _ _ (by first | assumption | exact TT.held (by assumption)) HQ.out HQ'.out).mono ?_; rintro e wa5 ⟨rfl, hJ5⟩) | (go_at_call 10; refine (compareTag_TT (w0 := w) (o := o) (q := q) (n := n) (o' := o') (q' := q') (n' := n') _ _ _ _ _ _ (by first | assumption | exact TT.held (by assumption))).mono ?_; rintro e wa6 ⟨rfl, hJ6⟩) | (go_at_call 11; refine (rcompareTag_TT (w0 := w) (o := o) (q := q) (n := n) (o' := o') (q' := q') (n' := n') _ _ _ _ _ _ (by first | assumption | exact TT.held (by assumption)) HQ.out HQ'.out).mono ?_; rintro e wa7 ⟨rfl, hJ7⟩))
  all_goals
    go_wp2
    go_ret
    exact ⟨rfl, TT.bel (by assumption)⟩

theorem identTells_walk (o q n o' q' n' : Int) (w : World) (_ : (Lit.int .i64 o).wf = true) (w1 : (Lit.int .u32 q).wf = true) (_ : (Lit.int .i64 n).wf = true) (_ : (Lit.int .i64 o').wf = true) (w4 : (Lit.int .u32 q').wf = true) (_ : (Lit.int .i64 n').wf = true) :
    Calls Try.prog 3 #[.agg #[.int .i64 o, .int .u32 q, .int .i64 n], .agg #[.int .i64 o', .int .u32 q', .int .i64 n']] w fun e w' => e = .returned (.bool true) ∧ Below w.heap.size w w' := by
  have h1 := bounds_u32 w1
  have h2 := bounds_u32 w4
  exact identTells_core o q n o' q' n' w ⟨by omega, by omega⟩ ⟨by omega, by omega⟩
end Go.Proofs.Ytlahhlcapkhpdaa
