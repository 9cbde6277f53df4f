/-
  What Has and Next of package vec, and the document's own Has and Next, answer.
  Conditions: the elements are uint32 numbers.
-/
import Derived.Test.YthbdjgebpjffgaaGreatDoorIdC
import Derived.Test.YthbdjgebpjffgaaGreatDoorVecE
set_option linter.unusedVariables false
set_option linter.unusedSimpArgs false
namespace Go.Proofs.YthbdjgebpjffgaaGreatDoor
open Go.RowKit

/-- Is the name a name, and within? -/
def hasV (v : Nat → Int) (o q : Int) : Bool := decide (chk o q = 0) && decide (q ≤ v o.toNat)
/-- The next name of an origin: the origin, the number, what is wrong. -/
def nextV (v : Nat → Int) (o : Int) : Int × Int × Int :=
  if okV v = true then (if o < 0 ∨ 8 ≤ o then (0, 0, 2) else if v o.toNat = 1048576 then (0, 0, 12) else (o, v o.toNat + 1, 0)) else (0, 0, 2)

theorem chk_zero {o q : Int} (h : chk o q = 0) : (0 ≤ o ∧ o < 8) ∧ 1 ≤ q ∧ q ≤ 1048576 := by
  unfold chk at h; split at h
  · cases h
  · omega
theorem nat_of {o : Int} (h : 0 ≤ o ∧ o < 8) : ∃ k : Nat, k < 8 ∧ o = k := ⟨o.toNat, by omega, by omega⟩
theorem hasV_no {v : Nat → Int} {o q : Int} (h : ¬ chk o q = 0) : hasV v o q = false := by unfold hasV; rw [decide_eq_false h]; rfl
theorem hasV_in {v : Nat → Int} {k : Nat} {q : Int} (h0 : chk k q = 0) : hasV v k q = decide (q ≤ v k) := by
  unfold hasV; rw [Int.toNat_natCast, decide_eq_true h0, Bool.true_and]
theorem nextV_bad {v : Nat → Int} {o : Int} (h : okV v = false) : nextV v o = (0, 0, 2) := by unfold nextV; rw [h]; rfl
theorem nextV_out {v : Nat → Int} {o : Int} (h : okV v = true) (h1 : o < 0 ∨ 8 ≤ o) : nextV v o = (0, 0, 2) := by unfold nextV; rw [if_pos h, if_pos h1]
theorem nextV_full {v : Nat → Int} {k : Nat} (h : okV v = true) (hk : k < 8) (h1 : v k = 1048576) : nextV v k = (0, 0, 12) := by
  unfold nextV; rw [if_pos h, if_neg (by omega), Int.toNat_natCast, if_pos h1]
theorem nextV_yes {v : Nat → Int} {k : Nat} (h : okV v = true) (hk : k < 8) (h1 : ¬ v k = 1048576) : nextV v k = ((k : Int), v k + 1, 0) := by
  unfold nextV; rw [if_pos h, if_neg (by omega), Int.toNat_natCast, if_neg h1]
theorem ret_next {p : Int × Int × Int} {a b c : Int} (h : p = (a, b, c)) : Ending.returned (.tuple #[.agg #[.int .i64 a, .int .u32 b], .int .i64 c]) = .returned (.tuple #[.agg #[.int .i64 p.1, .int .u32 p.2.1], .int .i64 p.2.2]) := by rw [h]

/-- A vector and a name, each in a block of its own. -/
structure VId (w : World) (v : Nat → Int) (o q : Int) (wr : World) : Prop where
  bel : Below w.heap.size w wr
  a : Blk wr w.heap.size #[.int .u32 (v 0), .int .u32 (v 1), .int .u32 (v 2), .int .u32 (v 3), .int .u32 (v 4), .int .u32 (v 5), .int .u32 (v 6), .int .u32 (v 7)] 24
  i : Blk wr (w.heap.size + 1) #[.int .i64 o, .int .u32 q] 83
theorem VId.start (w : World) (v : Nat → Int) (o q : Int) : VId w v o q ((w.alloc (.cells #[.int .u32 (v 0), .int .u32 (v 1), .int .u32 (v 2), .int .u32 (v 3), .int .u32 (v 4), .int .u32 (v 5), .int .u32 (v 6), .int .u32 (v 7)] 24)).alloc (.cells #[.int .i64 o, .int .u32 q] 83)) where
  bel := ((Below.refl w.heap.size w).alloc (Nat.le_refl _) _).alloc (by simp) _
  a := (Blk.new w #[.int .u32 (v 0), .int .u32 (v 1), .int .u32 (v 2), .int .u32 (v 3), .int .u32 (v 4), .int .u32 (v 5), .int .u32 (v 6), .int .u32 (v 7)] 24).alloc _
  i := by
    have := Blk.new (w.alloc (.cells #[.int .u32 (v 0), .int .u32 (v 1), .int .u32 (v 2), .int .u32 (v 3), .int .u32 (v 4), .int .u32 (v 5), .int .u32 (v 6), .int .u32 (v 7)] 24)) #[.int .i64 o, .int .u32 q] 83
    rwa [show (w.alloc (.cells #[.int .u32 (v 0), .int .u32 (v 1), .int .u32 (v 2), .int .u32 (v 3), .int .u32 (v 4), .int .u32 (v 5), .int .u32 (v 6), .int .u32 (v 7)] 24)).heap.size = w.heap.size + 1 by simp] at this
theorem VId.drew {w wr : World} {v : Nat → Int} {o q : Int} (h : VId w v o q wr) : VId w v o q wr.drew := ⟨⟨h.bel.os, h.bel.tape, h.bel.output, h.bel.size, h.bel.block⟩, h.a, h.i⟩
theorem VId.next {w wr w' : World} {v : Nat → Int} {o q : Int} (h : VId w v o q wr) (hb : Below wr.heap.size wr w') : VId w v o q w' := ⟨below_then h.bel hb, h.a.below hb, h.i.below hb⟩
theorem VId.cells {w wr : World} {v : Nat → Int} {o q : Int} (h : VId w v o q wr) : wr.cell? ⟨w.heap.size + 1, 0, none⟩ = some (.int .i64 o) ∧ wr.cell? ⟨w.heap.size + 1, 1, none⟩ = some (.int .u32 q) ∧ VId w v o q wr :=
  ⟨by rw [Blk.cell h.i]; rfl, by rw [Blk.cell h.i]; rfl, h⟩
theorem VId.held {w wr : World} {v : Nat → Int} {o q : Int} {c d : Prop} (h : c ∧ d ∧ VId w v o q wr) : VId w v o q wr := h.2.2
theorem VId.cellsK {w wr : World} {v : Nat → Int} {o q : Int} (k : Nat) (hk : k < 8) (h : VId w v o q wr) : wr.cell? ⟨w.heap.size + 1, 0, none⟩ = some (.int .i64 o) ∧ wr.cell? ⟨w.heap.size + 1, 1, none⟩ = some (.int .u32 q) ∧ wr.cell? ⟨w.heap.size, k, none⟩ = some (.int .u32 (v k)) ∧ VId w v o q wr :=
  ⟨by rw [Blk.cell h.i]; rfl, by rw [Blk.cell h.i]; rfl, vec_cell h.a k hk, h⟩
theorem VId.heldK {w wr : World} {v : Nat → Int} {o q : Int} {c d f : Prop} (h : c ∧ d ∧ f ∧ VId w v o q wr) : VId w v o q wr := h.2.2.2

theorem idCheck_VId {w wr : World} {v : Nat → Int} {o q : Int} (x y : Int) (h : VId w v o q wr) :
    Calls Tryz.prog 60 #[.agg #[.int .i64 x, .int .u32 y]] wr fun e w' => e = .returned (.int .i64 (chk x y)) ∧ VId w v o q w' :=
  (idCheck_any x y wr).mono fun _ _ ⟨h1, h2⟩ => ⟨h1, h.next h2⟩
theorem idCheck_ok {w wr : World} {v : Nat → Int} {o q : Int} (x y : Int) (h0 : chk x y = 0) (h : VId w v o q wr) :
    Calls Tryz.prog 60 #[.agg #[.int .i64 x, .int .u32 y]] wr fun e w' => e = .returned (.int .i64 0) ∧ VId w v o q w' := by
  rw [← h0]; exact idCheck_VId x y h
theorem idCheck_no {w wr : World} {v : Nat → Int} {o q : Int} (x y : Int) (h0 : ¬ chk x y = 0) (h : VId w v o q wr) :
    Calls Tryz.prog 60 #[.agg #[.int .i64 x, .int .u32 y]] wr fun e w' => e = .returned (.int .i64 2) ∧ VId w v o q w' := by
  rw [← chk_two h0]; exact idCheck_VId x y h

theorem ridCheck_VId {w wr : World} {v : Nat → Int} {o q : Int} (x y : Int) (h : VId w v o q wr) :
    Calls Tryz.prog 65 #[.agg #[.int .i64 x, .int .u32 y]] wr fun e w' => e = .returned (.int .i64 (chk x y)) ∧ VId w v o q w' :=
  (ridCheck_any x y wr).mono fun _ _ ⟨h1, h2⟩ => ⟨h1, h.next h2⟩
theorem ridCheck_ok {w wr : World} {v : Nat → Int} {o q : Int} (x y : Int) (h0 : chk x y = 0) (h : VId w v o q wr) :
    Calls Tryz.prog 65 #[.agg #[.int .i64 x, .int .u32 y]] wr fun e w' => e = .returned (.int .i64 0) ∧ VId w v o q w' := by
  rw [← h0]; exact ridCheck_VId x y h
theorem ridCheck_no {w wr : World} {v : Nat → Int} {o q : Int} (x y : Int) (h0 : ¬ chk x y = 0) (h : VId w v o q wr) :
    Calls Tryz.prog 65 #[.agg #[.int .i64 x, .int .u32 y]] wr fun e w' => e = .returned (.int .i64 2) ∧ VId w v o q w' := by
  rw [← chk_two h0]; exact ridCheck_VId x y h

set_option maxHeartbeats 400000 in
theorem has_any (v : Nat → Int) (o q : Int) (w : World) :
    Calls Tryz.prog 73 #[.agg #[.int .u32 (v 0), .int .u32 (v 1), .int .u32 (v 2), .int .u32 (v 3), .int .u32 (v 4), .int .u32 (v 5), .int .u32 (v 6), .int .u32 (v 7)], .agg #[.int .i64 o, .int .u32 q]] w fun e w' => e = .returned (.bool (hasV v o q)) ∧ Below w.heap.size w w' := by
  have hI := VId.start w v o q
  by_cases h0 : chk o q = 0
  · obtain ⟨k, hk, rfl⟩ := nat_of (chk_zero h0).1
    have H0 := Lib.hid h0
    have HC := Lib.hid (hasV_in (v := v) h0)
    clear h0
    have hk0 : (0 : Int) ≤ (k : Int) := by omega
    have hk8 : (k : Int) < 8 := by omega
    go_enter Tryz.func73, Tryz.ntmps73
    go_wp2_with fail
    go_region_held3 (fun w' => w'.cell? ⟨w.heap.size + 1, 0, none⟩ = some (.int .i64 (k : Int)) ∧ w'.cell? ⟨w.heap.size + 1, 1, none⟩ = some (.int .u32 q) ∧ w'.cell? ⟨w.heap.size, k, none⟩ = some (.int .u32 (v k)) ∧ VId w v (k : Int) q w') (first | exact VId.cellsK k hk (by assumption) | exact VId.cellsK k hk (VId.drew (by assumption))) (first | (go_at_call 60; refine (idCheck_ok (w := w) (v := v) (o := (k : Int)) (q := q) _ _ H0.out (by first | assumption | exact VId.heldK (by assumption))).mono ?_; rintro e wa0 ⟨rfl, hJ0⟩))
    all_goals
      go_wp2
      go_ret
      exact ⟨by rw [HC.out]; rfl, VId.bel (by assumption)⟩
  · have HC := Lib.hid (hasV_no (v := v) h0)
    have H0 := Lib.hid h0; clear h0
    go_enter Tryz.func73, Tryz.ntmps73
    go_wp2_with fail
    first | go_region_with (go_at_call 60; refine (idCheck_no (w := w) (v := v) (o := o) (q := q) _ _ H0.out (by first | exact hI.drew | exact hI.drew.drew | assumption)).mono ?_; rintro e wa0 ⟨rfl, hJ0⟩) | fail
    all_goals
      go_wp2
      go_ret
      exact ⟨by rw [HC.out]; rfl, VId.bel (by assumption)⟩


set_option maxHeartbeats 400000 in
theorem rhas_any (v : Nat → Int) (o q : Int) (w : World) :
    Calls Tryz.prog 86 #[.agg #[.int .u32 (v 0), .int .u32 (v 1), .int .u32 (v 2), .int .u32 (v 3), .int .u32 (v 4), .int .u32 (v 5), .int .u32 (v 6), .int .u32 (v 7)], .agg #[.int .i64 o, .int .u32 q]] w fun e w' => e = .returned (.bool (hasV v o q)) ∧ Below w.heap.size w w' := by
  have hI := VId.start w v o q
  by_cases h0 : chk o q = 0
  · obtain ⟨k, hk, rfl⟩ := nat_of (chk_zero h0).1
    have H0 := Lib.hid h0
    have HC := Lib.hid (hasV_in (v := v) h0)
    clear h0
    have hk0 : (0 : Int) ≤ (k : Int) := by omega
    have hk8 : (k : Int) < 8 := by omega
    go_enter Tryz.func86, Tryz.ntmps86
    go_wp2_with fail
    go_region_held3 (fun w' => w'.cell? ⟨w.heap.size + 1, 0, none⟩ = some (.int .i64 (k : Int)) ∧ w'.cell? ⟨w.heap.size + 1, 1, none⟩ = some (.int .u32 q) ∧ w'.cell? ⟨w.heap.size, k, none⟩ = some (.int .u32 (v k)) ∧ VId w v (k : Int) q w') (first | exact VId.cellsK k hk (by assumption) | exact VId.cellsK k hk (VId.drew (by assumption))) (first | (go_at_call 65; refine (ridCheck_ok (w := w) (v := v) (o := (k : Int)) (q := q) _ _ H0.out (by first | assumption | exact VId.heldK (by assumption))).mono ?_; rintro e wa0 ⟨rfl, hJ0⟩))
    all_goals
      go_wp2
      go_ret
      exact ⟨by rw [HC.out]; rfl, VId.bel (by assumption)⟩
  · have HC := Lib.hid (hasV_no (v := v) h0)
    have H0 := Lib.hid h0; clear h0
    go_enter Tryz.func86, Tryz.ntmps86
    go_wp2_with fail
    first | go_region_with (go_at_call 65; refine (ridCheck_no (w := w) (v := v) (o := o) (q := q) _ _ H0.out (by first | exact hI.drew | exact hI.drew.drew | assumption)).mono ?_; rintro e wa0 ⟨rfl, hJ0⟩) | fail
    all_goals
      go_wp2
      go_ret
      exact ⟨by rw [HC.out]; rfl, VId.bel (by assumption)⟩


end Go.Proofs.YthbdjgebpjffgaaGreatDoor
