/-
  What package ident, and the document's own words, answer about how two names, or two operations' names, stand.
  Conditions: none.
-/
import Derived.Test.YthbdjgebpjffgaaGreatDoorIdC
import Derived.Deep.RegionHeld3
set_option linter.unusedVariables false
set_option linter.unusedSimpArgs false
namespace Go.Proofs.YthbdjgebpjffgaaGreatDoor
open Go.RowKit

theorem compareInt_any (a b : Int) (w : World) :
    Calls Tryz.prog 75 #[.int .i64 a, .int .i64 b] w fun e w' => e = .returned (.int .i64 (cmpZ a b)) ∧ w = w' := by
  by_cases h1 : a < b
  · have HC : Hid (cmpZ a b = -1) := Lib.hid (by unfold cmpZ; rw [if_pos h1])
    go_enter Tryz.func75, Tryz.ntmps75
    go_wp2
    go_ret
    exact ⟨by rw [HC.out]; rfl, rfl⟩
  · by_cases h2 : b < a
    · have HC : Hid (cmpZ a b = 1) := Lib.hid (by unfold cmpZ; rw [if_neg h1, if_pos h2])
      go_enter Tryz.func75, Tryz.ntmps75
      go_wp2
      go_ret
      exact ⟨by rw [HC.out]; rfl, rfl⟩
    · have HC : Hid (cmpZ a b = 0) := Lib.hid (by unfold cmpZ; rw [if_neg h1, if_neg h2])
      go_enter Tryz.func75, Tryz.ntmps75
      go_wp2
      go_ret
      exact ⟨by rw [HC.out]; rfl, rfl⟩

theorem compareU32_any (a b : Int) (w : World) :
    Calls Tryz.prog 76 #[.int .u32 a, .int .u32 b] w fun e w' => e = .returned (.int .i64 (cmpZ a b)) ∧ w = w' := by
  by_cases h1 : a < b
  · have HC : Hid (cmpZ a b = -1) := Lib.hid (by unfold cmpZ; rw [if_pos h1])
    go_enter Tryz.func76, Tryz.ntmps76
    go_wp2
    go_ret
    exact ⟨by rw [HC.out]; rfl, rfl⟩
  · by_cases h2 : b < a
    · have HC : Hid (cmpZ a b = 1) := Lib.hid (by unfold cmpZ; rw [if_neg h1, if_pos h2])
      go_enter Tryz.func76, Tryz.ntmps76
      go_wp2
      go_ret
      exact ⟨by rw [HC.out]; rfl, rfl⟩
    · have HC : Hid (cmpZ a b = 0) := Lib.hid (by unfold cmpZ; rw [if_neg h1, if_neg h2])
      go_enter Tryz.func76, Tryz.ntmps76
      go_wp2
      go_ret
      exact ⟨by rw [HC.out]; rfl, rfl⟩

theorem order_any (a b : Int) (w : World) :
    Calls Tryz.prog 78 #[.int .i64 a, .int .i64 b] w fun e w' => e = .returned (.int .i64 (cmpZ a b)) ∧ w = w' := by
  by_cases h1 : a < b
  · have HC : Hid (cmpZ a b = -1) := Lib.hid (by unfold cmpZ; rw [if_pos h1])
    go_enter Tryz.func78, Tryz.ntmps78
    go_wp2
    go_ret
    exact ⟨by rw [HC.out]; rfl, rfl⟩
  · by_cases h2 : b < a
    · have HC : Hid (cmpZ a b = 1) := Lib.hid (by unfold cmpZ; rw [if_neg h1, if_pos h2])
      go_enter Tryz.func78, Tryz.ntmps78
      go_wp2
      go_ret
      exact ⟨by rw [HC.out]; rfl, rfl⟩
    · have HC : Hid (cmpZ a b = 0) := Lib.hid (by unfold cmpZ; rw [if_neg h1, if_neg h2])
      go_enter Tryz.func78, Tryz.ntmps78
      go_wp2
      go_ret
      exact ⟨by rw [HC.out]; rfl, rfl⟩

/-- The first of two that is not 0. -/
def orZ (x y : Int) : Int := if x = 0 then y else x

/-- cmp.Or at two numbers that lie in a block of their own: the first one that is not 0. -/
theorem or_any (g : Nat) (x y : Int) (w : World) (h : Blk w g #[.int .i64 x, .int .i64 y] 3) :
    Calls Tryz.prog 74 #[.slice (some ⟨g, 0, none⟩) 2 2] w fun e w' => e = .returned (.int .i64 (orZ x y)) ∧ w = w' := by
  have c0 : w.cell? ⟨g, 0, none⟩ = some (.int .i64 x) := by rw [Blk.cell h]; rfl
  have c1 : w.cell? ⟨g, 1, none⟩ = some (.int .i64 y) := by rw [Blk.cell h]; rfl
  clear h
  by_cases h1 : x = 0
  · have HC : Hid (orZ x y = y) := Lib.hid (by unfold orZ; rw [if_pos h1])
    have t1 : (x != 0) = false := by simpa using h1
    by_cases h2 : y = 0
    · have t2 : (y != 0) = false := by simpa using h2
      have HY := Lib.hid h2
      clear h1 h2
      go_enter Tryz.func74, Tryz.ntmps74
      go_wp2
      refine wp_loop_rounds 3 ?_
      rw [rounds_succ]
      go_wp2
      rw [rounds_succ]
      go_wp2
      rw [rounds_succ]
      go_wp2
      go_ret
      exact ⟨by rw [HC.out, HY.out]; rfl, rfl⟩
    · have t2 : (y != 0) = true := by simpa using h2
      clear h1 h2
      go_enter Tryz.func74, Tryz.ntmps74
      go_wp2
      refine wp_loop_rounds 3 ?_
      rw [rounds_succ]
      go_wp2
      rw [rounds_succ]
      go_wp2
      go_ret
      exact ⟨by rw [HC.out]; rfl, rfl⟩
  · have HC : Hid (orZ x y = x) := Lib.hid (by unfold orZ; rw [if_neg h1])
    have t1 : (x != 0) = true := by simpa using h1
    clear h1
    go_enter Tryz.func74, Tryz.ntmps74
    go_wp2
    refine wp_loop_rounds 3 ?_
    rw [rounds_succ]
    go_wp2
    go_ret
    exact ⟨by rw [HC.out]; rfl, rfl⟩

/-- Two names lie in the call's first two blocks; nothing that was has turned. -/
structure II (w0 : World) (o q o' q' : Int) (w : World) : Prop where
  bel : Below w0.heap.size w0 w
  a : Blk w w0.heap.size #[.int .i64 o, .int .u32 q] 83
  b : Blk w (w0.heap.size + 1) #[.int .i64 o', .int .u32 q'] 83
theorem II.start (w : World) (o q o' q' : Int) : II w o q o' q' ((w.alloc (.cells #[.int .i64 o, .int .u32 q] 83)).alloc (.cells #[.int .i64 o', .int .u32 q'] 83)) :=
  ⟨((Below.refl _ _).alloc (Nat.le_refl _) _).alloc (by simp) _, (Blk.new _ _ _).alloc _, by
    have := Blk.new (w.alloc (.cells #[.int .i64 o, .int .u32 q] 83)) #[.int .i64 o', .int .u32 q'] 83
    simpa using this⟩
theorem II.drew {w0 w : World} {o q o' q' : Int} (h : II w0 o q o' q' w) : II w0 o q o' q' w.drew := ⟨⟨h.bel.os, h.bel.tape, h.bel.output, h.bel.size, h.bel.block⟩, h.a, h.b⟩
theorem II.next {w0 w w' : World} {o q o' q' : Int} (h : II w0 o q o' q' w) (b : Below w.heap.size w w') : II w0 o q o' q' w' :=
  ⟨h.bel.trans (b.mono h.bel.size), Blk.below h.a b, Blk.below h.b b⟩
theorem II.alloc {w0 w : World} {o q o' q' : Int} (h : II w0 o q o' q' w) (x : Obj) : II w0 o q o' q' (w.alloc x) := ⟨h.bel.alloc h.bel.size x, h.a.alloc x, h.b.alloc x⟩
theorem II.cells {w0 w : World} {o q o' q' : Int} (h : II w0 o q o' q' w) : w.cell? ⟨w0.heap.size, 0, none⟩ = some (.int .i64 o) ∧ w.cell? ⟨w0.heap.size, 1, none⟩ = some (.int .u32 q) ∧ w.cell? ⟨w0.heap.size + 1, 0, none⟩ = some (.int .i64 o') ∧ w.cell? ⟨w0.heap.size + 1, 1, none⟩ = some (.int .u32 q') ∧ II w0 o q o' q' w :=
  ⟨by rw [Blk.cell h.a]; rfl, by rw [Blk.cell h.a]; rfl, by rw [Blk.cell h.b]; rfl, by rw [Blk.cell h.b]; rfl, h⟩
theorem II.held {A B C D : Prop} {w0 w : World} {o q o' q' : Int} (h : A ∧ B ∧ C ∧ D ∧ II w0 o q o' q' w) : II w0 o q o' q' w := h.2.2.2.2

theorem compareInt_II {w0 w : World} {o q o' q' : Int} (a b : Int) (h : II w0 o q o' q' w) :
    Calls Tryz.prog 75 #[.int .i64 a, .int .i64 b] w fun e w' => e = .returned (.int .i64 (cmpZ a b)) ∧ II w0 o q o' q' w' :=
  (compareInt_any a b w).mono fun _ _ ⟨h1, h2⟩ => ⟨h1, h2 ▸ h⟩
theorem compareU32_II {w0 w : World} {o q o' q' : Int} (a b : Int) (h : II w0 o q o' q' w) :
    Calls Tryz.prog 76 #[.int .u32 a, .int .u32 b] w fun e w' => e = .returned (.int .i64 (cmpZ a b)) ∧ II w0 o q o' q' w' :=
  (compareU32_any a b w).mono fun _ _ ⟨h1, h2⟩ => ⟨h1, h2 ▸ h⟩
theorem or_II {w0 w : World} {o q o' q' : Int} (x y : Int) (h : II w0 o q o' q' w) :
    Calls Tryz.prog 74 #[.slice (some ⟨w.heap.size, 0, none⟩) 2 2] (w.alloc (.cells #[.int .i64 x, .int .i64 y] 3)) fun e w' => e = .returned (.int .i64 (orZ x y)) ∧ II w0 o q o' q' w' :=
  (or_any w.heap.size x y _ (Blk.new _ _ _)).mono fun _ _ ⟨h1, h2⟩ => ⟨h1, h2 ▸ h.alloc _⟩

set_option maxHeartbeats 1000000 in
theorem compare_any (o q o' q' : Int) (w : World) :
    Calls Tryz.prog 58 #[.agg #[.int .i64 o, .int .u32 q], .agg #[.int .i64 o', .int .u32 q']] w fun e w' => e = .returned (.int .i64 (cmpI o q o' q')) ∧ Below w.heap.size w w' := by
  have hI := II.start w o q o' q'
  have HC : Hid (cmpI o q o' q' = orZ (cmpZ o o') (cmpZ q q')) := Lib.hid rfl
  go_enter Tryz.func58, Tryz.ntmps58
  go_wp2_with fail
  go_region_held3 (fun w' => w'.cell? ⟨w.heap.size, 0, none⟩ = some (.int .i64 o) ∧ w'.cell? ⟨w.heap.size, 1, none⟩ = some (.int .u32 q) ∧ w'.cell? ⟨w.heap.size + 1, 0, none⟩ = some (.int .i64 o') ∧ w'.cell? ⟨w.heap.size + 1, 1, none⟩ = some (.int .u32 q') ∧ II w o q o' q' w') (first | exact II.cells (by assumption) | exact II.cells (II.drew (by assumption)) | exact II.cells (II.alloc (by assumption) _) | exact II.cells (II.alloc (II.drew (by assumption)) _) | exact II.cells (II.alloc (II.held (by assumption)) _) | exact II.cells (II.drew (II.held (by assumption)))) (first | (go_at_call 75; refine (compareInt_II (w0 := w) (o := o) (q := q) (o' := o') (q' := q') _ _ (by first | assumption | exact II.held (by assumption))).mono ?_; rintro e w1 ⟨rfl, hJ⟩) | (go_at_call 76; refine (compareU32_II (w0 := w) (o := o) (q := q) (o' := o') (q' := q') _ _ (by first | assumption | exact II.held (by assumption))).mono ?_; rintro e w2 ⟨rfl, hK⟩) | (go_at_call 74; refine (or_II (w0 := w) (o := o) (q := q) (o' := o') (q' := q') _ _ (by first | assumption | exact II.held (by assumption))).mono ?_; rintro e w3 ⟨rfl, hL⟩))
  all_goals
    go_wp2
    go_ret
    exact ⟨by rw [HC.out]; rfl, II.bel (by assumption)⟩

set_option maxHeartbeats 400000 in
theorem rcompare_any (o q o' q' : Int) (w : World) (hq : 0 ≤ q ∧ q ≤ 4294967295) (hq' : 0 ≤ q' ∧ q' ≤ 4294967295) :
    Calls Tryz.prog 62 #[.agg #[.int .i64 o, .int .u32 q], .agg #[.int .i64 o', .int .u32 q']] w fun e w' => e = .returned (.int .i64 (cmpI o q o' q')) ∧ Below w.heap.size w w' := by
  have hb := II.bel (II.start w o q o' q')
  have e1 : IntKind.i64.wrap q = q := by rw [IntKind.wrap_i64]; omega
  have e2 : IntKind.i64.wrap q' = q' := by rw [IntKind.wrap_i64]; omega
  clear hq hq'
  by_cases h : o = o'
  · have HC : Hid (cmpI o q o' q' = cmpZ q q') := Lib.hid (by unfold cmpI; rw [if_pos (cmpZ_zero.2 h)])
    have t : (o != o') = false := by simpa using h
    clear h
    go_enter Tryz.func62, Tryz.ntmps62
    go_wp2_with fail
    refine (order_any q q' _).mono ?_
    rintro e w1 ⟨rfl, rfl⟩
    go_wp2
    go_ret
    exact ⟨by rw [HC.out]; rfl, hb⟩
  · have HC : Hid (cmpI o q o' q' = cmpZ o o') := Lib.hid (by unfold cmpI; rw [if_neg (fun k => h (cmpZ_zero.1 k))])
    have t : (o != o') = true := by simpa using h
    clear h
    go_enter Tryz.func62, Tryz.ntmps62
    go_wp2_with fail
    refine (order_any o o' _).mono ?_
    rintro e w1 ⟨rfl, rfl⟩
    go_wp2
    go_ret
    exact ⟨by rw [HC.out]; rfl, hb⟩

section
variable {w0 w : World} {o q n o' q' n' : Int}
end

end Go.Proofs.YthbdjgebpjffgaaGreatDoor
