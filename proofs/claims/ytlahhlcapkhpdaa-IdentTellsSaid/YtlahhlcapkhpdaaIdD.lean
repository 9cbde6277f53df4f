/-
  What package ident, and the document's own words, answer about how two names, or two operations' names, stand.
  Conditions: none.
-/
import Derived.Test.YtlahhlcapkhpdaaIdC
import Derived.Deep.RegionHeld3
namespace Go.Proofs.Ytlahhlcapkhpdaa
open Go.RowKit

theorem compareInt_any (a b : Int) (w : World) :
    Calls Try.prog 13 #[.int .i64 a, .int .i64 b] w fun e w' => e = .returned (.int .i64 (cmpZ a b)) ∧ w = w' := by
  by_cases h1 : a < b
  · have HC : Hid (cmpZ a b = -1) := Lib.hid (by unfold cmpZ; rw [if_pos h1])
    go_enter Try.func13, Try.ntmps13
    go_wp2
    go_ret
    exact ⟨by rw [HC.out]; rfl, rfl⟩
  · by_cases h2 : b < a
    · have HC : Hid (cmpZ a b = 1) := Lib.hid (by unfold cmpZ; rw [if_neg h1, if_pos h2])
      go_enter Try.func13, Try.ntmps13
      go_wp2
      go_ret
      exact ⟨by rw [HC.out]; rfl, rfl⟩
    · have HC : Hid (cmpZ a b = 0) := Lib.hid (by unfold cmpZ; rw [if_neg h1, if_neg h2])
      go_enter Try.func13, Try.ntmps13
      go_wp2
      go_ret
      exact ⟨by rw [HC.out]; rfl, rfl⟩

theorem compareU32_any (a b : Int) (w : World) :
    Calls Try.prog 14 #[.int .u32 a, .int .u32 b] w fun e w' => e = .returned (.int .i64 (cmpZ a b)) ∧ w = w' := by
  by_cases h1 : a < b
  · have HC : Hid (cmpZ a b = -1) := Lib.hid (by unfold cmpZ; rw [if_pos h1])
    go_enter Try.func14, Try.ntmps14
    go_wp2
    go_ret
    exact ⟨by rw [HC.out]; rfl, rfl⟩
  · by_cases h2 : b < a
    · have HC : Hid (cmpZ a b = 1) := Lib.hid (by unfold cmpZ; rw [if_neg h1, if_pos h2])
      go_enter Try.func14, Try.ntmps14
      go_wp2
      go_ret
      exact ⟨by rw [HC.out]; rfl, rfl⟩
    · have HC : Hid (cmpZ a b = 0) := Lib.hid (by unfold cmpZ; rw [if_neg h1, if_neg h2])
      go_enter Try.func14, Try.ntmps14
      go_wp2
      go_ret
      exact ⟨by rw [HC.out]; rfl, rfl⟩

theorem order_any (a b : Int) (w : World) :
    Calls Try.prog 15 #[.int .i64 a, .int .i64 b] w fun e w' => e = .returned (.int .i64 (cmpZ a b)) ∧ w = w' := by
  by_cases h1 : a < b
  · have HC : Hid (cmpZ a b = -1) := Lib.hid (by unfold cmpZ; rw [if_pos h1])
    go_enter Try.func15, Try.ntmps15
    go_wp2
    go_ret
    exact ⟨by rw [HC.out]; rfl, rfl⟩
  · by_cases h2 : b < a
    · have HC : Hid (cmpZ a b = 1) := Lib.hid (by unfold cmpZ; rw [if_neg h1, if_pos h2])
      go_enter Try.func15, Try.ntmps15
      go_wp2
      go_ret
      exact ⟨by rw [HC.out]; rfl, rfl⟩
    · have HC : Hid (cmpZ a b = 0) := Lib.hid (by unfold cmpZ; rw [if_neg h1, if_neg h2])
      go_enter Try.func15, Try.ntmps15
      go_wp2
      go_ret
      exact ⟨by rw [HC.out]; rfl, rfl⟩

/-- The first of two that is not 0. -/
def orZ (x y : Int) : Int := if x = 0 then y else x

/-- cmp.Or at two numbers that lie in a block of their own: the first one that is not 0. -/
theorem or_any (g : Nat) (x y : Int) (w : World) (h : Blk w g #[.int .i64 x, .int .i64 y] 3) :
    Calls Try.prog 12 #[.slice (some ⟨g, 0, none⟩) 2 2] w fun e w' => e = .returned (.int .i64 (orZ x y)) ∧ w = w' := by
  have c0 : w.cell? ⟨g, 0, none⟩ = some (.int .i64 x) := by rw [Blk.cell h]; rfl
  have c1 : w.cell? ⟨g, 1, none⟩ = some (.int .i64 y) := by rw [Blk.cell h]; rfl
  clear h
  by_cases h1 : x = 0
  · have HC : Hid (orZ x y = y) := Lib.hid (by unfold orZ; rw [if_pos h1])
    have t1 : (x != 0) = false := by simpa using h1
    by_cases h2 : y = 0
    · have t2 : (y != 0) = false := by simpa using h2
      have HY := Lib.hid h2
      clear h1 h2
      go_enter Try.func12, Try.ntmps12
      go_wp2
      refine wp_loop_rounds 3 ?_
      rw [rounds_succ]
      go_wp2
      rw [rounds_succ]
      go_wp2
      rw [rounds_succ]
      go_wp2
      go_ret
      exact ⟨by rw [HC.out, HY.out]; rfl, rfl⟩
    · have t2 : (y != 0) = true := by simpa using h2
      clear h1 h2
      go_enter Try.func12, Try.ntmps12
      go_wp2
      refine wp_loop_rounds 3 ?_
      rw [rounds_succ]
      go_wp2
      rw [rounds_succ]
      go_wp2
      go_ret
      exact ⟨by rw [HC.out]; rfl, rfl⟩
  · have HC : Hid (orZ x y = x) := Lib.hid (by unfold orZ; rw [if_neg h1])
    have t1 : (x != 0) = true := by simpa using h1
    clear h1
    go_enter Try.func12, Try.ntmps12
    go_wp2
    refine wp_loop_rounds 3 ?_
    rw [rounds_succ]
    go_wp2
    go_ret
    exact ⟨by rw [HC.out]; rfl, rfl⟩

/-- Two names lie in the call's first two blocks; nothing that was has turned. -/
structure II (w0 : World) (o q o' q' : Int) (w : World) : Prop where
  bel : Below w0.heap.size w0 w
  a : Blk w w0.heap.size #[.int .i64 o, .int .u32 q] 24
  b : Blk w (w0.heap.size + 1) #[.int .i64 o', .int .u32 q'] 24
theorem II.start (w : World) (o q o' q' : Int) : II w o q o' q' ((w.alloc (.cells #[.int .i64 o, .int .u32 q] 24)).alloc (.cells #[.int .i64 o', .int .u32 q'] 24)) :=
  ⟨((Below.refl _ _).alloc (Nat.le_refl _) _).alloc (by simp) _, (Blk.new _ _ _).alloc _, by
    have := Blk.new (w.alloc (.cells #[.int .i64 o, .int .u32 q] 24)) #[.int .i64 o', .int .u32 q'] 24
    simpa using this⟩
theorem II.drew {w0 w : World} {o q o' q' : Int} (h : II w0 o q o' q' w) : II w0 o q o' q' w.drew := ⟨⟨h.bel.os, h.bel.tape, h.bel.output, h.bel.size, h.bel.block⟩, h.a, h.b⟩
theorem II.next {w0 w w' : World} {o q o' q' : Int} (h : II w0 o q o' q' w) (b : Below w.heap.size w w') : II w0 o q o' q' w' :=
  ⟨h.bel.trans (b.mono h.bel.size), Blk.below h.a b, Blk.below h.b b⟩
theorem II.alloc {w0 w : World} {o q o' q' : Int} (h : II w0 o q o' q' w) (x : Obj) : II w0 o q o' q' (w.alloc x) := ⟨h.bel.alloc h.bel.size x, h.a.alloc x, h.b.alloc x⟩
theorem II.cells {w0 w : World} {o q o' q' : Int} (h : II w0 o q o' q' w) : w.cell? ⟨w0.heap.size, 0, none⟩ = some (.int .i64 o) ∧ w.cell? ⟨w0.heap.size, 1, none⟩ = some (.int .u32 q) ∧ w.cell? ⟨w0.heap.size + 1, 0, none⟩ = some (.int .i64 o') ∧ w.cell? ⟨w0.heap.size + 1, 1, none⟩ = some (.int .u32 q') ∧ II w0 o q o' q' w :=
  ⟨by rw [Blk.cell h.a]; rfl, by rw [Blk.cell h.a]; rfl, by rw [Blk.cell h.b]; rfl, by rw [Blk.cell h.b]; rfl, h⟩
theorem II.held {A B C D : Prop} {w0 w : World} {o q o' q' : Int} (h : A ∧ B ∧ C ∧ D ∧ II w0 o q o' q' w) : II w0 o q o' q' w := h.2.2.2.2

theorem compareInt_II {w0 w : World} {o q o' q' : Int} (a b : Int) (h : II w0 o q o' q' w) :
    Calls Try.prog 13 #[.int .i64 a, .int .i64 b] w fun e w' => e = .returned (.int .i64 (cmpZ a b)) ∧ II w0 o q o' q' w' :=
  (compareInt_any a b w).mono fun _ _ ⟨h1, h2⟩ => ⟨h1, h2 ▸ h⟩
theorem compareU32_II {w0 w : World} {o q o' q' : Int} (a b : Int) (h : II w0 o q o' q' w) :
    Calls Try.prog 14 #[.int .u32 a, .int .u32 b] w fun e w' => e = .returned (.int .i64 (cmpZ a b)) ∧ II w0 o q o' q' w' :=
  (compareU32_any a b w).mono fun _ _ ⟨h1, h2⟩ => ⟨h1, h2 ▸ h⟩
theorem or_II {w0 w : World} {o q o' q' : Int} (x y : Int) (h : II w0 o q o' q' w) :
    Calls Try.prog 12 #[.slice (some ⟨w.heap.size, 0, none⟩) 2 2] (w.alloc (.cells #[.int .i64 x, .int .i64 y] 3)) fun e w' => e = .returned (.int .i64 (orZ x y)) ∧ II w0 o q o' q' w' :=
  (or_any w.heap.size x y _ (Blk.new _ _ _)).mono fun _ _ ⟨h1, h2⟩ => ⟨h1, h2 ▸ h.alloc _⟩

set_option maxHeartbeats 1000000 in
theorem compare_any (o q o' q' : Int) (w : World) :
    Calls Try.prog 8 #[.agg #[.int .i64 o, .int .u32 q], .agg #[.int .i64 o', .int .u32 q']] w fun e w' => e = .returned (.int .i64 (cmpI o q o' q')) ∧ Below w.heap.size w w' := by
  have hI := II.start w o q o' q'
  have HC : Hid (cmpI o q o' q' = orZ (cmpZ o o') (cmpZ q q')) := Lib.hid rfl
  go_enter Try.func8, Try.ntmps8
  go_wp2_with fail
  go_region_held3 (fun w' => w'.cell? ⟨w.heap.size, 0, none⟩ = some (.int .i64 o) ∧ w'.cell? ⟨w.heap.size, 1, none⟩ = some (.int .u32 q) ∧ w'.cell? ⟨w.heap.size + 1, 0, none⟩ = some (.int .i64 o') ∧ w'.cell? ⟨w.heap.size + 1, 1, none⟩ = some (.int .u32 q') ∧ II w o q o' q' w') (first | exact II.cells (by assumption) | exact II.cells (II.drew (by assumption)) | exact II.cells (II.alloc (by assumption) _) | exact II.cells (II.alloc (II.drew (by assumption)) _) | exact II.cells (II.alloc (II.held (by assumption)) _) | exact II.cells (II.drew (II.held (by assumption)))) (first | (go_at_call 13; refine (compareInt_II (w0 := w) (o := o) (q := q) (o' := o') (q' := q') _ _ (by first | assumption | exact II.held (by assumption))).mono ?_; rintro e w1 ⟨rfl, hJ⟩) | (go_at_call 14; refine (compareU32_II (w0 := w) (o := o) (q := q) (o' := o') (q' := q') _ _ (by first | assumption | exact II.held (by assumption))).mono ?_; rintro e w2 ⟨rfl, hK⟩) | (go_at_call 12; refine (or_II (w0 := w) (o := o) (q := q) (o' := o') (q' := q') _ _ (by first | assumption | exact II.held (by assumption))).mono ?_; rintro e w3 ⟨rfl, hL⟩))
  all_goals
    go_wp2
    go_ret
    exact ⟨by rw [HC.out]; rfl, II.bel (by assumption)⟩

set_option maxHeartbeats 400000 in
theorem rcompare_any (o q o' q' : Int) (w : World) (hq : 0 ≤ q ∧ q ≤ 4294967295) (hq' : 0 ≤ q' ∧ q' ≤ 4294967295) :
    Calls Try.prog 9 #[.agg #[.int .i64 o, .int .u32 q], .agg #[.int .i64 o', .int .u32 q']] w fun e w' => e = .returned (.int .i64 (cmpI o q o' q')) ∧ Below w.heap.size w w' := by
  have hb := II.bel (II.start w o q o' q')
  have e1 : IntKind.i64.wrap q = q := by rw [IntKind.wrap_i64]; omega
  have e2 : IntKind.i64.wrap q' = q' := by rw [IntKind.wrap_i64]; omega
  clear hq hq'
  by_cases h : o = o'
  · have HC : Hid (cmpI o q o' q' = cmpZ q q') := Lib.hid (by unfold cmpI; rw [if_pos (cmpZ_zero.2 h)])
    have t : (o != o') = false := by simpa using h
    clear h
    go_enter Try.func9, Try.ntmps9
    go_wp2_with fail
    refine (order_any q q' _).mono ?_
    rintro e w1 ⟨rfl, rfl⟩
    go_wp2
    go_ret
    exact ⟨by rw [HC.out]; rfl, hb⟩
  · have HC : Hid (cmpI o q o' q' = cmpZ o o') := Lib.hid (by unfold cmpI; rw [if_neg (fun k => h (cmpZ_zero.1 k))])
    have t : (o != o') = true := by simpa using h
    clear h
    go_enter Try.func9, Try.ntmps9
    go_wp2_with fail
    refine (order_any o o' _).mono ?_
    rintro e w1 ⟨rfl, rfl⟩
    go_wp2
    go_ret
    exact ⟨by rw [HC.out]; rfl, hb⟩

/-- Two operations' names lie in the call's first two blocks; nothing that was has turned. -/
structure TT (w0 : World) (o q n o' q' n' : Int) (w : World) : Prop where
  bel : Below w0.heap.size w0 w
  a : Blk w w0.heap.size #[.int .i64 o, .int .u32 q, .int .i64 n] 26
  b : Blk w (w0.heap.size + 1) #[.int .i64 o', .int .u32 q', .int .i64 n'] 26
section
variable {w0 w : World} {o q n o' q' n' : Int}
theorem TT.start (w : World) (o q n o' q' n' : Int) : TT w o q n o' q' n' ((w.alloc (.cells #[.int .i64 o, .int .u32 q, .int .i64 n] 26)).alloc (.cells #[.int .i64 o', .int .u32 q', .int .i64 n'] 26)) :=
  ⟨((Below.refl _ _).alloc (Nat.le_refl _) _).alloc (by simp) _, (Blk.new _ _ _).alloc _, by
    have := Blk.new (w.alloc (.cells #[.int .i64 o, .int .u32 q, .int .i64 n] 26)) #[.int .i64 o', .int .u32 q', .int .i64 n'] 26
    simpa using this⟩
theorem TT.drew (h : TT w0 o q n o' q' n' w) : TT w0 o q n o' q' n' w.drew := ⟨⟨h.bel.os, h.bel.tape, h.bel.output, h.bel.size, h.bel.block⟩, h.a, h.b⟩
theorem TT.next {w' : World} (h : TT w0 o q n o' q' n' w) (b : Below w.heap.size w w') : TT w0 o q n o' q' n' w' :=
  ⟨h.bel.trans (b.mono h.bel.size), Blk.below h.a b, Blk.below h.b b⟩
theorem TT.alloc (h : TT w0 o q n o' q' n' w) (x : Obj) : TT w0 o q n o' q' n' (w.alloc x) := ⟨h.bel.alloc h.bel.size x, h.a.alloc x, h.b.alloc x⟩
theorem TT.cells (h : TT w0 o q n o' q' n' w) : w.cell? ⟨w0.heap.size, 0, none⟩ = some (.int .i64 o) ∧ w.cell? ⟨w0.heap.size, 1, none⟩ = some (.int .u32 q) ∧ w.cell? ⟨w0.heap.size, 2, none⟩ = some (.int .i64 n) ∧ w.cell? ⟨w0.heap.size + 1, 0, none⟩ = some (.int .i64 o') ∧ w.cell? ⟨w0.heap.size + 1, 1, none⟩ = some (.int .u32 q') ∧ w.cell? ⟨w0.heap.size + 1, 2, none⟩ = some (.int .i64 n') ∧ TT w0 o q n o' q' n' w :=
  ⟨by rw [Blk.cell h.a]; rfl, by rw [Blk.cell h.a]; rfl, by rw [Blk.cell h.a]; rfl, by rw [Blk.cell h.b]; rfl, by rw [Blk.cell h.b]; rfl, by rw [Blk.cell h.b]; rfl, h⟩
theorem TT.held {A B C D E F : Prop} (h : A ∧ B ∧ C ∧ D ∧ E ∧ F ∧ TT w0 o q n o' q' n' w) : TT w0 o q n o' q' n' w := h.2.2.2.2.2.2
theorem compareInt_TT (a b : Int) (h : TT w0 o q n o' q' n' w) :
    Calls Try.prog 13 #[.int .i64 a, .int .i64 b] w fun e w' => e = .returned (.int .i64 (cmpZ a b)) ∧ TT w0 o q n o' q' n' w' :=
  (compareInt_any a b w).mono fun _ _ ⟨h1, h2⟩ => ⟨h1, h2 ▸ h⟩
theorem compare_TT (a b c d : Int) (h : TT w0 o q n o' q' n' w) :
    Calls Try.prog 8 #[.agg #[.int .i64 a, .int .u32 b], .agg #[.int .i64 c, .int .u32 d]] w fun e w' => e = .returned (.int .i64 (cmpI a b c d)) ∧ TT w0 o q n o' q' n' w' :=
  (compare_any a b c d w).mono fun _ _ ⟨h1, h2⟩ => ⟨h1, h.next h2⟩
theorem or_TT (x y : Int) (h : TT w0 o q n o' q' n' w) :
    Calls Try.prog 12 #[.slice (some ⟨w.heap.size, 0, none⟩) 2 2] (w.alloc (.cells #[.int .i64 x, .int .i64 y] 3)) fun e w' => e = .returned (.int .i64 (orZ x y)) ∧ TT w0 o q n o' q' n' w' :=
  (or_any w.heap.size x y _ (Blk.new _ _ _)).mono fun _ _ ⟨h1, h2⟩ => ⟨h1, h2 ▸ h.alloc _⟩
end

set_option maxHeartbeats 1000000 in
theorem compareTag_any (o q n o' q' n' : Int) (w : World) :
    Calls Try.prog 10 #[.agg #[.int .i64 o, .int .u32 q, .int .i64 n], .agg #[.int .i64 o', .int .u32 q', .int .i64 n']] w fun e w' => e = .returned (.int .i64 (cmpT o q n o' q' n')) ∧ Below w.heap.size w w' := by
  have hI := TT.start w o q n o' q' n'
  have HC : Hid (cmpT o q n o' q' n' = orZ (cmpI o q o' q') (cmpZ n n')) := Lib.hid rfl
  go_enter Try.func10, Try.ntmps10
  go_wp2_with fail
  go_region_held3 (fun w' => w'.cell? ⟨w.heap.size, 0, none⟩ = some (.int .i64 o) ∧ w'.cell? ⟨w.heap.size, 1, none⟩ = some (.int .u32 q) ∧ w'.cell? ⟨w.heap.size, 2, none⟩ = some (.int .i64 n) ∧ w'.cell? ⟨w.heap.size + 1, 0, none⟩ = some (.int .i64 o') ∧ w'.cell? ⟨w.heap.size + 1, 1, none⟩ = some (.int .u32 q') ∧ w'.cell? ⟨w.heap.size + 1, 2, none⟩ = some (.int .i64 n') ∧ TT w o q n o' q' n' w') (first | exact TT.cells (by assumption) | exact TT.cells (TT.drew (by assumption)) | exact TT.cells (TT.alloc (by assumption) _) | exact TT.cells (TT.alloc (TT.drew (by assumption)) _) | exact TT.cells (TT.alloc (TT.held (by assumption)) _) | exact TT.cells (TT.drew (TT.held (by assumption)))) (first | (go_at_call 13; refine (compareInt_TT (w0 := w) (o := o) (q := q) (n := n) (o' := o') (q' := q') (n' := n') _ _ (by first | assumption | exact TT.held (by assumption))).mono ?_; rintro e w1 ⟨rfl, hJ⟩) | (go_at_call 8; refine (compare_TT (w0 := w) (o := o) (q := q) (n := n) (o' := o') (q' := q') (n' := n') _ _ _ _ (by first | assumption | exact TT.held (by assumption))).mono ?_; rintro e w2 ⟨rfl, hK⟩) | (go_at_call 12; refine (or_TT (w0 := w) (o := o) (q := q) (n := n) (o' := o') (q' := q') (n' := n') _ _ (by first | assumption | exact TT.held (by assumption))).mono ?_; rintro e w3 ⟨rfl, hL⟩))
  all_goals
    go_wp2
    go_ret
    exact ⟨by rw [HC.out]; rfl, TT.bel (by assumption)⟩

set_option maxHeartbeats 400000 in
theorem rcompareTag_any (o q n o' q' n' : Int) (w : World) (hq : 0 ≤ q ∧ q ≤ 4294967295) (hq' : 0 ≤ q' ∧ q' ≤ 4294967295) :
    Calls Try.prog 11 #[.agg #[.int .i64 o, .int .u32 q, .int .i64 n], .agg #[.int .i64 o', .int .u32 q', .int .i64 n']] w fun e w' => e = .returned (.int .i64 (cmpT o q n o' q' n')) ∧ Below w.heap.size w w' := by
  have hb := TT.bel (TT.start w o q n o' q' n')
  have HQ := Lib.hid hq; have HQ' := Lib.hid hq'
  clear hq hq'
  by_cases h1 : o = o'
  · by_cases h2 : q = q'
    · have HC : Hid (cmpT o q n o' q' n' = cmpZ n n') := Lib.hid (by unfold cmpT; rw [if_pos (cmpI_zero.2 ⟨h1, h2⟩)])
      subst h1
      subst h2
      go_enter Try.func11, Try.ntmps11
      go_wp2_with fail
      refine (order_any n n' _).mono ?_
      rintro e w1 ⟨rfl, rfl⟩
      go_wp2
      go_ret
      exact ⟨by rw [HC.out]; rfl, hb⟩
    · have HC : Hid (cmpT o q n o' q' n' = cmpI o q o' q') := Lib.hid (by unfold cmpT; rw [if_neg (fun k => h2 (cmpI_zero.1 k).2)])
      subst h1
      go_enter Try.func11, Try.ntmps11
      go_wp2_with fail
      refine (rcompare_any o q o q' _ HQ.out HQ'.out).mono ?_
      rintro e w1 ⟨rfl, b1⟩
      have b := below_then hb b1
      clear b1
      go_wp2
      go_ret
      exact ⟨by rw [HC.out]; rfl, b⟩
  · have HC : Hid (cmpT o q n o' q' n' = cmpI o q o' q') := Lib.hid (by unfold cmpT; rw [if_neg (fun k => h1 (cmpI_zero.1 k).1)])
    go_enter Try.func11, Try.ntmps11
    go_wp2_with fail
    refine (rcompare_any o q o' q' _ HQ.out HQ'.out).mono ?_
    rintro e w1 ⟨rfl, b1⟩
    have b := below_then hb b1
    clear b1
    go_wp2
    go_ret
    exact ⟨by rw [HC.out]; rfl, b⟩
end Go.Proofs.Ytlahhlcapkhpdaa
