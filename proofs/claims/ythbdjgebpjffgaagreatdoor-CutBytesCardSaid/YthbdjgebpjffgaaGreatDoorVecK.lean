/-
  What Take of package vec, and the document's own Take, answer.
  Conditions: the elements are uint32 numbers.
-/
import Derived.Test.YthbdjgebpjffgaaGreatDoorVecH
import Derived.Laws.CopyOwn
import Derived.IntWalk
set_option linter.unusedVariables false
set_option linter.unusedSimpArgs false
namespace Go.Proofs.YthbdjgebpjffgaaGreatDoor
open Go.RowKit

def zV (_ : Nat) : Int := 0
/-- A vector with one more, or what is wrong. -/
def takeV (v : Nat → Int) (o q : Int) : (Nat → Int) × Int :=
  if okV v = true then (if chk o q = 0 then (if hasV v o q = true then (zV, 11) else if q = v o.toNat + 1 then (setV v o.toNat q, 0) else (zV, 17)) else (zV, 2)) else (zV, 2)
theorem takeV_bad {v : Nat → Int} {o q : Int} (h : okV v = false) : takeV v o q = (zV, 2) := by unfold takeV; rw [h]; rfl
theorem takeV_no {v : Nat → Int} {o q : Int} (h : okV v = true) (h1 : ¬ chk o q = 0) : takeV v o q = (zV, 2) := by unfold takeV; rw [if_pos h, if_neg h1]
theorem takeV_has {v : Nat → Int} {o q : Int} (h : okV v = true) (h1 : chk o q = 0) (h2 : hasV v o q = true) : takeV v o q = (zV, 11) := by unfold takeV; rw [if_pos h, if_pos h1, if_pos h2]
theorem takeV_gap {v : Nat → Int} {k : Nat} {q : Int} (h : okV v = true) (h1 : chk k q = 0) (h2 : hasV v k q = false) (h3 : ¬ q = v k + 1) : takeV v k q = (zV, 17) := by
  unfold takeV; rw [if_pos h, if_pos h1, h2, if_neg (by decide), Int.toNat_natCast, if_neg h3]
theorem takeV_yes {v : Nat → Int} {k : Nat} {q : Int} (h : okV v = true) (h1 : chk k q = 0) (h2 : hasV v k q = false) (h3 : q = v k + 1) : takeV v k q = (setV v k q, 0) := by
  unfold takeV; rw [if_pos h, if_pos h1, h2, if_neg (by decide), Int.toNat_natCast, if_pos h3]
theorem ret_take {p : (Nat → Int) × Int} {a : Nat → Int} {c : Int} (h : p = (a, c)) : Ending.returned (.tuple #[.agg #[.int .u32 (a 0), .int .u32 (a 1), .int .u32 (a 2), .int .u32 (a 3), .int .u32 (a 4), .int .u32 (a 5), .int .u32 (a 6), .int .u32 (a 7)], .int .i64 c]) = .returned (.tuple #[.agg #[.int .u32 (p.1 0), .int .u32 (p.1 1), .int .u32 (p.1 2), .int .u32 (p.1 3), .int .u32 (p.1 4), .int .u32 (p.1 5), .int .u32 (p.1 6), .int .u32 (p.1 7)], .int .i64 p.2]) := by rw [h]
theorem wrap_u32 {x : Int} (h0 : 0 ≤ x) (h1 : x ≤ 4294967295) : IntKind.u32.wrap x = x := by
  rw [Go.IntWalk.u32_in x ⟨h0, h1⟩]

/-- A vector, a name, and a block for a vector that is answered. -/
structure VTk (w : World) (v : Nat → Int) (o q : Int) (wr : World) : Prop where
  bel : Below w.heap.size w wr
  a : Blk wr w.heap.size #[.int .u32 (v 0), .int .u32 (v 1), .int .u32 (v 2), .int .u32 (v 3), .int .u32 (v 4), .int .u32 (v 5), .int .u32 (v 6), .int .u32 (v 7)] 24
  i : Blk wr (w.heap.size + 1) #[.int .i64 o, .int .u32 q] 83
  c : Blk wr (w.heap.size + 1 + 1) #[.int .u32 0, .int .u32 0, .int .u32 0, .int .u32 0, .int .u32 0, .int .u32 0, .int .u32 0, .int .u32 0] 24
theorem VTk.start (w : World) (v : Nat → Int) (o q : Int) : VTk w v o q (((w.alloc (.cells #[.int .u32 (v 0), .int .u32 (v 1), .int .u32 (v 2), .int .u32 (v 3), .int .u32 (v 4), .int .u32 (v 5), .int .u32 (v 6), .int .u32 (v 7)] 24)).alloc (.cells #[.int .i64 o, .int .u32 q] 83)).alloc (.cells #[.int .u32 0, .int .u32 0, .int .u32 0, .int .u32 0, .int .u32 0, .int .u32 0, .int .u32 0, .int .u32 0] 24)) where
  bel := (VId.start w v o q).bel.alloc (by simp; omega) _
  a := (VId.start w v o q).a.alloc _
  i := (VId.start w v o q).i.alloc _
  c := by
    have := Blk.new ((w.alloc (.cells #[.int .u32 (v 0), .int .u32 (v 1), .int .u32 (v 2), .int .u32 (v 3), .int .u32 (v 4), .int .u32 (v 5), .int .u32 (v 6), .int .u32 (v 7)] 24)).alloc (.cells #[.int .i64 o, .int .u32 q] 83)) #[.int .u32 0, .int .u32 0, .int .u32 0, .int .u32 0, .int .u32 0, .int .u32 0, .int .u32 0, .int .u32 0] 24
    rwa [show ((w.alloc (.cells #[.int .u32 (v 0), .int .u32 (v 1), .int .u32 (v 2), .int .u32 (v 3), .int .u32 (v 4), .int .u32 (v 5), .int .u32 (v 6), .int .u32 (v 7)] 24)).alloc (.cells #[.int .i64 o, .int .u32 q] 83)).heap.size = w.heap.size + 1 + 1 by simp] at this
theorem VTk.next {w wr w' : World} {v : Nat → Int} {o q : Int} (h : VTk w v o q wr) (hb : Below wr.heap.size wr w') : VTk w v o q w' := ⟨below_then h.bel hb, h.a.below hb, h.i.below hb, h.c.below hb⟩
theorem VTk.drewN {w wr : World} {v : Nat → Int} {o q : Int} (h : VTk w v o q wr) (n : Nat) : VTk w v o q (wr.drewN n) := ⟨below_drewN h.bel n, h.a.drewN n, h.i.drewN n, h.c.drewN n⟩
theorem VTk.put {w wr : World} {v : Nat → Int} {o q : Int} (h : VTk w v o q wr) (k : Nat) (hk : k < 8) (x : Int) : VTk w (setV v k x) o q (wr.setCell ⟨w.heap.size, k, none⟩ (.int .u32 x)) where
  bel := h.bel.setCell (by simp) _
  a := by
    have := h.a.set k (.int .u32 x)
    rw [vec_set _ k hk] at this
    exact this
  i := h.i.far (by omega) _ _
  c := h.c.far (by omega) _ _
theorem VTk.ids {w wr : World} {v : Nat → Int} {o q : Int} (h : VTk w v o q wr) : wr.cell? ⟨w.heap.size + 1, 0, none⟩ = some (.int .i64 o) ∧ wr.cell? ⟨w.heap.size + 1, 1, none⟩ = some (.int .u32 q) :=
  ⟨by rw [Blk.cell h.i]; rfl, by rw [Blk.cell h.i]; rfl⟩
theorem VTk.row {w wr : World} {v : Nat → Int} {o q : Int} (h : VTk w v o q wr) (C : Array Value) (j : Nat) : (wr.setRow (w.heap.size + 1 + 1) C).cell? ⟨w.heap.size + 1 + 1, j, none⟩ = C[j]? := cell_setRow_same _ _ _ _ _ _ _ h.c
theorem VTk.fin {w wr : World} {v : Nat → Int} {o q : Int} (h : VTk w v o q wr) (C : Array Value) : Below w.heap.size w (wr.setRow (w.heap.size + 1 + 1) C) := below_setRow h.bel (by omega) _
theorem zV_row : (#[.int .u32 0, .int .u32 0, .int .u32 0, .int .u32 0, .int .u32 0, .int .u32 0, .int .u32 0, .int .u32 0] : Array Value) = #[.int .u32 (zV 0), .int .u32 (zV 1), .int .u32 (zV 2), .int .u32 (zV 3), .int .u32 (zV 4), .int .u32 (zV 5), .int .u32 (zV 6), .int .u32 (zV 7)] := rfl
theorem zero_one : (#[.int .u32 0, .int .u32 0, .int .u32 0, .int .u32 0, .int .u32 0, .int .u32 0, .int .u32 0, .int .u32 0] : Array Value).all (·.oneCell') = true := by kernel_rfl

set_option maxRecDepth 100000 in
set_option maxHeartbeats 1000000 in
theorem take_bad (v : Nat → Int) (o q : Int) (w : World) (h : okV v = false) :
    Calls Tryz.prog 54 #[.agg #[.int .u32 (v 0), .int .u32 (v 1), .int .u32 (v 2), .int .u32 (v 3), .int .u32 (v 4), .int .u32 (v 5), .int .u32 (v 6), .int .u32 (v 7)], .agg #[.int .i64 o, .int .u32 q]] w fun e w' => e = .returned (.tuple #[.agg #[.int .u32 ((takeV v o q).1 0), .int .u32 ((takeV v o q).1 1), .int .u32 ((takeV v o q).1 2), .int .u32 ((takeV v o q).1 3), .int .u32 ((takeV v o q).1 4), .int .u32 ((takeV v o q).1 5), .int .u32 ((takeV v o q).1 6), .int .u32 ((takeV v o q).1 7)], .int .i64 (takeV v o q).2]) ∧ Below w.heap.size w w' := by
  have HN := Lib.hid (takeV_bad (o := o) (q := q) h)
  have HK := Lib.hid (chkV_no h); clear h
  have hI := Lib.hid (VTk.start w v o q)
  go_enter Tryz.func54, Tryz.ntmps54
  go_wp2_with fail
  refine (vCheck_any v _).mono ?_
  rw [HK.out]
  rintro e w1 ⟨rfl, b1⟩
  have HV1 := Lib.hid (hI.out.next b1)
  clear b1
  go_wp2_with (refine wpList_store_row rfl 24 _ _ rfl (w.heap.size + 1 + 1) #[.int .u32 0, .int .u32 0, .int .u32 0, .int .u32 0, .int .u32 0, .int .u32 0, .int .u32 0, .int .u32 0] rfl rfl 24 _ HV1.out.c (by kernel_rfl) rfl zero_one ?_)
  have hs := HV1.out.row #[.int .u32 0, .int .u32 0, .int .u32 0, .int .u32 0, .int .u32 0, .int .u32 0, .int .u32 0, .int .u32 0]
  refine bodyPost_ret (v := .tuple #[.agg #[.int .u32 0, .int .u32 0, .int .u32 0, .int .u32 0, .int .u32 0, .int .u32 0, .int .u32 0, .int .u32 0], .int .i64 2]) (by simp [results, Tryz.results54, go_sem, hs]) rfl ⟨ret_take HN.out, HV1.out.fin _⟩

set_option maxRecDepth 100000 in
set_option maxHeartbeats 1000000 in
theorem take_no (v : Nat → Int) (o q : Int) (w : World) (h : okV v = true) (h1 : ¬ chk o q = 0) :
    Calls Tryz.prog 54 #[.agg #[.int .u32 (v 0), .int .u32 (v 1), .int .u32 (v 2), .int .u32 (v 3), .int .u32 (v 4), .int .u32 (v 5), .int .u32 (v 6), .int .u32 (v 7)], .agg #[.int .i64 o, .int .u32 q]] w fun e w' => e = .returned (.tuple #[.agg #[.int .u32 ((takeV v o q).1 0), .int .u32 ((takeV v o q).1 1), .int .u32 ((takeV v o q).1 2), .int .u32 ((takeV v o q).1 3), .int .u32 ((takeV v o q).1 4), .int .u32 ((takeV v o q).1 5), .int .u32 ((takeV v o q).1 6), .int .u32 ((takeV v o q).1 7)], .int .i64 (takeV v o q).2]) ∧ Below w.heap.size w w' := by
  have HN := Lib.hid (takeV_no h h1)
  have HK := Lib.hid (chkV_yes h); clear h
  have HI := Lib.hid (chk_two h1); clear h1
  have hI := Lib.hid (VTk.start w v o q)
  go_enter Tryz.func54, Tryz.ntmps54
  go_wp2_with fail
  refine (vCheck_any v _).mono ?_
  rw [HK.out]
  rintro e w1 ⟨rfl, b1⟩
  have HV1 := Lib.hid (hI.out.next b1)
  clear b1
  obtain ⟨i0, i1⟩ := HV1.out.ids
  go_wp2_with fail
  refine (idCheck_any _ _ _).mono ?_
  rw [HI.out]
  rintro e w2 ⟨rfl, b2⟩
  have HV2 := Lib.hid (HV1.out.next b2)
  clear b2 i0 i1
  go_wp2_with (refine wpList_store_row rfl 24 _ _ rfl (w.heap.size + 1 + 1) #[.int .u32 0, .int .u32 0, .int .u32 0, .int .u32 0, .int .u32 0, .int .u32 0, .int .u32 0, .int .u32 0] rfl rfl 24 _ HV2.out.c (by kernel_rfl) rfl zero_one ?_)
  have hs := HV2.out.row #[.int .u32 0, .int .u32 0, .int .u32 0, .int .u32 0, .int .u32 0, .int .u32 0, .int .u32 0, .int .u32 0]
  refine bodyPost_ret (v := .tuple #[.agg #[.int .u32 0, .int .u32 0, .int .u32 0, .int .u32 0, .int .u32 0, .int .u32 0, .int .u32 0, .int .u32 0], .int .i64 2]) (by simp [results, Tryz.results54, go_sem, hs]) rfl ⟨ret_take HN.out, HV2.out.fin _⟩

set_option maxRecDepth 100000 in
set_option maxHeartbeats 1000000 in
theorem take_has (v : Nat → Int) (k : Nat) (q : Int) (w : World) (hk : k < 8) (h : okV v = true) (h1 : chk k q = 0) (h2 : hasV v k q = true) :
    Calls Tryz.prog 54 #[.agg #[.int .u32 (v 0), .int .u32 (v 1), .int .u32 (v 2), .int .u32 (v 3), .int .u32 (v 4), .int .u32 (v 5), .int .u32 (v 6), .int .u32 (v 7)], .agg #[.int .i64 k, .int .u32 q]] w fun e w' => e = .returned (.tuple #[.agg #[.int .u32 ((takeV v k q).1 0), .int .u32 ((takeV v k q).1 1), .int .u32 ((takeV v k q).1 2), .int .u32 ((takeV v k q).1 3), .int .u32 ((takeV v k q).1 4), .int .u32 ((takeV v k q).1 5), .int .u32 ((takeV v k q).1 6), .int .u32 ((takeV v k q).1 7)], .int .i64 (takeV v k q).2]) ∧ Below w.heap.size w w' := by
  have HN := Lib.hid (takeV_has h h1 h2)
  have HK := Lib.hid (chkV_yes h)
  have HI := Lib.hid h1
  have hI := Lib.hid (VTk.start w v k q)
  have hk0 : (0 : Int) ≤ (k : Int) := by omega
  have hk8 : (k : Int) < 8 := by omega
  have hq := (chk_zero h1).2
  have hv := okV_iff.1 h k hk
  have HH := Lib.hid h2; clear h h1 h2 hq hv
  go_enter Tryz.func54, Tryz.ntmps54
  go_wp2_with fail
  refine (vCheck_any v _).mono ?_
  rw [HK.out]
  rintro e w1 ⟨rfl, b1⟩
  have HV1 := Lib.hid (hI.out.next b1)
  clear b1
  obtain ⟨i0, i1⟩ := HV1.out.ids
  go_wp2_with fail
  refine (idCheck_any _ _ _).mono ?_
  rw [HI.out]
  rintro e w2 ⟨rfl, b2⟩
  have HV2 := Lib.hid (HV1.out.next b2)
  clear b2 i0 i1
  obtain ⟨i0, i1⟩ := HV2.out.ids
  obtain ⟨c0, c1, c2, c3, c4, c5, c6, c7⟩ := vec_cells HV2.out.a
  go_wp2_with fail
  refine (has_any v _ q _).mono ?_
  rw [HH.out]
  rintro e w3 ⟨rfl, b3⟩
  have HV3 := Lib.hid (HV2.out.next b3)
  clear b3 i0 i1 c0 c1 c2 c3 c4 c5 c6 c7
  go_wp2_with (refine wpList_store_row rfl 24 _ _ rfl (w.heap.size + 1 + 1) #[.int .u32 0, .int .u32 0, .int .u32 0, .int .u32 0, .int .u32 0, .int .u32 0, .int .u32 0, .int .u32 0] rfl rfl 24 _ HV3.out.c (by kernel_rfl) rfl zero_one ?_)
  have hs := HV3.out.row #[.int .u32 0, .int .u32 0, .int .u32 0, .int .u32 0, .int .u32 0, .int .u32 0, .int .u32 0, .int .u32 0]
  refine bodyPost_ret (v := .tuple #[.agg #[.int .u32 0, .int .u32 0, .int .u32 0, .int .u32 0, .int .u32 0, .int .u32 0, .int .u32 0, .int .u32 0], .int .i64 11]) (by simp [results, Tryz.results54, go_sem, hs]) rfl ⟨ret_take HN.out, HV3.out.fin _⟩

set_option maxRecDepth 100000 in
set_option maxHeartbeats 1000000 in
theorem take_gap (v : Nat → Int) (k : Nat) (q : Int) (w : World) (hk : k < 8) (h : okV v = true) (h1 : chk k q = 0) (h2 : hasV v k q = false) (h3 : ¬ q = v k + 1) (_h0 : 0 ≤ v k) :
    Calls Tryz.prog 54 #[.agg #[.int .u32 (v 0), .int .u32 (v 1), .int .u32 (v 2), .int .u32 (v 3), .int .u32 (v 4), .int .u32 (v 5), .int .u32 (v 6), .int .u32 (v 7)], .agg #[.int .i64 k, .int .u32 q]] w fun e w' => e = .returned (.tuple #[.agg #[.int .u32 ((takeV v k q).1 0), .int .u32 ((takeV v k q).1 1), .int .u32 ((takeV v k q).1 2), .int .u32 ((takeV v k q).1 3), .int .u32 ((takeV v k q).1 4), .int .u32 ((takeV v k q).1 5), .int .u32 ((takeV v k q).1 6), .int .u32 ((takeV v k q).1 7)], .int .i64 (takeV v k q).2]) ∧ Below w.heap.size w w' := by
  have HN := Lib.hid (takeV_gap h h1 h2 h3)
  have HK := Lib.hid (chkV_yes h)
  have HI := Lib.hid h1
  have hI := Lib.hid (VTk.start w v k q)
  have hk0 : (0 : Int) ≤ (k : Int) := by omega
  have hk8 : (k : Int) < 8 := by omega
  have hq := (chk_zero h1).2
  have hv := okV_iff.1 h k hk
  have HH := Lib.hid h2
  have hw1 := wrap_u32 (x := v k + 1) (by omega) (by omega)
  have ht : (q != v k + 1) = true := by simpa using h3
  clear h h1 h2 h3
  go_enter Tryz.func54, Tryz.ntmps54
  go_wp2_with fail
  refine (vCheck_any v _).mono ?_
  rw [HK.out]
  rintro e w1 ⟨rfl, b1⟩
  have HV1 := Lib.hid (hI.out.next b1)
  clear b1
  obtain ⟨i0, i1⟩ := HV1.out.ids
  go_wp2_with fail
  refine (idCheck_any _ _ _).mono ?_
  rw [HI.out]
  rintro e w2 ⟨rfl, b2⟩
  have HV2 := Lib.hid (HV1.out.next b2)
  clear b2 i0 i1
  obtain ⟨i0, i1⟩ := HV2.out.ids
  obtain ⟨c0, c1, c2, c3, c4, c5, c6, c7⟩ := vec_cells HV2.out.a
  go_wp2_with fail
  refine (has_any v _ q _).mono ?_
  rw [HH.out]
  rintro e w3 ⟨rfl, b3⟩
  have HV3 := Lib.hid (HV2.out.next b3)
  clear b3 i0 i1 c0 c1 c2 c3 c4 c5 c6 c7
  obtain ⟨i0, i1⟩ := HV3.out.ids
  have ck := vec_cell HV3.out.a k hk
  have fk := Blk.free HV3.out.a k
  go_wp2_with fail
  go_quiet (fail)
  go_wp2_with (refine wpList_store_row rfl 24 _ _ rfl (w.heap.size + 1 + 1) #[.int .u32 0, .int .u32 0, .int .u32 0, .int .u32 0, .int .u32 0, .int .u32 0, .int .u32 0, .int .u32 0] rfl rfl 24 _ (HV3.out.drewN _).c (by kernel_rfl) rfl zero_one ?_)
  have hs := fun n => (HV3.out.drewN n).row #[.int .u32 0, .int .u32 0, .int .u32 0, .int .u32 0, .int .u32 0, .int .u32 0, .int .u32 0, .int .u32 0]
  refine bodyPost_ret (v := .tuple #[.agg #[.int .u32 0, .int .u32 0, .int .u32 0, .int .u32 0, .int .u32 0, .int .u32 0, .int .u32 0, .int .u32 0], .int .i64 17]) (by simp [results, Tryz.results54, go_sem, hs]) rfl ⟨ret_take HN.out, (HV3.out.drewN _).fin _⟩

set_option maxRecDepth 100000 in
set_option maxHeartbeats 1000000 in
theorem take_yes (v : Nat → Int) (k : Nat) (q : Int) (w : World) (hk : k < 8) (h : okV v = true) (h1 : chk k q = 0) (h2 : hasV v k q = false) (h3 : q = v k + 1) (_h0 : 0 ≤ v k) :
    Calls Tryz.prog 54 #[.agg #[.int .u32 (v 0), .int .u32 (v 1), .int .u32 (v 2), .int .u32 (v 3), .int .u32 (v 4), .int .u32 (v 5), .int .u32 (v 6), .int .u32 (v 7)], .agg #[.int .i64 k, .int .u32 q]] w fun e w' => e = .returned (.tuple #[.agg #[.int .u32 ((takeV v k q).1 0), .int .u32 ((takeV v k q).1 1), .int .u32 ((takeV v k q).1 2), .int .u32 ((takeV v k q).1 3), .int .u32 ((takeV v k q).1 4), .int .u32 ((takeV v k q).1 5), .int .u32 ((takeV v k q).1 6), .int .u32 ((takeV v k q).1 7)], .int .i64 (takeV v k q).2]) ∧ Below w.heap.size w w' := by
  have HN := Lib.hid (takeV_yes h h1 h2 h3)
  have HK := Lib.hid (chkV_yes h)
  have HI := Lib.hid h1
  have hI := Lib.hid (VTk.start w v k q)
  have hk0 : (0 : Int) ≤ (k : Int) := by omega
  have hk8 : (k : Int) < 8 := by omega
  have hq := (chk_zero h1).2
  have hv := okV_iff.1 h k hk
  have HH := Lib.hid h2
  have hw1 := wrap_u32 (x := v k + 1) (by omega) (by omega)
  have ht : (q != v k + 1) = false := by simpa using h3
  clear h h1 h2 h3
  go_enter Tryz.func54, Tryz.ntmps54
  go_wp2_with fail
  refine (vCheck_any v _).mono ?_
  rw [HK.out]
  rintro e w1 ⟨rfl, b1⟩
  have HV1 := Lib.hid (hI.out.next b1)
  clear b1
  obtain ⟨i0, i1⟩ := HV1.out.ids
  go_wp2_with fail
  refine (idCheck_any _ _ _).mono ?_
  rw [HI.out]
  rintro e w2 ⟨rfl, b2⟩
  have HV2 := Lib.hid (HV1.out.next b2)
  clear b2 i0 i1
  obtain ⟨i0, i1⟩ := HV2.out.ids
  obtain ⟨c0, c1, c2, c3, c4, c5, c6, c7⟩ := vec_cells HV2.out.a
  go_wp2_with fail
  refine (has_any v _ q _).mono ?_
  rw [HH.out]
  rintro e w3 ⟨rfl, b3⟩
  have HV3 := Lib.hid (HV2.out.next b3)
  clear b3 i0 i1 c0 c1 c2 c3 c4 c5 c6 c7
  obtain ⟨i0, i1⟩ := HV3.out.ids
  have ck := vec_cell HV3.out.a k hk
  have fk := Blk.free HV3.out.a k
  go_wp2_with fail
  go_quiet (fail)
  go_wp2_with (first | (refine wpList_load_row rfl 24 _ rfl w.heap.size rfl 24 #[.int .u32 (setV v k q 0), .int .u32 (setV v k q 1), .int .u32 (setV v k q 2), .int .u32 (setV v k q 3), .int .u32 (setV v k q 4), .int .u32 (setV v k q 5), .int .u32 (setV v k q 6), .int .u32 (setV v k q 7)] (0, 0) _ ((HV3.out.drewN _).put k hk q).a Tryz.underlying24 rfl (by kernel_rfl) ?_) | (refine wpList_store_row rfl 24 _ _ rfl (w.heap.size + 1 + 1) #[.int .u32 (setV v k q 0), .int .u32 (setV v k q 1), .int .u32 (setV v k q 2), .int .u32 (setV v k q 3), .int .u32 (setV v k q 4), .int .u32 (setV v k q 5), .int .u32 (setV v k q 6), .int .u32 (setV v k q 7)] rfl rfl 24 _ ((HV3.out.drewN _).put k hk q).c (by kernel_rfl) rfl (vec_one _) ?_))
  have hs := fun n => ((HV3.out.drewN n).put k hk q).row #[.int .u32 (setV v k q 0), .int .u32 (setV v k q 1), .int .u32 (setV v k q 2), .int .u32 (setV v k q 3), .int .u32 (setV v k q 4), .int .u32 (setV v k q 5), .int .u32 (setV v k q 6), .int .u32 (setV v k q 7)]
  refine bodyPost_ret (v := .tuple #[.agg #[.int .u32 (setV v k q 0), .int .u32 (setV v k q 1), .int .u32 (setV v k q 2), .int .u32 (setV v k q 3), .int .u32 (setV v k q 4), .int .u32 (setV v k q 5), .int .u32 (setV v k q 6), .int .u32 (setV v k q 7)], .int .i64 0]) (by simp [results, Tryz.results54, go_sem, hs]) rfl ⟨ret_take HN.out, ((HV3.out.drewN _).put k hk q).fin _⟩

theorem take_any (v : Nat → Int) (o q : Int) (w : World) (hv : ∀ i, i < 8 → 0 ≤ v i ∧ v i ≤ 4294967295) :
    Calls Tryz.prog 54 #[.agg #[.int .u32 (v 0), .int .u32 (v 1), .int .u32 (v 2), .int .u32 (v 3), .int .u32 (v 4), .int .u32 (v 5), .int .u32 (v 6), .int .u32 (v 7)], .agg #[.int .i64 o, .int .u32 q]] w fun e w' => e = .returned (.tuple #[.agg #[.int .u32 ((takeV v o q).1 0), .int .u32 ((takeV v o q).1 1), .int .u32 ((takeV v o q).1 2), .int .u32 ((takeV v o q).1 3), .int .u32 ((takeV v o q).1 4), .int .u32 ((takeV v o q).1 5), .int .u32 ((takeV v o q).1 6), .int .u32 ((takeV v o q).1 7)], .int .i64 (takeV v o q).2]) ∧ Below w.heap.size w w' := by
  cases h : okV v
  · exact take_bad v o q w h
  · by_cases h1 : chk o q = 0
    · obtain ⟨k, hk, rfl⟩ := nat_of (chk_zero h1).1
      cases h2 : hasV v k q
      · by_cases h3 : q = v k + 1
        · exact take_yes v k q w hk h h1 h2 h3 (hv k hk).1
        · exact take_gap v k q w hk h h1 h2 h3 (hv k hk).1
      · exact take_has v k q w hk h h1 h2
    · exact take_no v o q w h h1

set_option maxRecDepth 100000 in
set_option maxHeartbeats 1000000 in
theorem rtake_bad (v : Nat → Int) (o q : Int) (w : World) (h : okV v = false) :
    Calls Tryz.prog 80 #[.agg #[.int .u32 (v 0), .int .u32 (v 1), .int .u32 (v 2), .int .u32 (v 3), .int .u32 (v 4), .int .u32 (v 5), .int .u32 (v 6), .int .u32 (v 7)], .agg #[.int .i64 o, .int .u32 q]] w fun e w' => e = .returned (.tuple #[.agg #[.int .u32 ((takeV v o q).1 0), .int .u32 ((takeV v o q).1 1), .int .u32 ((takeV v o q).1 2), .int .u32 ((takeV v o q).1 3), .int .u32 ((takeV v o q).1 4), .int .u32 ((takeV v o q).1 5), .int .u32 ((takeV v o q).1 6), .int .u32 ((takeV v o q).1 7)], .int .i64 (takeV v o q).2]) ∧ Below w.heap.size w w' := by
  have HN := Lib.hid (takeV_bad (o := o) (q := q) h)
  have HK := Lib.hid (chkV_no h); clear h
  have hI := Lib.hid (VTk.start w v o q)
  go_enter Tryz.func80, Tryz.ntmps80
  go_wp2_with fail
  refine (rvCheck_any v _).mono ?_
  rw [HK.out]
  rintro e w1 ⟨rfl, b1⟩
  have HV1 := Lib.hid (hI.out.next b1)
  clear b1
  go_wp2_with (refine wpList_store_row rfl 24 _ _ rfl (w.heap.size + 1 + 1) #[.int .u32 0, .int .u32 0, .int .u32 0, .int .u32 0, .int .u32 0, .int .u32 0, .int .u32 0, .int .u32 0] rfl rfl 24 _ HV1.out.c (by kernel_rfl) rfl zero_one ?_)
  have hs := HV1.out.row #[.int .u32 0, .int .u32 0, .int .u32 0, .int .u32 0, .int .u32 0, .int .u32 0, .int .u32 0, .int .u32 0]
  refine bodyPost_ret (v := .tuple #[.agg #[.int .u32 0, .int .u32 0, .int .u32 0, .int .u32 0, .int .u32 0, .int .u32 0, .int .u32 0, .int .u32 0], .int .i64 2]) (by simp [results, Tryz.results80, go_sem, hs]) rfl ⟨ret_take HN.out, HV1.out.fin _⟩

set_option maxRecDepth 100000 in
set_option maxHeartbeats 1000000 in
theorem rtake_no (v : Nat → Int) (o q : Int) (w : World) (h : okV v = true) (h1 : ¬ chk o q = 0) :
    Calls Tryz.prog 80 #[.agg #[.int .u32 (v 0), .int .u32 (v 1), .int .u32 (v 2), .int .u32 (v 3), .int .u32 (v 4), .int .u32 (v 5), .int .u32 (v 6), .int .u32 (v 7)], .agg #[.int .i64 o, .int .u32 q]] w fun e w' => e = .returned (.tuple #[.agg #[.int .u32 ((takeV v o q).1 0), .int .u32 ((takeV v o q).1 1), .int .u32 ((takeV v o q).1 2), .int .u32 ((takeV v o q).1 3), .int .u32 ((takeV v o q).1 4), .int .u32 ((takeV v o q).1 5), .int .u32 ((takeV v o q).1 6), .int .u32 ((takeV v o q).1 7)], .int .i64 (takeV v o q).2]) ∧ Below w.heap.size w w' := by
  have HN := Lib.hid (takeV_no h h1)
  have HK := Lib.hid (chkV_yes h); clear h
  have HI := Lib.hid (chk_two h1); clear h1
  have hI := Lib.hid (VTk.start w v o q)
  go_enter Tryz.func80, Tryz.ntmps80
  go_wp2_with fail
  refine (rvCheck_any v _).mono ?_
  rw [HK.out]
  rintro e w1 ⟨rfl, b1⟩
  have HV1 := Lib.hid (hI.out.next b1)
  clear b1
  obtain ⟨i0, i1⟩ := HV1.out.ids
  go_wp2_with fail
  refine (ridCheck_any _ _ _).mono ?_
  rw [HI.out]
  rintro e w2 ⟨rfl, b2⟩
  have HV2 := Lib.hid (HV1.out.next b2)
  clear b2 i0 i1
  go_wp2_with (refine wpList_store_row rfl 24 _ _ rfl (w.heap.size + 1 + 1) #[.int .u32 0, .int .u32 0, .int .u32 0, .int .u32 0, .int .u32 0, .int .u32 0, .int .u32 0, .int .u32 0] rfl rfl 24 _ HV2.out.c (by kernel_rfl) rfl zero_one ?_)
  have hs := HV2.out.row #[.int .u32 0, .int .u32 0, .int .u32 0, .int .u32 0, .int .u32 0, .int .u32 0, .int .u32 0, .int .u32 0]
  refine bodyPost_ret (v := .tuple #[.agg #[.int .u32 0, .int .u32 0, .int .u32 0, .int .u32 0, .int .u32 0, .int .u32 0, .int .u32 0, .int .u32 0], .int .i64 2]) (by simp [results, Tryz.results80, go_sem, hs]) rfl ⟨ret_take HN.out, HV2.out.fin _⟩

set_option maxRecDepth 100000 in
set_option maxHeartbeats 1000000 in
theorem rtake_has (v : Nat → Int) (k : Nat) (q : Int) (w : World) (hk : k < 8) (h : okV v = true) (h1 : chk k q = 0) (h2 : hasV v k q = true) :
    Calls Tryz.prog 80 #[.agg #[.int .u32 (v 0), .int .u32 (v 1), .int .u32 (v 2), .int .u32 (v 3), .int .u32 (v 4), .int .u32 (v 5), .int .u32 (v 6), .int .u32 (v 7)], .agg #[.int .i64 k, .int .u32 q]] w fun e w' => e = .returned (.tuple #[.agg #[.int .u32 ((takeV v k q).1 0), .int .u32 ((takeV v k q).1 1), .int .u32 ((takeV v k q).1 2), .int .u32 ((takeV v k q).1 3), .int .u32 ((takeV v k q).1 4), .int .u32 ((takeV v k q).1 5), .int .u32 ((takeV v k q).1 6), .int .u32 ((takeV v k q).1 7)], .int .i64 (takeV v k q).2]) ∧ Below w.heap.size w w' := by
  have HN := Lib.hid (takeV_has h h1 h2)
  have HK := Lib.hid (chkV_yes h)
  have HI := Lib.hid h1
  have hI := Lib.hid (VTk.start w v k q)
  have hk0 : (0 : Int) ≤ (k : Int) := by omega
  have hk8 : (k : Int) < 8 := by omega
  have hq := (chk_zero h1).2
  have hv := okV_iff.1 h k hk
  have HH := Lib.hid h2; clear h h1 h2 hq hv
  go_enter Tryz.func80, Tryz.ntmps80
  go_wp2_with fail
  refine (rvCheck_any v _).mono ?_
  rw [HK.out]
  rintro e w1 ⟨rfl, b1⟩
  have HV1 := Lib.hid (hI.out.next b1)
  clear b1
  obtain ⟨i0, i1⟩ := HV1.out.ids
  go_wp2_with fail
  refine (ridCheck_any _ _ _).mono ?_
  rw [HI.out]
  rintro e w2 ⟨rfl, b2⟩
  have HV2 := Lib.hid (HV1.out.next b2)
  clear b2 i0 i1
  obtain ⟨i0, i1⟩ := HV2.out.ids
  obtain ⟨c0, c1, c2, c3, c4, c5, c6, c7⟩ := vec_cells HV2.out.a
  go_wp2_with fail
  refine (rhas_any v _ q _).mono ?_
  rw [HH.out]
  rintro e w3 ⟨rfl, b3⟩
  have HV3 := Lib.hid (HV2.out.next b3)
  clear b3 i0 i1 c0 c1 c2 c3 c4 c5 c6 c7
  go_wp2_with (refine wpList_store_row rfl 24 _ _ rfl (w.heap.size + 1 + 1) #[.int .u32 0, .int .u32 0, .int .u32 0, .int .u32 0, .int .u32 0, .int .u32 0, .int .u32 0, .int .u32 0] rfl rfl 24 _ HV3.out.c (by kernel_rfl) rfl zero_one ?_)
  have hs := HV3.out.row #[.int .u32 0, .int .u32 0, .int .u32 0, .int .u32 0, .int .u32 0, .int .u32 0, .int .u32 0, .int .u32 0]
  refine bodyPost_ret (v := .tuple #[.agg #[.int .u32 0, .int .u32 0, .int .u32 0, .int .u32 0, .int .u32 0, .int .u32 0, .int .u32 0, .int .u32 0], .int .i64 11]) (by simp [results, Tryz.results80, go_sem, hs]) rfl ⟨ret_take HN.out, HV3.out.fin _⟩

set_option maxRecDepth 100000 in
set_option maxHeartbeats 1000000 in
theorem rtake_gap (v : Nat → Int) (k : Nat) (q : Int) (w : World) (hk : k < 8) (h : okV v = true) (h1 : chk k q = 0) (h2 : hasV v k q = false) (h3 : ¬ q = v k + 1) (_h0 : 0 ≤ v k) :
    Calls Tryz.prog 80 #[.agg #[.int .u32 (v 0), .int .u32 (v 1), .int .u32 (v 2), .int .u32 (v 3), .int .u32 (v 4), .int .u32 (v 5), .int .u32 (v 6), .int .u32 (v 7)], .agg #[.int .i64 k, .int .u32 q]] w fun e w' => e = .returned (.tuple #[.agg #[.int .u32 ((takeV v k q).1 0), .int .u32 ((takeV v k q).1 1), .int .u32 ((takeV v k q).1 2), .int .u32 ((takeV v k q).1 3), .int .u32 ((takeV v k q).1 4), .int .u32 ((takeV v k q).1 5), .int .u32 ((takeV v k q).1 6), .int .u32 ((takeV v k q).1 7)], .int .i64 (takeV v k q).2]) ∧ Below w.heap.size w w' := by
  have HN := Lib.hid (takeV_gap h h1 h2 h3)
  have HK := Lib.hid (chkV_yes h)
  have HI := Lib.hid h1
  have hI := Lib.hid (VTk.start w v k q)
  have hk0 : (0 : Int) ≤ (k : Int) := by omega
  have hk8 : (k : Int) < 8 := by omega
  have hq := (chk_zero h1).2
  have hv := okV_iff.1 h k hk
  have HH := Lib.hid h2
  have hw1 := wrap_u32 (x := q - 1) (by omega) (by omega)
  have ht : (q - 1 != v k) = true := by simp; omega
  clear h h1 h2 h3
  go_enter Tryz.func80, Tryz.ntmps80
  go_wp2_with fail
  refine (rvCheck_any v _).mono ?_
  rw [HK.out]
  rintro e w1 ⟨rfl, b1⟩
  have HV1 := Lib.hid (hI.out.next b1)
  clear b1
  obtain ⟨i0, i1⟩ := HV1.out.ids
  go_wp2_with fail
  refine (ridCheck_any _ _ _).mono ?_
  rw [HI.out]
  rintro e w2 ⟨rfl, b2⟩
  have HV2 := Lib.hid (HV1.out.next b2)
  clear b2 i0 i1
  obtain ⟨i0, i1⟩ := HV2.out.ids
  obtain ⟨c0, c1, c2, c3, c4, c5, c6, c7⟩ := vec_cells HV2.out.a
  go_wp2_with fail
  refine (rhas_any v _ q _).mono ?_
  rw [HH.out]
  rintro e w3 ⟨rfl, b3⟩
  have HV3 := Lib.hid (HV2.out.next b3)
  clear b3 i0 i1 c0 c1 c2 c3 c4 c5 c6 c7
  obtain ⟨i0, i1⟩ := HV3.out.ids
  have ck := vec_cell HV3.out.a k hk
  have fk := Blk.free HV3.out.a k
  go_wp2_with fail
  go_quiet (fail)
  go_wp2_with (refine wpList_store_row rfl 24 _ _ rfl (w.heap.size + 1 + 1) #[.int .u32 0, .int .u32 0, .int .u32 0, .int .u32 0, .int .u32 0, .int .u32 0, .int .u32 0, .int .u32 0] rfl rfl 24 _ (HV3.out.drewN _).c (by kernel_rfl) rfl zero_one ?_)
  have hs := fun n => (HV3.out.drewN n).row #[.int .u32 0, .int .u32 0, .int .u32 0, .int .u32 0, .int .u32 0, .int .u32 0, .int .u32 0, .int .u32 0]
  refine bodyPost_ret (v := .tuple #[.agg #[.int .u32 0, .int .u32 0, .int .u32 0, .int .u32 0, .int .u32 0, .int .u32 0, .int .u32 0, .int .u32 0], .int .i64 17]) (by simp [results, Tryz.results80, go_sem, hs]) rfl ⟨ret_take HN.out, (HV3.out.drewN _).fin _⟩

set_option maxRecDepth 100000 in
set_option maxHeartbeats 1000000 in
theorem rtake_yes (v : Nat → Int) (k : Nat) (q : Int) (w : World) (hk : k < 8) (h : okV v = true) (h1 : chk k q = 0) (h2 : hasV v k q = false) (h3 : q = v k + 1) (_h0 : 0 ≤ v k) :
    Calls Tryz.prog 80 #[.agg #[.int .u32 (v 0), .int .u32 (v 1), .int .u32 (v 2), .int .u32 (v 3), .int .u32 (v 4), .int .u32 (v 5), .int .u32 (v 6), .int .u32 (v 7)], .agg #[.int .i64 k, .int .u32 q]] w fun e w' => e = .returned (.tuple #[.agg #[.int .u32 ((takeV v k q).1 0), .int .u32 ((takeV v k q).1 1), .int .u32 ((takeV v k q).1 2), .int .u32 ((takeV v k q).1 3), .int .u32 ((takeV v k q).1 4), .int .u32 ((takeV v k q).1 5), .int .u32 ((takeV v k q).1 6), .int .u32 ((takeV v k q).1 7)], .int .i64 (takeV v k q).2]) ∧ Below w.heap.size w w' := by
  have HN := Lib.hid (takeV_yes h h1 h2 h3)
  have HK := Lib.hid (chkV_yes h)
  have HI := Lib.hid h1
  have hI := Lib.hid (VTk.start w v k q)
  have hk0 : (0 : Int) ≤ (k : Int) := by omega
  have hk8 : (k : Int) < 8 := by omega
  have hq := (chk_zero h1).2
  have hv := okV_iff.1 h k hk
  have HH := Lib.hid h2
  have hw1 := wrap_u32 (x := q - 1) (by omega) (by omega)
  have ht : (q - 1 != v k) = false := by simp; omega
  clear h h1 h2 h3
  go_enter Tryz.func80, Tryz.ntmps80
  go_wp2_with fail
  refine (rvCheck_any v _).mono ?_
  rw [HK.out]
  rintro e w1 ⟨rfl, b1⟩
  have HV1 := Lib.hid (hI.out.next b1)
  clear b1
  obtain ⟨i0, i1⟩ := HV1.out.ids
  go_wp2_with fail
  refine (ridCheck_any _ _ _).mono ?_
  rw [HI.out]
  rintro e w2 ⟨rfl, b2⟩
  have HV2 := Lib.hid (HV1.out.next b2)
  clear b2 i0 i1
  obtain ⟨i0, i1⟩ := HV2.out.ids
  obtain ⟨c0, c1, c2, c3, c4, c5, c6, c7⟩ := vec_cells HV2.out.a
  go_wp2_with fail
  refine (rhas_any v _ q _).mono ?_
  rw [HH.out]
  rintro e w3 ⟨rfl, b3⟩
  have HV3 := Lib.hid (HV2.out.next b3)
  clear b3 i0 i1 c0 c1 c2 c3 c4 c5 c6 c7
  obtain ⟨i0, i1⟩ := HV3.out.ids
  have ck := vec_cell HV3.out.a k hk
  have fk := Blk.free HV3.out.a k
  go_wp2_with fail
  go_quiet (fail)
  go_wp2_with (first | (refine wpList_load_row rfl 24 _ rfl w.heap.size rfl 24 #[.int .u32 (setV v k q 0), .int .u32 (setV v k q 1), .int .u32 (setV v k q 2), .int .u32 (setV v k q 3), .int .u32 (setV v k q 4), .int .u32 (setV v k q 5), .int .u32 (setV v k q 6), .int .u32 (setV v k q 7)] (0, 0) _ ((HV3.out.drewN _).put k hk q).a Tryz.underlying24 rfl (by kernel_rfl) ?_) | (refine wpList_store_row rfl 24 _ _ rfl (w.heap.size + 1 + 1) #[.int .u32 (setV v k q 0), .int .u32 (setV v k q 1), .int .u32 (setV v k q 2), .int .u32 (setV v k q 3), .int .u32 (setV v k q 4), .int .u32 (setV v k q 5), .int .u32 (setV v k q 6), .int .u32 (setV v k q 7)] rfl rfl 24 _ ((HV3.out.drewN _).put k hk q).c (by kernel_rfl) rfl (vec_one _) ?_))
  have hs := fun n => ((HV3.out.drewN n).put k hk q).row #[.int .u32 (setV v k q 0), .int .u32 (setV v k q 1), .int .u32 (setV v k q 2), .int .u32 (setV v k q 3), .int .u32 (setV v k q 4), .int .u32 (setV v k q 5), .int .u32 (setV v k q 6), .int .u32 (setV v k q 7)]
  refine bodyPost_ret (v := .tuple #[.agg #[.int .u32 (setV v k q 0), .int .u32 (setV v k q 1), .int .u32 (setV v k q 2), .int .u32 (setV v k q 3), .int .u32 (setV v k q 4), .int .u32 (setV v k q 5), .int .u32 (setV v k q 6), .int .u32 (setV v k q 7)], .int .i64 0]) (by simp [results, Tryz.results80, go_sem, hs]) rfl ⟨ret_take HN.out, ((HV3.out.drewN _).put k hk q).fin _⟩

theorem rtake_any (v : Nat → Int) (o q : Int) (w : World) (hv : ∀ i, i < 8 → 0 ≤ v i ∧ v i ≤ 4294967295) :
    Calls Tryz.prog 80 #[.agg #[.int .u32 (v 0), .int .u32 (v 1), .int .u32 (v 2), .int .u32 (v 3), .int .u32 (v 4), .int .u32 (v 5), .int .u32 (v 6), .int .u32 (v 7)], .agg #[.int .i64 o, .int .u32 q]] w fun e w' => e = .returned (.tuple #[.agg #[.int .u32 ((takeV v o q).1 0), .int .u32 ((takeV v o q).1 1), .int .u32 ((takeV v o q).1 2), .int .u32 ((takeV v o q).1 3), .int .u32 ((takeV v o q).1 4), .int .u32 ((takeV v o q).1 5), .int .u32 ((takeV v o q).1 6), .int .u32 ((takeV v o q).1 7)], .int .i64 (takeV v o q).2]) ∧ Below w.heap.size w w' := by
  cases h : okV v
  · exact rtake_bad v o q w h
  · by_cases h1 : chk o q = 0
    · obtain ⟨k, hk, rfl⟩ := nat_of (chk_zero h1).1
      cases h2 : hasV v k q
      · by_cases h3 : q = v k + 1
        · exact rtake_yes v k q w hk h h1 h2 h3 (hv k hk).1
        · exact rtake_gap v k q w hk h h1 h2 h3 (hv k hk).1
      · exact rtake_has v k q w hk h h1 h2
    · exact rtake_no v o q w h h1

end Go.Proofs.YthbdjgebpjffgaaGreatDoor
