/-
  The walk of the law VecTakes.
  Conditions: none.
-/
import Derived.Test.YtfmdmifpgmkohaaVecF
import Derived.Test.YtfmdmifpgmkohaaVecJ
import Derived.Test.YtfmdmifpgmkohaaVecK
namespace Go.Proofs.Ytfmdmifpgmkohaa
open Go.RowKit

theorem VId.alloc {w wr : World} {v : Nat → Int} {o q : Int} (h : VId w v o q wr) (x : Obj) : VId w v o q (wr.alloc x) := ⟨h.bel.alloc h.bel.size _, h.a.alloc _, h.i.alloc _⟩

/-- What the law holds ahead of its answer. -/
structure VT (w : World) (v : Nat → Int) (o q : Int) (g5 g7 g9 gb : Nat) (wr : World) : Prop where
  bel : Below w.heap.size w wr
  a : Blk wr w.heap.size #[.int .u32 (v 0), .int .u32 (v 1), .int .u32 (v 2), .int .u32 (v 3), .int .u32 (v 4), .int .u32 (v 5), .int .u32 (v 6), .int .u32 (v 7)] 24
  i : Blk wr (w.heap.size + 1) #[.int .i64 o, .int .u32 q] 32
  b5 : Blk wr g5 #[.int .i64 (nextV v o).1, .int .u32 (nextV v o).2.1] 32
  b7 : Blk wr g7 #[.int .i64 (nextV v o).1, .int .u32 (nextV v o).2.1] 32
  b9 : Blk wr g9 #[.int .u32 ((takeV v o q).1 0), .int .u32 ((takeV v o q).1 1), .int .u32 ((takeV v o q).1 2), .int .u32 ((takeV v o q).1 3), .int .u32 ((takeV v o q).1 4), .int .u32 ((takeV v o q).1 5), .int .u32 ((takeV v o q).1 6), .int .u32 ((takeV v o q).1 7)] 24
  bb : Blk wr gb #[.int .u32 ((takeV v o q).1 0), .int .u32 ((takeV v o q).1 1), .int .u32 ((takeV v o q).1 2), .int .u32 ((takeV v o q).1 3), .int .u32 ((takeV v o q).1 4), .int .u32 ((takeV v o q).1 5), .int .u32 ((takeV v o q).1 6), .int .u32 ((takeV v o q).1 7)] 24
section
variable {w wr w' : World} {v : Nat → Int} {o q : Int} {g5 g7 g9 gb : Nat}
theorem VT.drew (h : VT w v o q g5 g7 g9 gb wr) : VT w v o q g5 g7 g9 gb wr.drew := ⟨⟨h.bel.os, h.bel.tape, h.bel.output, h.bel.size, h.bel.block⟩, h.a, h.i, h.b5, h.b7, h.b9, h.bb⟩
theorem VT.next (h : VT w v o q g5 g7 g9 gb wr) (hb : Below wr.heap.size wr w') : VT w v o q g5 g7 g9 gb w' := ⟨below_then h.bel hb, h.a.below hb, h.i.below hb, h.b5.below hb, h.b7.below hb, h.b9.below hb, h.bb.below hb⟩
theorem VT.cells (h : VT w v o q g5 g7 g9 gb wr) : wr.cell? ⟨w.heap.size, 0, none⟩ = some (.int .u32 (v 0)) ∧ wr.cell? ⟨w.heap.size, 1, none⟩ = some (.int .u32 (v 1)) ∧ wr.cell? ⟨w.heap.size, 2, none⟩ = some (.int .u32 (v 2)) ∧ wr.cell? ⟨w.heap.size, 3, none⟩ = some (.int .u32 (v 3)) ∧ wr.cell? ⟨w.heap.size, 4, none⟩ = some (.int .u32 (v 4)) ∧ wr.cell? ⟨w.heap.size, 5, none⟩ = some (.int .u32 (v 5)) ∧ wr.cell? ⟨w.heap.size, 6, none⟩ = some (.int .u32 (v 6)) ∧ wr.cell? ⟨w.heap.size, 7, none⟩ = some (.int .u32 (v 7)) ∧ wr.cell? ⟨w.heap.size + 1, 0, none⟩ = some (.int .i64 o) ∧ wr.cell? ⟨w.heap.size + 1, 1, none⟩ = some (.int .u32 q) ∧ wr.cell? ⟨g5, 0, none⟩ = some (.int .i64 (nextV v o).1) ∧ wr.cell? ⟨g5, 1, none⟩ = some (.int .u32 (nextV v o).2.1) ∧ wr.cell? ⟨g7, 0, none⟩ = some (.int .i64 (nextV v o).1) ∧ wr.cell? ⟨g7, 1, none⟩ = some (.int .u32 (nextV v o).2.1) ∧ wr.cell? ⟨g9, 0, none⟩ = some (.int .u32 ((takeV v o q).1 0)) ∧ wr.cell? ⟨g9, 1, none⟩ = some (.int .u32 ((takeV v o q).1 1)) ∧ wr.cell? ⟨g9, 2, none⟩ = some (.int .u32 ((takeV v o q).1 2)) ∧ wr.cell? ⟨g9, 3, none⟩ = some (.int .u32 ((takeV v o q).1 3)) ∧ wr.cell? ⟨g9, 4, none⟩ = some (.int .u32 ((takeV v o q).1 4)) ∧ wr.cell? ⟨g9, 5, none⟩ = some (.int .u32 ((takeV v o q).1 5)) ∧ wr.cell? ⟨g9, 6, none⟩ = some (.int .u32 ((takeV v o q).1 6)) ∧ wr.cell? ⟨g9, 7, none⟩ = some (.int .u32 ((takeV v o q).1 7)) ∧ wr.cell? ⟨gb, 0, none⟩ = some (.int .u32 ((takeV v o q).1 0)) ∧ wr.cell? ⟨gb, 1, none⟩ = some (.int .u32 ((takeV v o q).1 1)) ∧ wr.cell? ⟨gb, 2, none⟩ = some (.int .u32 ((takeV v o q).1 2)) ∧ wr.cell? ⟨gb, 3, none⟩ = some (.int .u32 ((takeV v o q).1 3)) ∧ wr.cell? ⟨gb, 4, none⟩ = some (.int .u32 ((takeV v o q).1 4)) ∧ wr.cell? ⟨gb, 5, none⟩ = some (.int .u32 ((takeV v o q).1 5)) ∧ wr.cell? ⟨gb, 6, none⟩ = some (.int .u32 ((takeV v o q).1 6)) ∧ wr.cell? ⟨gb, 7, none⟩ = some (.int .u32 ((takeV v o q).1 7)) ∧ VT w v o q g5 g7 g9 gb wr :=
  ⟨vec_cell h.a 0 (by omega), vec_cell h.a 1 (by omega), vec_cell h.a 2 (by omega), vec_cell h.a 3 (by omega), vec_cell h.a 4 (by omega), vec_cell h.a 5 (by omega), vec_cell h.a 6 (by omega), vec_cell h.a 7 (by omega), by rw [Blk.cell h.i]; rfl, by rw [Blk.cell h.i]; rfl, by rw [Blk.cell h.b5]; rfl, by rw [Blk.cell h.b5]; rfl, by rw [Blk.cell h.b7]; rfl, by rw [Blk.cell h.b7]; rfl, vec_cell h.b9 0 (by omega), vec_cell h.b9 1 (by omega), vec_cell h.b9 2 (by omega), vec_cell h.b9 3 (by omega), vec_cell h.b9 4 (by omega), vec_cell h.b9 5 (by omega), vec_cell h.b9 6 (by omega), vec_cell h.b9 7 (by omega), vec_cell h.bb 0 (by omega), vec_cell h.bb 1 (by omega), vec_cell h.bb 2 (by omega), vec_cell h.bb 3 (by omega), vec_cell h.bb 4 (by omega), vec_cell h.bb 5 (by omega), vec_cell h.bb 6 (by omega), vec_cell h.bb 7 (by omega), h⟩
theorem VT.last (h : wr.cell? ⟨w.heap.size, 0, none⟩ = some (.int .u32 (v 0)) ∧ wr.cell? ⟨w.heap.size, 1, none⟩ = some (.int .u32 (v 1)) ∧ wr.cell? ⟨w.heap.size, 2, none⟩ = some (.int .u32 (v 2)) ∧ wr.cell? ⟨w.heap.size, 3, none⟩ = some (.int .u32 (v 3)) ∧ wr.cell? ⟨w.heap.size, 4, none⟩ = some (.int .u32 (v 4)) ∧ wr.cell? ⟨w.heap.size, 5, none⟩ = some (.int .u32 (v 5)) ∧ wr.cell? ⟨w.heap.size, 6, none⟩ = some (.int .u32 (v 6)) ∧ wr.cell? ⟨w.heap.size, 7, none⟩ = some (.int .u32 (v 7)) ∧ wr.cell? ⟨w.heap.size + 1, 0, none⟩ = some (.int .i64 o) ∧ wr.cell? ⟨w.heap.size + 1, 1, none⟩ = some (.int .u32 q) ∧ wr.cell? ⟨g5, 0, none⟩ = some (.int .i64 (nextV v o).1) ∧ wr.cell? ⟨g5, 1, none⟩ = some (.int .u32 (nextV v o).2.1) ∧ wr.cell? ⟨g7, 0, none⟩ = some (.int .i64 (nextV v o).1) ∧ wr.cell? ⟨g7, 1, none⟩ = some (.int .u32 (nextV v o).2.1) ∧ wr.cell? ⟨g9, 0, none⟩ = some (.int .u32 ((takeV v o q).1 0)) ∧ wr.cell? ⟨g9, 1, none⟩ = some (.int .u32 ((takeV v o q).1 1)) ∧ wr.cell? ⟨g9, 2, none⟩ = some (.int .u32 ((takeV v o q).1 2)) ∧ wr.cell? ⟨g9, 3, none⟩ = some (.int .u32 ((takeV v o q).1 3)) ∧ wr.cell? ⟨g9, 4, none⟩ = some (.int .u32 ((takeV v o q).1 4)) ∧ wr.cell? ⟨g9, 5, none⟩ = some (.int .u32 ((takeV v o q).1 5)) ∧ wr.cell? ⟨g9, 6, none⟩ = some (.int .u32 ((takeV v o q).1 6)) ∧ wr.cell? ⟨g9, 7, none⟩ = some (.int .u32 ((takeV v o q).1 7)) ∧ wr.cell? ⟨gb, 0, none⟩ = some (.int .u32 ((takeV v o q).1 0)) ∧ wr.cell? ⟨gb, 1, none⟩ = some (.int .u32 ((takeV v o q).1 1)) ∧ wr.cell? ⟨gb, 2, none⟩ = some (.int .u32 ((takeV v o q).1 2)) ∧ wr.cell? ⟨gb, 3, none⟩ = some (.int .u32 ((takeV v o q).1 3)) ∧ wr.cell? ⟨gb, 4, none⟩ = some (.int .u32 ((takeV v o q).1 4)) ∧ wr.cell? ⟨gb, 5, none⟩ = some (.int .u32 ((takeV v o q).1 5)) ∧ wr.cell? ⟨gb, 6, none⟩ = some (.int .u32 ((takeV v o q).1 6)) ∧ wr.cell? ⟨gb, 7, none⟩ = some (.int .u32 ((takeV v o q).1 7)) ∧ VT w v o q g5 g7 g9 gb wr) : VT w v o q g5 g7 g9 gb wr := h.2.2.2.2.2.2.2.2.2.2.2.2.2.2.2.2.2.2.2.2.2.2.2.2.2.2.2.2.2.2
theorem has_VT (x : Nat → Int) (a b : Int) (h : VT w v o q g5 g7 g9 gb wr) :
    Calls Try.prog 19 #[.agg #[.int .u32 (x 0), .int .u32 (x 1), .int .u32 (x 2), .int .u32 (x 3), .int .u32 (x 4), .int .u32 (x 5), .int .u32 (x 6), .int .u32 (x 7)], .agg #[.int .i64 a, .int .u32 b]] wr fun e w' => e = .returned (.bool (hasV x a b)) ∧ VT w v o q g5 g7 g9 gb w' :=
  (has_any x a b wr).mono fun _ _ ⟨h1, h2⟩ => ⟨h1, h.next h2⟩
theorem rhas_VT (x : Nat → Int) (a b : Int) (h : VT w v o q g5 g7 g9 gb wr) :
    Calls Try.prog 20 #[.agg #[.int .u32 (x 0), .int .u32 (x 1), .int .u32 (x 2), .int .u32 (x 3), .int .u32 (x 4), .int .u32 (x 5), .int .u32 (x 6), .int .u32 (x 7)], .agg #[.int .i64 a, .int .u32 b]] wr fun e w' => e = .returned (.bool (hasV x a b)) ∧ VT w v o q g5 g7 g9 gb w' :=
  (rhas_any x a b wr).mono fun _ _ ⟨h1, h2⟩ => ⟨h1, h.next h2⟩
end

set_option maxRecDepth 100000 in
set_option maxHeartbeats 4000000 in
theorem vecTakes_core (v : Nat → Int) (o q : Int) (w : World) (hv : ∀ i, i < 8 → 0 ≤ v i ∧ v i ≤ 4294967295) :
    Calls Try.prog 4 #[.agg #[.int .u32 (v 0), .int .u32 (v 1), .int .u32 (v 2), .int .u32 (v 3), .int .u32 (v 4), .int .u32 (v 5), .int .u32 (v 6), .int .u32 (v 7)], .agg #[.int .i64 o, .int .u32 q]] w fun e w' => e = .returned (.bool true) ∧ Below w.heap.size w w' := by
  have hI := Lib.hid (VId.start w v o q)
  have HV := Lib.hid hv; clear hv
  go_enter Try.func4, Try.ntmps4
  go_wp2_with fail
  refine (vnext_any v o _ HV.out).mono ?_
  rintro e w1 ⟨rfl, b1⟩
  have H1 := Lib.hid (hI.out.next b1); clear b1 hI
  obtain ⟨i0, i1, _⟩ := H1.out.cells
  have z0 := H1.out.a.lt
  have z1 := H1.out.i.lt
  obtain ⟨c0, c1, c2, c3, c4, c5, c6, c7⟩ := vec_cells H1.out.a
  go_wp2_with fail
  refine (rvnext_any v o _ HV.out).mono ?_
  rintro e w2 ⟨rfl, b2⟩
  have H2 := Lib.hid ((H1.out.alloc _).next b2)
  have B5 := Lib.hid ((Blk.new w1 _ _).below b2)
  clear b2 z0 z1 i0 i1 c0 c1 c2 c3 c4 c5 c6 c7
  obtain ⟨i0, i1, _⟩ := H2.out.cells
  have z0 := H2.out.a.lt
  have z1 := H2.out.i.lt
  obtain ⟨c0, c1, c2, c3, c4, c5, c6, c7⟩ := vec_cells H2.out.a
  go_wp2_with fail
  refine (take_any v o q _ HV.out).mono ?_
  rintro e w3 ⟨rfl, b3⟩
  have H3 := Lib.hid ((H2.out.alloc _).next b3)
  have B7 := Lib.hid ((Blk.new w2 _ _).below b3)
  have B5' := Lib.hid ((B5.out.alloc _).below b3)
  clear b3 z0 z1 i0 i1 c0 c1 c2 c3 c4 c5 c6 c7 B5
  obtain ⟨i0, i1, _⟩ := H3.out.cells
  have z0 := H3.out.a.lt
  have z1 := H3.out.i.lt
  obtain ⟨c0, c1, c2, c3, c4, c5, c6, c7⟩ := vec_cells H3.out.a
  go_wp2_with fail
  refine (rtake_any v o q _ HV.out).mono ?_
  rintro e w4 ⟨rfl, b4⟩
  have H4 := Lib.hid ((H3.out.alloc _).next b4)
  have B9 := Lib.hid ((Blk.new w3 _ _).below b4)
  have B7' := Lib.hid ((B7.out.alloc _).below b4)
  have B5 := Lib.hid ((B5'.out.alloc _).below b4)
  clear b4 z0 z1 i0 i1 c0 c1 c2 c3 c4 c5 c6 c7 B5' B7
  go_wp2_with fail
  have hT : VT w v o q w1.heap.size w2.heap.size w3.heap.size w4.heap.size (w4.alloc (.cells #[.int .u32 ((takeV v o q).1 0), .int .u32 ((takeV v o q).1 1), .int .u32 ((takeV v o q).1 2), .int .u32 ((takeV v o q).1 3), .int .u32 ((takeV v o q).1 4), .int .u32 ((takeV v o q).1 5), .int .u32 ((takeV v o q).1 6), .int .u32 ((takeV v o q).1 7)] 24)) := ⟨(H4.out.alloc _).bel, (H4.out.alloc _).a, (H4.out.alloc _).i, B5.out.alloc _, B7'.out.alloc _, B9.out.alloc _, Blk.new _ _ _⟩
  have ht : ∀ w, (Op.equalIn 10000 24 (.agg #[.int .u32 ((takeV v o q).1 0), .int .u32 ((takeV v o q).1 1), .int .u32 ((takeV v o q).1 2), .int .u32 ((takeV v o q).1 3), .int .u32 ((takeV v o q).1 4), .int .u32 ((takeV v o q).1 5), .int .u32 ((takeV v o q).1 6), .int .u32 ((takeV v o q).1 7)]) (.agg #[.int .u32 ((takeV v o q).1 0), .int .u32 ((takeV v o q).1 1), .int .u32 ((takeV v o q).1 2), .int .u32 ((takeV v o q).1 3), .int .u32 ((takeV v o q).1 4), .int .u32 ((takeV v o q).1 5), .int .u32 ((takeV v o q).1 6), .int .u32 ((takeV v o q).1 7)])).run Try.prog w = .ok true w := fun w => by rw [← eqV_self (takeV v o q).1]; exact eql_vec 9998 (takeV v o q).1 (takeV v o q).1 w
  go_region_held3 (fun w' => w'.cell? ⟨w.heap.size, 0, none⟩ = some (.int .u32 (v 0)) ∧ w'.cell? ⟨w.heap.size, 1, none⟩ = some (.int .u32 (v 1)) ∧ w'.cell? ⟨w.heap.size, 2, none⟩ = some (.int .u32 (v 2)) ∧ w'.cell? ⟨w.heap.size, 3, none⟩ = some (.int .u32 (v 3)) ∧ w'.cell? ⟨w.heap.size, 4, none⟩ = some (.int .u32 (v 4)) ∧ w'.cell? ⟨w.heap.size, 5, none⟩ = some (.int .u32 (v 5)) ∧ w'.cell? ⟨w.heap.size, 6, none⟩ = some (.int .u32 (v 6)) ∧ w'.cell? ⟨w.heap.size, 7, none⟩ = some (.int .u32 (v 7)) ∧ w'.cell? ⟨w.heap.size + 1, 0, none⟩ = some (.int .i64 o) ∧ w'.cell? ⟨w.heap.size + 1, 1, none⟩ = some (.int .u32 q) ∧ w'.cell? ⟨w1.heap.size, 0, none⟩ = some (.int .i64 (nextV v o).1) ∧ w'.cell? ⟨w1.heap.size, 1, none⟩ = some (.int .u32 (nextV v o).2.1) ∧ w'.cell? ⟨w2.heap.size, 0, none⟩ = some (.int .i64 (nextV v o).1) ∧ w'.cell? ⟨w2.heap.size, 1, none⟩ = some (.int .u32 (nextV v o).2.1) ∧ w'.cell? ⟨w3.heap.size, 0, none⟩ = some (.int .u32 ((takeV v o q).1 0)) ∧ w'.cell? ⟨w3.heap.size, 1, none⟩ = some (.int .u32 ((takeV v o q).1 1)) ∧ w'.cell? ⟨w3.heap.size, 2, none⟩ = some (.int .u32 ((takeV v o q).1 2)) ∧ w'.cell? ⟨w3.heap.size, 3, none⟩ = some (.int .u32 ((takeV v o q).1 3)) ∧ w'.cell? ⟨w3.heap.size, 4, none⟩ = some (.int .u32 ((takeV v o q).1 4)) ∧ w'.cell? ⟨w3.heap.size, 5, none⟩ = some (.int .u32 ((takeV v o q).1 5)) ∧ w'.cell? ⟨w3.heap.size, 6, none⟩ = some (.int .u32 ((takeV v o q).1 6)) ∧ w'.cell? ⟨w3.heap.size, 7, none⟩ = some (.int .u32 ((takeV v o q).1 7)) ∧ w'.cell? ⟨w4.heap.size, 0, none⟩ = some (.int .u32 ((takeV v o q).1 0)) ∧ w'.cell? ⟨w4.heap.size, 1, none⟩ = some (.int .u32 ((takeV v o q).1 1)) ∧ w'.cell? ⟨w4.heap.size, 2, none⟩ = some (.int .u32 ((takeV v o q).1 2)) ∧ w'.cell? ⟨w4.heap.size, 3, none⟩ = some (.int .u32 ((takeV v o q).1 3)) ∧ w'.cell? ⟨w4.heap.size, 4, none⟩ = some (.int .u32 ((takeV v o q).1 4)) ∧ w'.cell? ⟨w4.heap.size, 5, none⟩ = some (.int .u32 ((takeV v o q).1 5)) ∧ w'.cell? ⟨w4.heap.size, 6, none⟩ = some (.int .u32 ((takeV v o q).1 6)) ∧ w'.cell? ⟨w4.heap.size, 7, none⟩ = some (.int .u32 ((takeV v o q).1 7)) ∧ VT w v o q w1.heap.size w2.heap.size w3.heap.size w4.heap.size w') (first | exact VT.cells (by assumption) | exact VT.cells (VT.drew (by assumption))) (first | (go_at_call 19; refine (has_VT (w := w) (v := v) (o := o) (q := q) (g5 := w1.heap.size) (g7 := w2.heap.size) (g9 := w3.heap.size) (gb := w4.heap.size) _ _ _ (by first | assumption | exact VT.last (by assumption))).mono ?_; rintro e wa0 ⟨rfl, hJ0⟩) | (go_at_call 20; refine (rhas_VT (w := w) (v := v) (o := o) (q := q) (g5 := w1.heap.size) (g7 := w2.heap.size) (g9 := w3.heap.size) (gb := w4.heap.size) _ _ _ (by first | assumption | exact VT.last (by assumption))).mono ?_; rintro e wa1 ⟨rfl, hJ1⟩))
  all_goals
    go_wp2
    go_ret
    exact ⟨rfl, VT.bel (by assumption)⟩

theorem vecTakes_walk (v : Nat → Int) (o q : Int) (w : World) (wv : ∀ i, i < 8 → (Lit.int .u32 (v i)).wf = true) (_ : (Lit.int .i64 o).wf = true) (_ : (Lit.int .u32 q).wf = true) :
    Calls Try.prog 4 #[.agg #[.int .u32 (v 0), .int .u32 (v 1), .int .u32 (v 2), .int .u32 (v 3), .int .u32 (v 4), .int .u32 (v 5), .int .u32 (v 6), .int .u32 (v 7)], .agg #[.int .i64 o, .int .u32 q]] w fun e w' => e = .returned (.bool true) ∧ Below w.heap.size w w' :=
  vecTakes_core v o q w (vec_bounds wv)
end Go.Proofs.Ytfmdmifpgmkohaa
