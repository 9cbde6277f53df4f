/-
  Two vectors compared as arrays: the operation's own answer; and what LE of package vec answers.
  Conditions: none.
-/
import Derived.Test.YthbdjgebpjffgaaGreatDoorOctB
import Derived.Test.YthbdjgebpjffgaaGreatDoorVecC
import Derived.RegionTactic
set_option linter.unusedVariables false
set_option linter.unusedSimpArgs false
namespace Go.Proofs.YthbdjgebpjffgaaGreatDoor
open Go.RowKit

theorem eqV_chain (a b : Nat → Int) : eqV a b = (a 0 == b 0 && (a 1 == b 1 && (a 2 == b 2 && (a 3 == b 3 && (a 4 == b 4 && (a 5 == b 5 && (a 6 == b 6 && a 7 == b 7))))))) := by
  rw [Bool.eq_iff_iff, eqV_iff]
  simp only [Bool.and_eq_true, beq_iff_eq]
  constructor
  · intro h; exact ⟨h 0 (by omega), h 1 (by omega), h 2 (by omega), h 3 (by omega), h 4 (by omega), h 5 (by omega), h 6 (by omega), h 7 (by omega)⟩
  · rintro ⟨h0, h1, h2, h3, h4, h5, h6, h7⟩ i hi
    match i, hi with
    | 0, _ => exact h0
    | 1, _ => exact h1
    | 2, _ => exact h2
    | 3, _ => exact h3
    | 4, _ => exact h4
    | 5, _ => exact h5
    | 6, _ => exact h6
    | 7, _ => exact h7

theorem part_vec (v : Nat → Int) (w : World) :
    (part 22 #[.int .u32 (v 0), .int .u32 (v 1), .int .u32 (v 2), .int .u32 (v 3), .int .u32 (v 4), .int .u32 (v 5), .int .u32 (v 6), .int .u32 (v 7)] 0).run Tryz.prog w = .ok (.int .u32 (v 0)) w ∧ (part 22 #[.int .u32 (v 0), .int .u32 (v 1), .int .u32 (v 2), .int .u32 (v 3), .int .u32 (v 4), .int .u32 (v 5), .int .u32 (v 6), .int .u32 (v 7)] 1).run Tryz.prog w = .ok (.int .u32 (v 1)) w ∧ (part 22 #[.int .u32 (v 0), .int .u32 (v 1), .int .u32 (v 2), .int .u32 (v 3), .int .u32 (v 4), .int .u32 (v 5), .int .u32 (v 6), .int .u32 (v 7)] 2).run Tryz.prog w = .ok (.int .u32 (v 2)) w ∧ (part 22 #[.int .u32 (v 0), .int .u32 (v 1), .int .u32 (v 2), .int .u32 (v 3), .int .u32 (v 4), .int .u32 (v 5), .int .u32 (v 6), .int .u32 (v 7)] 3).run Tryz.prog w = .ok (.int .u32 (v 3)) w ∧ (part 22 #[.int .u32 (v 0), .int .u32 (v 1), .int .u32 (v 2), .int .u32 (v 3), .int .u32 (v 4), .int .u32 (v 5), .int .u32 (v 6), .int .u32 (v 7)] 4).run Tryz.prog w = .ok (.int .u32 (v 4)) w ∧ (part 22 #[.int .u32 (v 0), .int .u32 (v 1), .int .u32 (v 2), .int .u32 (v 3), .int .u32 (v 4), .int .u32 (v 5), .int .u32 (v 6), .int .u32 (v 7)] 5).run Tryz.prog w = .ok (.int .u32 (v 5)) w ∧ (part 22 #[.int .u32 (v 0), .int .u32 (v 1), .int .u32 (v 2), .int .u32 (v 3), .int .u32 (v 4), .int .u32 (v 5), .int .u32 (v 6), .int .u32 (v 7)] 6).run Tryz.prog w = .ok (.int .u32 (v 6)) w ∧ (part 22 #[.int .u32 (v 0), .int .u32 (v 1), .int .u32 (v 2), .int .u32 (v 3), .int .u32 (v 4), .int .u32 (v 5), .int .u32 (v 6), .int .u32 (v 7)] 7).run Tryz.prog w = .ok (.int .u32 (v 7)) w :=
  ⟨by kernel_rfl, by kernel_rfl, by kernel_rfl, by kernel_rfl, by kernel_rfl, by kernel_rfl, by kernel_rfl, by kernel_rfl⟩
theorem size_u32 (w : World) : (sizeOf 22).run Tryz.prog w = .ok 1 w := by kernel_rfl
theorem eql_u32 (d : Nat) (x y : Int) (w : World) : (Op.equalIn (d + 1) 22 (.int .u32 x) (.int .u32 y)).run Tryz.prog w = .ok (x == y) w :=
  run_equalIn_int w d 22 .u32 .u32 x y Tryz.underlying22

theorem eql_vec (d : Nat) (a b : Nat → Int) (w : World) : (Op.equalIn (d + 2) 24 (.agg #[.int .u32 (a 0), .int .u32 (a 1), .int .u32 (a 2), .int .u32 (a 3), .int .u32 (a 4), .int .u32 (a 5), .int .u32 (a 6), .int .u32 (a 7)]) (.agg #[.int .u32 (b 0), .int .u32 (b 1), .int .u32 (b 2), .int .u32 (b 3), .int .u32 (b 4), .int .u32 (b 5), .int .u32 (b 6), .int .u32 (b 7)])).run Tryz.prog w = .ok (eqV a b) w := by
  obtain ⟨p0, p1, p2, p3, p4, p5, p6, p7⟩ := part_vec a w
  obtain ⟨q0, q1, q2, q3, q4, q5, q6, q7⟩ := part_vec b w
  rw [Op.equalIn]
  simp only [Sem.run_bind, run_underlying Tryz.underlying24, Result.andThen_ok, size_u32, Std.Legacy.Range.forIn_eq_forIn_range']
  simp only [Std.Legacy.Range.size, List.range', List.forIn_cons, List.forIn_nil, Sem.run_bind, Result.andThen_ok, Nat.mul_one, p0, q0, eql_u32]
  rw [eqV_chain]
  cases h0 : (a 0 == b 0)
  · simp only [Bool.not_false, if_true, Sem.run_pure, Result.andThen_ok, Bool.false_and]
  simp only [Bool.not_true, Bool.false_eq_true, if_false, Sem.run_pure, Result.andThen_ok, Sem.run_bind, Nat.zero_add, Nat.reduceAdd, p1, q1, eql_u32, Bool.true_and]
  cases h1 : (a 1 == b 1)
  · simp only [Bool.not_false, if_true, Sem.run_pure, Result.andThen_ok, Bool.false_and]
  simp only [Bool.not_true, Bool.false_eq_true, if_false, Sem.run_pure, Result.andThen_ok, Sem.run_bind, p2, q2, eql_u32, Bool.true_and]
  cases h2 : (a 2 == b 2)
  · simp only [Bool.not_false, if_true, Sem.run_pure, Result.andThen_ok, Bool.false_and]
  simp only [Bool.not_true, Bool.false_eq_true, if_false, Sem.run_pure, Result.andThen_ok, Sem.run_bind, p3, q3, eql_u32, Bool.true_and]
  cases h3 : (a 3 == b 3)
  · simp only [Bool.not_false, if_true, Sem.run_pure, Result.andThen_ok, Bool.false_and]
  simp only [Bool.not_true, Bool.false_eq_true, if_false, Sem.run_pure, Result.andThen_ok, Sem.run_bind, p4, q4, eql_u32, Bool.true_and]
  cases h4 : (a 4 == b 4)
  · simp only [Bool.not_false, if_true, Sem.run_pure, Result.andThen_ok, Bool.false_and]
  simp only [Bool.not_true, Bool.false_eq_true, if_false, Sem.run_pure, Result.andThen_ok, Sem.run_bind, p5, q5, eql_u32, Bool.true_and]
  cases h5 : (a 5 == b 5)
  · simp only [Bool.not_false, if_true, Sem.run_pure, Result.andThen_ok, Bool.false_and]
  simp only [Bool.not_true, Bool.false_eq_true, if_false, Sem.run_pure, Result.andThen_ok, Sem.run_bind, p6, q6, eql_u32, Bool.true_and]
  cases h6 : (a 6 == b 6)
  · simp only [Bool.not_false, if_true, Sem.run_pure, Result.andThen_ok, Bool.false_and]
  simp only [Bool.not_true, Bool.false_eq_true, if_false, Sem.run_pure, Result.andThen_ok, Sem.run_bind, p7, q7, eql_u32, Bool.true_and]
  cases h7 : (a 7 == b 7)
  · simp only [Bool.not_false, if_true, Sem.run_pure, Result.andThen_ok]
  simp only [Bool.not_true, Bool.false_eq_true, if_false, Sem.run_pure, Result.andThen_ok]

/-- One vector in a block of its own, and all that was before. -/
structure Two (w : World) (a b : Nat → Int) (wr : World) : Prop where
  bel : Below w.heap.size w wr
  a : Blk wr w.heap.size #[.int .u32 (a 0), .int .u32 (a 1), .int .u32 (a 2), .int .u32 (a 3), .int .u32 (a 4), .int .u32 (a 5), .int .u32 (a 6), .int .u32 (a 7)] 24
  b : Blk wr (w.heap.size + 1) #[.int .u32 (b 0), .int .u32 (b 1), .int .u32 (b 2), .int .u32 (b 3), .int .u32 (b 4), .int .u32 (b 5), .int .u32 (b 6), .int .u32 (b 7)] 24
theorem Two.start (w : World) (a b : Nat → Int) : Two w a b ((w.alloc (.cells #[.int .u32 (a 0), .int .u32 (a 1), .int .u32 (a 2), .int .u32 (a 3), .int .u32 (a 4), .int .u32 (a 5), .int .u32 (a 6), .int .u32 (a 7)] 24)).alloc (.cells #[.int .u32 (b 0), .int .u32 (b 1), .int .u32 (b 2), .int .u32 (b 3), .int .u32 (b 4), .int .u32 (b 5), .int .u32 (b 6), .int .u32 (b 7)] 24)) where
  bel := ((Below.refl w.heap.size w).alloc (Nat.le_refl _) _).alloc (by simp) _
  a := (Blk.new w #[.int .u32 (a 0), .int .u32 (a 1), .int .u32 (a 2), .int .u32 (a 3), .int .u32 (a 4), .int .u32 (a 5), .int .u32 (a 6), .int .u32 (a 7)] 24).alloc _
  b := by
    have := Blk.new (w.alloc (.cells #[.int .u32 (a 0), .int .u32 (a 1), .int .u32 (a 2), .int .u32 (a 3), .int .u32 (a 4), .int .u32 (a 5), .int .u32 (a 6), .int .u32 (a 7)] 24)) #[.int .u32 (b 0), .int .u32 (b 1), .int .u32 (b 2), .int .u32 (b 3), .int .u32 (b 4), .int .u32 (b 5), .int .u32 (b 6), .int .u32 (b 7)] 24
    rwa [show (w.alloc (.cells #[.int .u32 (a 0), .int .u32 (a 1), .int .u32 (a 2), .int .u32 (a 3), .int .u32 (a 4), .int .u32 (a 5), .int .u32 (a 6), .int .u32 (a 7)] 24)).heap.size = w.heap.size + 1 by simp] at this
theorem Two.drew {w wr : World} {a b : Nat → Int} (h : Two w a b wr) : Two w a b wr.drew := ⟨⟨h.bel.os, h.bel.tape, h.bel.output, h.bel.size, h.bel.block⟩, h.a, h.b⟩
theorem Two.drewN {w wr : World} {a b : Nat → Int} (h : Two w a b wr) (n : Nat) : Two w a b (wr.drewN n) := ⟨below_drewN h.bel n, h.a.drewN n, h.b.drewN n⟩
theorem Two.next {w wr w' : World} {a b : Nat → Int} (h : Two w a b wr) (hb : Below wr.heap.size wr w') : Two w a b w' := ⟨below_then h.bel hb, h.a.below hb, h.b.below hb⟩
theorem Two.cells {w wr : World} {a b : Nat → Int} (h : Two w a b wr) : wr.cell? ⟨w.heap.size, 0, none⟩ = some (.int .u32 (a 0)) ∧ wr.cell? ⟨w.heap.size, 1, none⟩ = some (.int .u32 (a 1)) ∧ wr.cell? ⟨w.heap.size, 2, none⟩ = some (.int .u32 (a 2)) ∧ wr.cell? ⟨w.heap.size, 3, none⟩ = some (.int .u32 (a 3)) ∧ wr.cell? ⟨w.heap.size, 4, none⟩ = some (.int .u32 (a 4)) ∧ wr.cell? ⟨w.heap.size, 5, none⟩ = some (.int .u32 (a 5)) ∧ wr.cell? ⟨w.heap.size, 6, none⟩ = some (.int .u32 (a 6)) ∧ wr.cell? ⟨w.heap.size, 7, none⟩ = some (.int .u32 (a 7)) ∧ wr.cell? ⟨w.heap.size + 1, 0, none⟩ = some (.int .u32 (b 0)) ∧ wr.cell? ⟨w.heap.size + 1, 1, none⟩ = some (.int .u32 (b 1)) ∧ wr.cell? ⟨w.heap.size + 1, 2, none⟩ = some (.int .u32 (b 2)) ∧ wr.cell? ⟨w.heap.size + 1, 3, none⟩ = some (.int .u32 (b 3)) ∧ wr.cell? ⟨w.heap.size + 1, 4, none⟩ = some (.int .u32 (b 4)) ∧ wr.cell? ⟨w.heap.size + 1, 5, none⟩ = some (.int .u32 (b 5)) ∧ wr.cell? ⟨w.heap.size + 1, 6, none⟩ = some (.int .u32 (b 6)) ∧ wr.cell? ⟨w.heap.size + 1, 7, none⟩ = some (.int .u32 (b 7)) ∧ Two w a b wr :=
  ⟨vec_cell h.a 0 (by omega), vec_cell h.a 1 (by omega), vec_cell h.a 2 (by omega), vec_cell h.a 3 (by omega), vec_cell h.a 4 (by omega), vec_cell h.a 5 (by omega), vec_cell h.a 6 (by omega), vec_cell h.a 7 (by omega), vec_cell h.b 0 (by omega), vec_cell h.b 1 (by omega), vec_cell h.b 2 (by omega), vec_cell h.b 3 (by omega), vec_cell h.b 4 (by omega), vec_cell h.b 5 (by omega), vec_cell h.b 6 (by omega), vec_cell h.b 7 (by omega), h⟩
theorem Two.held {w wr : World} {a b : Nat → Int} {c0 c1 c2 c3 c4 c5 c6 c7 d0 d1 d2 d3 d4 d5 d6 d7 : Prop} (h : c0 ∧ c1 ∧ c2 ∧ c3 ∧ c4 ∧ c5 ∧ c6 ∧ c7 ∧ d0 ∧ d1 ∧ d2 ∧ d3 ∧ d4 ∧ d5 ∧ d6 ∧ d7 ∧ Two w a b wr) : Two w a b wr := h.2.2.2.2.2.2.2.2.2.2.2.2.2.2.2.2

end Go.Proofs.YthbdjgebpjffgaaGreatDoor
