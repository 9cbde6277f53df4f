/-
  Three vectors, and their bounds in blocks of their own: what the law VecOrder holds; the statement that makes the two bounds, whatever order Go takes.
  Conditions: none.
-/
import Derived.Test.YtfmdmifpgmkohaaDoorVecE
import Derived.Test.YtfmdmifpgmkohaaDoorVecW
import Derived.Deep.CutRange
import Derived.Deep.DeepCutAuto
namespace Go.Proofs.YtfmdmifpgmkohaaDoor
open Go.RowKit
set_option linter.unusedSimpArgs false

/-- Three vectors, each in a block of its own. -/
structure T3 (w : World) (a b c : Nat → Int) (wr : World) : Prop where
  bel : Below w.heap.size w wr
  a : Blk wr w.heap.size #[.int .u32 (a 0), .int .u32 (a 1), .int .u32 (a 2), .int .u32 (a 3), .int .u32 (a 4), .int .u32 (a 5), .int .u32 (a 6), .int .u32 (a 7)] 24
  b : Blk wr (w.heap.size + 1) #[.int .u32 (b 0), .int .u32 (b 1), .int .u32 (b 2), .int .u32 (b 3), .int .u32 (b 4), .int .u32 (b 5), .int .u32 (b 6), .int .u32 (b 7)] 24
  c : Blk wr (w.heap.size + 1 + 1) #[.int .u32 (c 0), .int .u32 (c 1), .int .u32 (c 2), .int .u32 (c 3), .int .u32 (c 4), .int .u32 (c 5), .int .u32 (c 6), .int .u32 (c 7)] 24
section
variable {w wr w' : World} {a b c : Nat → Int}
theorem T3.start (w : World) (a b c : Nat → Int) : T3 w a b c (((w.alloc (.cells #[.int .u32 (a 0), .int .u32 (a 1), .int .u32 (a 2), .int .u32 (a 3), .int .u32 (a 4), .int .u32 (a 5), .int .u32 (a 6), .int .u32 (a 7)] 24)).alloc (.cells #[.int .u32 (b 0), .int .u32 (b 1), .int .u32 (b 2), .int .u32 (b 3), .int .u32 (b 4), .int .u32 (b 5), .int .u32 (b 6), .int .u32 (b 7)] 24)).alloc (.cells #[.int .u32 (c 0), .int .u32 (c 1), .int .u32 (c 2), .int .u32 (c 3), .int .u32 (c 4), .int .u32 (c 5), .int .u32 (c 6), .int .u32 (c 7)] 24)) where
  bel := (Two.start w a b).bel.alloc (by simp; omega) _
  a := (Two.start w a b).a.alloc _
  b := (Two.start w a b).b.alloc _
  c := by
    have := Blk.new ((w.alloc (.cells #[.int .u32 (a 0), .int .u32 (a 1), .int .u32 (a 2), .int .u32 (a 3), .int .u32 (a 4), .int .u32 (a 5), .int .u32 (a 6), .int .u32 (a 7)] 24)).alloc (.cells #[.int .u32 (b 0), .int .u32 (b 1), .int .u32 (b 2), .int .u32 (b 3), .int .u32 (b 4), .int .u32 (b 5), .int .u32 (b 6), .int .u32 (b 7)] 24)) #[.int .u32 (c 0), .int .u32 (c 1), .int .u32 (c 2), .int .u32 (c 3), .int .u32 (c 4), .int .u32 (c 5), .int .u32 (c 6), .int .u32 (c 7)] 24
    rwa [show ((w.alloc (.cells #[.int .u32 (a 0), .int .u32 (a 1), .int .u32 (a 2), .int .u32 (a 3), .int .u32 (a 4), .int .u32 (a 5), .int .u32 (a 6), .int .u32 (a 7)] 24)).alloc (.cells #[.int .u32 (b 0), .int .u32 (b 1), .int .u32 (b 2), .int .u32 (b 3), .int .u32 (b 4), .int .u32 (b 5), .int .u32 (b 6), .int .u32 (b 7)] 24)).heap.size = w.heap.size + 1 + 1 by simp] at this
theorem T3.drew (h : T3 w a b c wr) : T3 w a b c wr.drew := ⟨⟨h.bel.os, h.bel.tape, h.bel.output, h.bel.size, h.bel.block⟩, h.a, h.b, h.c⟩
theorem T3.next (h : T3 w a b c wr) (hb : Below wr.heap.size wr w') : T3 w a b c w' := ⟨below_then h.bel hb, h.a.below hb, h.b.below hb, h.c.below hb⟩
theorem T3.alloc (h : T3 w a b c wr) (o : Obj) : T3 w a b c (wr.alloc o) := ⟨below_new h.bel o, h.a.alloc o, h.b.alloc o, h.c.alloc o⟩
theorem T3.set (h : T3 w a b c wr) (g : Nat) (hg : w.heap.size + 1 + 1 < g) (j : Nat) (v : Value) : T3 w a b c (wr.setCell ⟨g, j, none⟩ v) :=
  ⟨h.bel.setCell (by simp; omega) _, h.a.far (by omega) _ _, h.b.far (by omega) _ _, h.c.far (by omega) _ _⟩
theorem T3.two (h : T3 w a b c wr) : wr.cell? ⟨w.heap.size, 0, none⟩ = some (.int .u32 (a 0)) ∧ wr.cell? ⟨w.heap.size, 1, none⟩ = some (.int .u32 (a 1)) ∧ wr.cell? ⟨w.heap.size, 2, none⟩ = some (.int .u32 (a 2)) ∧ wr.cell? ⟨w.heap.size, 3, none⟩ = some (.int .u32 (a 3)) ∧ wr.cell? ⟨w.heap.size, 4, none⟩ = some (.int .u32 (a 4)) ∧ wr.cell? ⟨w.heap.size, 5, none⟩ = some (.int .u32 (a 5)) ∧ wr.cell? ⟨w.heap.size, 6, none⟩ = some (.int .u32 (a 6)) ∧ wr.cell? ⟨w.heap.size, 7, none⟩ = some (.int .u32 (a 7)) ∧ wr.cell? ⟨w.heap.size + 1, 0, none⟩ = some (.int .u32 (b 0)) ∧ wr.cell? ⟨w.heap.size + 1, 1, none⟩ = some (.int .u32 (b 1)) ∧ wr.cell? ⟨w.heap.size + 1, 2, none⟩ = some (.int .u32 (b 2)) ∧ wr.cell? ⟨w.heap.size + 1, 3, none⟩ = some (.int .u32 (b 3)) ∧ wr.cell? ⟨w.heap.size + 1, 4, none⟩ = some (.int .u32 (b 4)) ∧ wr.cell? ⟨w.heap.size + 1, 5, none⟩ = some (.int .u32 (b 5)) ∧ wr.cell? ⟨w.heap.size + 1, 6, none⟩ = some (.int .u32 (b 6)) ∧ wr.cell? ⟨w.heap.size + 1, 7, none⟩ = some (.int .u32 (b 7)) ∧ T3 w a b c wr :=
  ⟨vec_cell h.a 0 (by omega), vec_cell h.a 1 (by omega), vec_cell h.a 2 (by omega), vec_cell h.a 3 (by omega), vec_cell h.a 4 (by omega), vec_cell h.a 5 (by omega), vec_cell h.a 6 (by omega), vec_cell h.a 7 (by omega), vec_cell h.b 0 (by omega), vec_cell h.b 1 (by omega), vec_cell h.b 2 (by omega), vec_cell h.b 3 (by omega), vec_cell h.b 4 (by omega), vec_cell h.b 5 (by omega), vec_cell h.b 6 (by omega), vec_cell h.b 7 (by omega), h⟩
theorem T3.held2 {c0 c1 c2 c3 c4 c5 c6 c7 d0 d1 d2 d3 d4 d5 d6 d7 : Prop} (h : c0 ∧ c1 ∧ c2 ∧ c3 ∧ c4 ∧ c5 ∧ c6 ∧ c7 ∧ d0 ∧ d1 ∧ d2 ∧ d3 ∧ d4 ∧ d5 ∧ d6 ∧ d7 ∧ T3 w a b c wr) : T3 w a b c wr := h.2.2.2.2.2.2.2.2.2.2.2.2.2.2.2.2
/-- What a call leaves that only makes memory. -/
def Kept (W w' : World) : Prop := Below W.heap.size W w'
theorem Kept.cell {W : World} (h : Kept W w') : ∀ b o, b < W.heap.size → w'.cell? ⟨b, o, none⟩ = W.cell? ⟨b, o, none⟩ := fun b o hb => Below.cell (p := ⟨b, o, none⟩) h hb
theorem Kept.free {W : World} (h : Kept W w') : ∀ b o, b < W.heap.size → w'.frozen? ⟨b, o, none⟩ = W.frozen? ⟨b, o, none⟩ := fun b o hb => Below.frozen (p := ⟨b, o, none⟩) h hb
theorem Kept.lt {W : World} (h : Kept W w') : ∀ k, k < W.heap.size → k < w'.heap.size := fun _ hk => Nat.lt_of_lt_of_le hk (Below.size h)
theorem join_T3 (x y : Nat → Int) (h : T3 w a b c wr) :
    Calls Tryd.prog 18 #[.agg #[.int .u32 (x 0), .int .u32 (x 1), .int .u32 (x 2), .int .u32 (x 3), .int .u32 (x 4), .int .u32 (x 5), .int .u32 (x 6), .int .u32 (x 7)], .agg #[.int .u32 (y 0), .int .u32 (y 1), .int .u32 (y 2), .int .u32 (y 3), .int .u32 (y 4), .int .u32 (y 5), .int .u32 (y 6), .int .u32 (y 7)]] wr fun e w' => e = .returned (.agg #[.int .u32 (joinV x y 0), .int .u32 (joinV x y 1), .int .u32 (joinV x y 2), .int .u32 (joinV x y 3), .int .u32 (joinV x y 4), .int .u32 (joinV x y 5), .int .u32 (joinV x y 6), .int .u32 (joinV x y 7)]) ∧ T3 w a b c w' ∧ Kept wr w' :=
  (join_any x y wr).mono fun _ _ ⟨h1, h2⟩ => ⟨h1, h.next h2, h2⟩
theorem meet_T3 (x y : Nat → Int) (h : T3 w a b c wr) :
    Calls Tryd.prog 19 #[.agg #[.int .u32 (x 0), .int .u32 (x 1), .int .u32 (x 2), .int .u32 (x 3), .int .u32 (x 4), .int .u32 (x 5), .int .u32 (x 6), .int .u32 (x 7)], .agg #[.int .u32 (y 0), .int .u32 (y 1), .int .u32 (y 2), .int .u32 (y 3), .int .u32 (y 4), .int .u32 (y 5), .int .u32 (y 6), .int .u32 (y 7)]] wr fun e w' => e = .returned (.agg #[.int .u32 (meetV x y 0), .int .u32 (meetV x y 1), .int .u32 (meetV x y 2), .int .u32 (meetV x y 3), .int .u32 (meetV x y 4), .int .u32 (meetV x y 5), .int .u32 (meetV x y 6), .int .u32 (meetV x y 7)]) ∧ T3 w a b c w' ∧ Kept wr w' :=
  (meet_any x y wr).mono fun _ _ ⟨h1, h2⟩ => ⟨h1, h.next h2, h2⟩
end

/-- .. and the two bounds. -/
structure VO (w : World) (a b c : Nat → Int) (g h : Nat) (wr : World) : Prop where
  t : T3 w a b c wr
  j : Blk wr g #[.int .u32 (joinV a b 0), .int .u32 (joinV a b 1), .int .u32 (joinV a b 2), .int .u32 (joinV a b 3), .int .u32 (joinV a b 4), .int .u32 (joinV a b 5), .int .u32 (joinV a b 6), .int .u32 (joinV a b 7)] 24
  m : Blk wr h #[.int .u32 (meetV a b 0), .int .u32 (meetV a b 1), .int .u32 (meetV a b 2), .int .u32 (meetV a b 3), .int .u32 (meetV a b 4), .int .u32 (meetV a b 5), .int .u32 (meetV a b 6), .int .u32 (meetV a b 7)] 24

section
variable {w W : World} {a b c : Nat → Int}
theorem Blk.drew1 {g : Nat} {cs : Array Value} {T : TypeId} (h : Blk W g cs T) : Blk W.drew g cs T := h
theorem Kept.blk {w' : World} {g : Nat} {cs : Array Value} {T : TypeId} (k : Kept W w') (h : Blk W g cs T) : Blk w' g cs T := Blk.below h k
theorem blk_newS (W : World) (o : Obj) (cs : Array Value) (T : TypeId) : Blk ((W.alloc o).alloc (.cells cs T)) (W.heap.size + 1) cs T := by
  have := Blk.new (W.alloc o) cs T
  simpa using this
/-- A whole vector stored into a block of its own. -/
theorem set8_same {g : Nat} (v : Nat → Int) (h : Blk W g #[.int .u32 0, .int .u32 0, .int .u32 0, .int .u32 0, .int .u32 0, .int .u32 0, .int .u32 0, .int .u32 0] 24) : Blk ((((((((W.setCell ⟨g, 0, none⟩ (.int .u32 (v 0))).setCell ⟨g, 1, none⟩ (.int .u32 (v 1))).setCell ⟨g, 2, none⟩ (.int .u32 (v 2))).setCell ⟨g, 3, none⟩ (.int .u32 (v 3))).setCell ⟨g, 4, none⟩ (.int .u32 (v 4))).setCell ⟨g, 5, none⟩ (.int .u32 (v 5))).setCell ⟨g, 6, none⟩ (.int .u32 (v 6))).setCell ⟨g, 7, none⟩ (.int .u32 (v 7))) g #[.int .u32 (v 0), .int .u32 (v 1), .int .u32 (v 2), .int .u32 (v 3), .int .u32 (v 4), .int .u32 (v 5), .int .u32 (v 6), .int .u32 (v 7)] 24 := by
  have t := (((((((h.set 0 (.int .u32 (v 0))).set 1 (.int .u32 (v 1))).set 2 (.int .u32 (v 2))).set 3 (.int .u32 (v 3))).set 4 (.int .u32 (v 4))).set 5 (.int .u32 (v 5))).set 6 (.int .u32 (v 6))).set 7 (.int .u32 (v 7))
  simp only [List.setIfInBounds_toArray, List.set_cons_zero, List.set_cons_succ] at t
  exact t
theorem set8_far {g r : Nat} (v : Nat → Int) {cs : Array Value} {T : TypeId} (h : Blk W r cs T) (hr : r ≠ g) : Blk ((((((((W.setCell ⟨g, 0, none⟩ (.int .u32 (v 0))).setCell ⟨g, 1, none⟩ (.int .u32 (v 1))).setCell ⟨g, 2, none⟩ (.int .u32 (v 2))).setCell ⟨g, 3, none⟩ (.int .u32 (v 3))).setCell ⟨g, 4, none⟩ (.int .u32 (v 4))).setCell ⟨g, 5, none⟩ (.int .u32 (v 5))).setCell ⟨g, 6, none⟩ (.int .u32 (v 6))).setCell ⟨g, 7, none⟩ (.int .u32 (v 7))) r cs T := (((((((h.far hr 0 _).far hr 1 _).far hr 2 _).far hr 3 _).far hr 4 _).far hr 5 _).far hr 6 _).far hr 7 _
theorem set8_T3 {g : Nat} (v : Nat → Int) (h : T3 w a b c W) (hg : w.heap.size + 1 + 1 < g) : T3 w a b c ((((((((W.setCell ⟨g, 0, none⟩ (.int .u32 (v 0))).setCell ⟨g, 1, none⟩ (.int .u32 (v 1))).setCell ⟨g, 2, none⟩ (.int .u32 (v 2))).setCell ⟨g, 3, none⟩ (.int .u32 (v 3))).setCell ⟨g, 4, none⟩ (.int .u32 (v 4))).setCell ⟨g, 5, none⟩ (.int .u32 (v 5))).setCell ⟨g, 6, none⟩ (.int .u32 (v 6))).setCell ⟨g, 7, none⟩ (.int .u32 (v 7))) := (((((((h.set g hg 0 _).set g hg 1 _).set g hg 2 _).set g hg 3 _).set g hg 4 _).set g hg 5 _).set g hg 6 _).set g hg 7 _
theorem VO.s1 (h : T3 w a b c W) : VO w a b c W.heap.size (W.heap.size + 1) ((W.alloc (.cells #[.int .u32 (joinV a b 0), .int .u32 (joinV a b 1), .int .u32 (joinV a b 2), .int .u32 (joinV a b 3), .int .u32 (joinV a b 4), .int .u32 (joinV a b 5), .int .u32 (joinV a b 6), .int .u32 (joinV a b 7)] 24)).alloc (.cells #[.int .u32 (meetV a b 0), .int .u32 (meetV a b 1), .int .u32 (meetV a b 2), .int .u32 (meetV a b 3), .int .u32 (meetV a b 4), .int .u32 (meetV a b 5), .int .u32 (meetV a b 6), .int .u32 (meetV a b 7)] 24)) :=
  ⟨(h.alloc _).alloc _, (Blk.new _ _ _).alloc _, blk_newS _ _ _ _⟩
theorem VO.s1r (h : T3 w a b c W) : VO w a b c (W.heap.size + 1) W.heap.size ((W.alloc (.cells #[.int .u32 (meetV a b 0), .int .u32 (meetV a b 1), .int .u32 (meetV a b 2), .int .u32 (meetV a b 3), .int .u32 (meetV a b 4), .int .u32 (meetV a b 5), .int .u32 (meetV a b 6), .int .u32 (meetV a b 7)] 24)).alloc (.cells #[.int .u32 (joinV a b 0), .int .u32 (joinV a b 1), .int .u32 (joinV a b 2), .int .u32 (joinV a b 3), .int .u32 (joinV a b 4), .int .u32 (joinV a b 5), .int .u32 (joinV a b 6), .int .u32 (joinV a b 7)] 24)) :=
  ⟨(h.alloc _).alloc _, blk_newS _ _ _ _, (Blk.new _ _ _).alloc _⟩
theorem VO.s2 {g : Nat} (h : T3 w a b c W) (hg : w.heap.size + 1 + 1 < g) (hz : Blk W g #[.int .u32 0, .int .u32 0, .int .u32 0, .int .u32 0, .int .u32 0, .int .u32 0, .int .u32 0, .int .u32 0] 24) : VO w a b c g W.heap.size (((((((((W.setCell ⟨g, 0, none⟩ (.int .u32 (joinV a b 0))).setCell ⟨g, 1, none⟩ (.int .u32 (joinV a b 1))).setCell ⟨g, 2, none⟩ (.int .u32 (joinV a b 2))).setCell ⟨g, 3, none⟩ (.int .u32 (joinV a b 3))).setCell ⟨g, 4, none⟩ (.int .u32 (joinV a b 4))).setCell ⟨g, 5, none⟩ (.int .u32 (joinV a b 5))).setCell ⟨g, 6, none⟩ (.int .u32 (joinV a b 6))).setCell ⟨g, 7, none⟩ (.int .u32 (joinV a b 7))).alloc (.cells #[.int .u32 (meetV a b 0), .int .u32 (meetV a b 1), .int .u32 (meetV a b 2), .int .u32 (meetV a b 3), .int .u32 (meetV a b 4), .int .u32 (meetV a b 5), .int .u32 (meetV a b 6), .int .u32 (meetV a b 7)] 24)) :=
  ⟨(set8_T3 _ h hg).alloc _, (set8_same _ hz).alloc _, by have := Blk.new ((((((((W.setCell ⟨g, 0, none⟩ (.int .u32 (joinV a b 0))).setCell ⟨g, 1, none⟩ (.int .u32 (joinV a b 1))).setCell ⟨g, 2, none⟩ (.int .u32 (joinV a b 2))).setCell ⟨g, 3, none⟩ (.int .u32 (joinV a b 3))).setCell ⟨g, 4, none⟩ (.int .u32 (joinV a b 4))).setCell ⟨g, 5, none⟩ (.int .u32 (joinV a b 5))).setCell ⟨g, 6, none⟩ (.int .u32 (joinV a b 6))).setCell ⟨g, 7, none⟩ (.int .u32 (joinV a b 7))) #[.int .u32 (meetV a b 0), .int .u32 (meetV a b 1), .int .u32 (meetV a b 2), .int .u32 (meetV a b 3), .int .u32 (meetV a b 4), .int .u32 (meetV a b 5), .int .u32 (meetV a b 6), .int .u32 (meetV a b 7)] 24; simpa using this⟩
theorem VO.s2r {g : Nat} (h : T3 w a b c W) (hg : w.heap.size + 1 + 1 < g) (hz : Blk W g #[.int .u32 0, .int .u32 0, .int .u32 0, .int .u32 0, .int .u32 0, .int .u32 0, .int .u32 0, .int .u32 0] 24) : VO w a b c W.heap.size g (((((((((W.setCell ⟨g, 0, none⟩ (.int .u32 (meetV a b 0))).setCell ⟨g, 1, none⟩ (.int .u32 (meetV a b 1))).setCell ⟨g, 2, none⟩ (.int .u32 (meetV a b 2))).setCell ⟨g, 3, none⟩ (.int .u32 (meetV a b 3))).setCell ⟨g, 4, none⟩ (.int .u32 (meetV a b 4))).setCell ⟨g, 5, none⟩ (.int .u32 (meetV a b 5))).setCell ⟨g, 6, none⟩ (.int .u32 (meetV a b 6))).setCell ⟨g, 7, none⟩ (.int .u32 (meetV a b 7))).alloc (.cells #[.int .u32 (joinV a b 0), .int .u32 (joinV a b 1), .int .u32 (joinV a b 2), .int .u32 (joinV a b 3), .int .u32 (joinV a b 4), .int .u32 (joinV a b 5), .int .u32 (joinV a b 6), .int .u32 (joinV a b 7)] 24)) :=
  ⟨(set8_T3 _ h hg).alloc _, by have := Blk.new ((((((((W.setCell ⟨g, 0, none⟩ (.int .u32 (meetV a b 0))).setCell ⟨g, 1, none⟩ (.int .u32 (meetV a b 1))).setCell ⟨g, 2, none⟩ (.int .u32 (meetV a b 2))).setCell ⟨g, 3, none⟩ (.int .u32 (meetV a b 3))).setCell ⟨g, 4, none⟩ (.int .u32 (meetV a b 4))).setCell ⟨g, 5, none⟩ (.int .u32 (meetV a b 5))).setCell ⟨g, 6, none⟩ (.int .u32 (meetV a b 6))).setCell ⟨g, 7, none⟩ (.int .u32 (meetV a b 7))) #[.int .u32 (joinV a b 0), .int .u32 (joinV a b 1), .int .u32 (joinV a b 2), .int .u32 (joinV a b 3), .int .u32 (joinV a b 4), .int .u32 (joinV a b 5), .int .u32 (joinV a b 6), .int .u32 (joinV a b 7)] 24; simpa using this, (set8_same _ hz).alloc _⟩
theorem VO.s3 {g g' : Nat} (h : T3 w a b c W) (hg : w.heap.size + 1 + 1 < g) (hg' : w.heap.size + 1 + 1 < g') (hne : g ≠ g') (hz : Blk W g #[.int .u32 0, .int .u32 0, .int .u32 0, .int .u32 0, .int .u32 0, .int .u32 0, .int .u32 0, .int .u32 0] 24) (hz' : Blk W g' #[.int .u32 0, .int .u32 0, .int .u32 0, .int .u32 0, .int .u32 0, .int .u32 0, .int .u32 0, .int .u32 0] 24) : VO w a b c g g' ((((((((((((((((W.setCell ⟨g, 0, none⟩ (.int .u32 (joinV a b 0))).setCell ⟨g, 1, none⟩ (.int .u32 (joinV a b 1))).setCell ⟨g, 2, none⟩ (.int .u32 (joinV a b 2))).setCell ⟨g, 3, none⟩ (.int .u32 (joinV a b 3))).setCell ⟨g, 4, none⟩ (.int .u32 (joinV a b 4))).setCell ⟨g, 5, none⟩ (.int .u32 (joinV a b 5))).setCell ⟨g, 6, none⟩ (.int .u32 (joinV a b 6))).setCell ⟨g, 7, none⟩ (.int .u32 (joinV a b 7))).setCell ⟨g', 0, none⟩ (.int .u32 (meetV a b 0))).setCell ⟨g', 1, none⟩ (.int .u32 (meetV a b 1))).setCell ⟨g', 2, none⟩ (.int .u32 (meetV a b 2))).setCell ⟨g', 3, none⟩ (.int .u32 (meetV a b 3))).setCell ⟨g', 4, none⟩ (.int .u32 (meetV a b 4))).setCell ⟨g', 5, none⟩ (.int .u32 (meetV a b 5))).setCell ⟨g', 6, none⟩ (.int .u32 (meetV a b 6))).setCell ⟨g', 7, none⟩ (.int .u32 (meetV a b 7))) :=
  ⟨set8_T3 _ (set8_T3 _ h hg) hg', set8_far _ (set8_same _ hz) hne, set8_same _ (set8_far _ hz' (fun e => hne e.symm))⟩
theorem VO.drew {g g' : Nat} (h : VO w a b c g g' W) : VO w a b c g g' W.drew := ⟨h.t.drew, h.j, h.m⟩
theorem VO.next {g g' : Nat} {w' : World} (h : VO w a b c g g' W) (hb : Below W.heap.size W w') : VO w a b c g g' w' := ⟨h.t.next hb, h.j.below hb, h.m.below hb⟩
end

section
variable {w W : World} {a b c : Nat → Int} {g g' : Nat}
theorem le_VO (x y : Nat → Int) (r : Bool) (hr : leV x y = r) (h : VO w a b c g g' W) :
    Calls Tryd.prog 20 #[.agg #[.int .u32 (x 0), .int .u32 (x 1), .int .u32 (x 2), .int .u32 (x 3), .int .u32 (x 4), .int .u32 (x 5), .int .u32 (x 6), .int .u32 (x 7)], .agg #[.int .u32 (y 0), .int .u32 (y 1), .int .u32 (y 2), .int .u32 (y 3), .int .u32 (y 4), .int .u32 (y 5), .int .u32 (y 6), .int .u32 (y 7)]] W fun e w' => e = .returned (.bool r) ∧ VO w a b c g g' w' :=
  (le_any x y W).mono fun _ _ ⟨h1, h2⟩ => ⟨by rw [h1, hr], h.next h2⟩
theorem VO.all (h : VO w a b c g g' W) : W.cell? ⟨w.heap.size, 0, none⟩ = some (.int .u32 (a 0)) ∧ W.cell? ⟨w.heap.size, 1, none⟩ = some (.int .u32 (a 1)) ∧ W.cell? ⟨w.heap.size, 2, none⟩ = some (.int .u32 (a 2)) ∧ W.cell? ⟨w.heap.size, 3, none⟩ = some (.int .u32 (a 3)) ∧ W.cell? ⟨w.heap.size, 4, none⟩ = some (.int .u32 (a 4)) ∧ W.cell? ⟨w.heap.size, 5, none⟩ = some (.int .u32 (a 5)) ∧ W.cell? ⟨w.heap.size, 6, none⟩ = some (.int .u32 (a 6)) ∧ W.cell? ⟨w.heap.size, 7, none⟩ = some (.int .u32 (a 7)) ∧ W.cell? ⟨w.heap.size + 1, 0, none⟩ = some (.int .u32 (b 0)) ∧ W.cell? ⟨w.heap.size + 1, 1, none⟩ = some (.int .u32 (b 1)) ∧ W.cell? ⟨w.heap.size + 1, 2, none⟩ = some (.int .u32 (b 2)) ∧ W.cell? ⟨w.heap.size + 1, 3, none⟩ = some (.int .u32 (b 3)) ∧ W.cell? ⟨w.heap.size + 1, 4, none⟩ = some (.int .u32 (b 4)) ∧ W.cell? ⟨w.heap.size + 1, 5, none⟩ = some (.int .u32 (b 5)) ∧ W.cell? ⟨w.heap.size + 1, 6, none⟩ = some (.int .u32 (b 6)) ∧ W.cell? ⟨w.heap.size + 1, 7, none⟩ = some (.int .u32 (b 7)) ∧ W.cell? ⟨w.heap.size + 1 + 1, 0, none⟩ = some (.int .u32 (c 0)) ∧ W.cell? ⟨w.heap.size + 1 + 1, 1, none⟩ = some (.int .u32 (c 1)) ∧ W.cell? ⟨w.heap.size + 1 + 1, 2, none⟩ = some (.int .u32 (c 2)) ∧ W.cell? ⟨w.heap.size + 1 + 1, 3, none⟩ = some (.int .u32 (c 3)) ∧ W.cell? ⟨w.heap.size + 1 + 1, 4, none⟩ = some (.int .u32 (c 4)) ∧ W.cell? ⟨w.heap.size + 1 + 1, 5, none⟩ = some (.int .u32 (c 5)) ∧ W.cell? ⟨w.heap.size + 1 + 1, 6, none⟩ = some (.int .u32 (c 6)) ∧ W.cell? ⟨w.heap.size + 1 + 1, 7, none⟩ = some (.int .u32 (c 7)) ∧ W.cell? ⟨g, 0, none⟩ = some (.int .u32 ((joinV a b) 0)) ∧ W.cell? ⟨g, 1, none⟩ = some (.int .u32 ((joinV a b) 1)) ∧ W.cell? ⟨g, 2, none⟩ = some (.int .u32 ((joinV a b) 2)) ∧ W.cell? ⟨g, 3, none⟩ = some (.int .u32 ((joinV a b) 3)) ∧ W.cell? ⟨g, 4, none⟩ = some (.int .u32 ((joinV a b) 4)) ∧ W.cell? ⟨g, 5, none⟩ = some (.int .u32 ((joinV a b) 5)) ∧ W.cell? ⟨g, 6, none⟩ = some (.int .u32 ((joinV a b) 6)) ∧ W.cell? ⟨g, 7, none⟩ = some (.int .u32 ((joinV a b) 7)) ∧ W.cell? ⟨g', 0, none⟩ = some (.int .u32 ((meetV a b) 0)) ∧ W.cell? ⟨g', 1, none⟩ = some (.int .u32 ((meetV a b) 1)) ∧ W.cell? ⟨g', 2, none⟩ = some (.int .u32 ((meetV a b) 2)) ∧ W.cell? ⟨g', 3, none⟩ = some (.int .u32 ((meetV a b) 3)) ∧ W.cell? ⟨g', 4, none⟩ = some (.int .u32 ((meetV a b) 4)) ∧ W.cell? ⟨g', 5, none⟩ = some (.int .u32 ((meetV a b) 5)) ∧ W.cell? ⟨g', 6, none⟩ = some (.int .u32 ((meetV a b) 6)) ∧ W.cell? ⟨g', 7, none⟩ = some (.int .u32 ((meetV a b) 7)) :=
  ⟨vec_cell h.t.a 0 (by omega), vec_cell h.t.a 1 (by omega), vec_cell h.t.a 2 (by omega), vec_cell h.t.a 3 (by omega), vec_cell h.t.a 4 (by omega), vec_cell h.t.a 5 (by omega), vec_cell h.t.a 6 (by omega), vec_cell h.t.a 7 (by omega), vec_cell h.t.b 0 (by omega), vec_cell h.t.b 1 (by omega), vec_cell h.t.b 2 (by omega), vec_cell h.t.b 3 (by omega), vec_cell h.t.b 4 (by omega), vec_cell h.t.b 5 (by omega), vec_cell h.t.b 6 (by omega), vec_cell h.t.b 7 (by omega), vec_cell h.t.c 0 (by omega), vec_cell h.t.c 1 (by omega), vec_cell h.t.c 2 (by omega), vec_cell h.t.c 3 (by omega), vec_cell h.t.c 4 (by omega), vec_cell h.t.c 5 (by omega), vec_cell h.t.c 6 (by omega), vec_cell h.t.c 7 (by omega), vec_cell h.j 0 (by omega), vec_cell h.j 1 (by omega), vec_cell h.j 2 (by omega), vec_cell h.j 3 (by omega), vec_cell h.j 4 (by omega), vec_cell h.j 5 (by omega), vec_cell h.j 6 (by omega), vec_cell h.j 7 (by omega), vec_cell h.m 0 (by omega), vec_cell h.m 1 (by omega), vec_cell h.m 2 (by omega), vec_cell h.m 3 (by omega), vec_cell h.m 4 (by omega), vec_cell h.m 5 (by omega), vec_cell h.m 6 (by omega), vec_cell h.m 7 (by omega)⟩
theorem VO.three (h : VO w a b c g g' W) : W.cell? ⟨w.heap.size, 0, none⟩ = some (.int .u32 (a 0)) ∧ W.cell? ⟨w.heap.size, 1, none⟩ = some (.int .u32 (a 1)) ∧ W.cell? ⟨w.heap.size, 2, none⟩ = some (.int .u32 (a 2)) ∧ W.cell? ⟨w.heap.size, 3, none⟩ = some (.int .u32 (a 3)) ∧ W.cell? ⟨w.heap.size, 4, none⟩ = some (.int .u32 (a 4)) ∧ W.cell? ⟨w.heap.size, 5, none⟩ = some (.int .u32 (a 5)) ∧ W.cell? ⟨w.heap.size, 6, none⟩ = some (.int .u32 (a 6)) ∧ W.cell? ⟨w.heap.size, 7, none⟩ = some (.int .u32 (a 7)) ∧ W.cell? ⟨w.heap.size + 1, 0, none⟩ = some (.int .u32 (b 0)) ∧ W.cell? ⟨w.heap.size + 1, 1, none⟩ = some (.int .u32 (b 1)) ∧ W.cell? ⟨w.heap.size + 1, 2, none⟩ = some (.int .u32 (b 2)) ∧ W.cell? ⟨w.heap.size + 1, 3, none⟩ = some (.int .u32 (b 3)) ∧ W.cell? ⟨w.heap.size + 1, 4, none⟩ = some (.int .u32 (b 4)) ∧ W.cell? ⟨w.heap.size + 1, 5, none⟩ = some (.int .u32 (b 5)) ∧ W.cell? ⟨w.heap.size + 1, 6, none⟩ = some (.int .u32 (b 6)) ∧ W.cell? ⟨w.heap.size + 1, 7, none⟩ = some (.int .u32 (b 7)) ∧ W.cell? ⟨w.heap.size + 1 + 1, 0, none⟩ = some (.int .u32 (c 0)) ∧ W.cell? ⟨w.heap.size + 1 + 1, 1, none⟩ = some (.int .u32 (c 1)) ∧ W.cell? ⟨w.heap.size + 1 + 1, 2, none⟩ = some (.int .u32 (c 2)) ∧ W.cell? ⟨w.heap.size + 1 + 1, 3, none⟩ = some (.int .u32 (c 3)) ∧ W.cell? ⟨w.heap.size + 1 + 1, 4, none⟩ = some (.int .u32 (c 4)) ∧ W.cell? ⟨w.heap.size + 1 + 1, 5, none⟩ = some (.int .u32 (c 5)) ∧ W.cell? ⟨w.heap.size + 1 + 1, 6, none⟩ = some (.int .u32 (c 6)) ∧ W.cell? ⟨w.heap.size + 1 + 1, 7, none⟩ = some (.int .u32 (c 7)) ∧ VO w a b c g g' W :=
  ⟨vec_cell h.t.a 0 (by omega), vec_cell h.t.a 1 (by omega), vec_cell h.t.a 2 (by omega), vec_cell h.t.a 3 (by omega), vec_cell h.t.a 4 (by omega), vec_cell h.t.a 5 (by omega), vec_cell h.t.a 6 (by omega), vec_cell h.t.a 7 (by omega), vec_cell h.t.b 0 (by omega), vec_cell h.t.b 1 (by omega), vec_cell h.t.b 2 (by omega), vec_cell h.t.b 3 (by omega), vec_cell h.t.b 4 (by omega), vec_cell h.t.b 5 (by omega), vec_cell h.t.b 6 (by omega), vec_cell h.t.b 7 (by omega), vec_cell h.t.c 0 (by omega), vec_cell h.t.c 1 (by omega), vec_cell h.t.c 2 (by omega), vec_cell h.t.c 3 (by omega), vec_cell h.t.c 4 (by omega), vec_cell h.t.c 5 (by omega), vec_cell h.t.c 6 (by omega), vec_cell h.t.c 7 (by omega), h⟩
theorem VO.last (h : W.cell? ⟨w.heap.size, 0, none⟩ = some (.int .u32 (a 0)) ∧ W.cell? ⟨w.heap.size, 1, none⟩ = some (.int .u32 (a 1)) ∧ W.cell? ⟨w.heap.size, 2, none⟩ = some (.int .u32 (a 2)) ∧ W.cell? ⟨w.heap.size, 3, none⟩ = some (.int .u32 (a 3)) ∧ W.cell? ⟨w.heap.size, 4, none⟩ = some (.int .u32 (a 4)) ∧ W.cell? ⟨w.heap.size, 5, none⟩ = some (.int .u32 (a 5)) ∧ W.cell? ⟨w.heap.size, 6, none⟩ = some (.int .u32 (a 6)) ∧ W.cell? ⟨w.heap.size, 7, none⟩ = some (.int .u32 (a 7)) ∧ W.cell? ⟨w.heap.size + 1, 0, none⟩ = some (.int .u32 (b 0)) ∧ W.cell? ⟨w.heap.size + 1, 1, none⟩ = some (.int .u32 (b 1)) ∧ W.cell? ⟨w.heap.size + 1, 2, none⟩ = some (.int .u32 (b 2)) ∧ W.cell? ⟨w.heap.size + 1, 3, none⟩ = some (.int .u32 (b 3)) ∧ W.cell? ⟨w.heap.size + 1, 4, none⟩ = some (.int .u32 (b 4)) ∧ W.cell? ⟨w.heap.size + 1, 5, none⟩ = some (.int .u32 (b 5)) ∧ W.cell? ⟨w.heap.size + 1, 6, none⟩ = some (.int .u32 (b 6)) ∧ W.cell? ⟨w.heap.size + 1, 7, none⟩ = some (.int .u32 (b 7)) ∧ W.cell? ⟨w.heap.size + 1 + 1, 0, none⟩ = some (.int .u32 (c 0)) ∧ W.cell? ⟨w.heap.size + 1 + 1, 1, none⟩ = some (.int .u32 (c 1)) ∧ W.cell? ⟨w.heap.size + 1 + 1, 2, none⟩ = some (.int .u32 (c 2)) ∧ W.cell? ⟨w.heap.size + 1 + 1, 3, none⟩ = some (.int .u32 (c 3)) ∧ W.cell? ⟨w.heap.size + 1 + 1, 4, none⟩ = some (.int .u32 (c 4)) ∧ W.cell? ⟨w.heap.size + 1 + 1, 5, none⟩ = some (.int .u32 (c 5)) ∧ W.cell? ⟨w.heap.size + 1 + 1, 6, none⟩ = some (.int .u32 (c 6)) ∧ W.cell? ⟨w.heap.size + 1 + 1, 7, none⟩ = some (.int .u32 (c 7)) ∧ VO w a b c g g' W) : VO w a b c g g' W := h.2.2.2.2.2.2.2.2.2.2.2.2.2.2.2.2.2.2.2.2.2.2.2.2
end

theorem le_self (a : Nat → Int) : leV a a = true := leV_iff.2 fun _ _ => Int.le_refl _
theorem le_join1 (a b : Nat → Int) : leV a (joinV a b) = true := leV_iff.2 fun i _ => by unfold joinV; split <;> omega
theorem le_join2 (a b : Nat → Int) : leV b (joinV a b) = true := leV_iff.2 fun i _ => by unfold joinV; split <;> omega
theorem meet_le1 (a b : Nat → Int) : leV (meetV a b) a = true := leV_iff.2 fun i _ => by unfold meetV; split <;> omega
theorem meet_le2 (a b : Nat → Int) : leV (meetV a b) b = true := leV_iff.2 fun i _ => by unfold meetV; split <;> omega
theorem join_least {a b c : Nat → Int} (h : leV a c = true) (k : leV b c = true) : leV (joinV a b) c = true := leV_iff.2 fun i hi => by
  have := leV_iff.1 h i hi; have := leV_iff.1 k i hi; unfold joinV; split <;> omega
theorem meet_most {a b c : Nat → Int} (h : leV c a = true) (k : leV c b = true) : leV c (meetV a b) = true := leV_iff.2 fun i hi => by
  have := leV_iff.1 h i hi; have := leV_iff.1 k i hi; unfold meetV; split <;> omega
theorem le_trans3 {a b c : Nat → Int} (h : leV a b = true) (k : leV b c = true) : leV a c = true := leV_iff.2 fun i hi => by
  have := leV_iff.1 h i hi; have := leV_iff.1 k i hi; omega
theorem le_both (a b : Nat → Int) : eqV a b = (leV a b && leV b a) := by
  rw [Bool.eq_iff_iff, Bool.and_eq_true, eqV_iff, leV_iff, leV_iff]
  constructor
  · intro h; exact ⟨fun i hi => by have := h i hi; omega, fun i hi => by have := h i hi; omega⟩
  · rintro ⟨h, k⟩ i hi; have := h i hi; have := k i hi; omega

set_option maxRecDepth 100000 in
set_option maxHeartbeats 4000000 in
theorem vecOrder_walk0 (a b c : Nat → Int) (w : World) (ht : Tab w) :
    Calls Tryd.prog 4 #[.agg #[.int .u32 (a 0), .int .u32 (a 1), .int .u32 (a 2), .int .u32 (a 3), .int .u32 (a 4), .int .u32 (a 5), .int .u32 (a 6), .int .u32 (a 7)], .agg #[.int .u32 (b 0), .int .u32 (b 1), .int .u32 (b 2), .int .u32 (b 3), .int .u32 (b 4), .int .u32 (b 5), .int .u32 (b 6), .int .u32 (b 7)], .agg #[.int .u32 (c 0), .int .u32 (c 1), .int .u32 (c 2), .int .u32 (c 3), .int .u32 (c 4), .int .u32 (c 5), .int .u32 (c 6), .int .u32 (c 7)]] w fun e w' => e = .returned (.bool true) ∧ Below w.heap.size w w' := by
  have hI := Lib.hid (T3.start w a b c)
  have HT := Lib.hid (ht.below hI.out.bel (Nat.le_refl _)); clear ht
  go_enter Tryd.func4, Tryd.ntmps4
  go_wp2_with fail
  refine (vworks_any _ HT.out).mono ?_
  rintro e w1 ⟨rfl, b1⟩
  have h1 := hI.out.next b1
  have l1 := Blk.lt h1.c
  clear b1 hI HT
  go_upto_region 3 with fail
  go_cut [7, 8] (fun s7 s8 wx => ∃ g h : Nat, s7 = .pointer (some ⟨g, 0, none⟩) ∧ s8 = .pointer (some ⟨h, 0, none⟩) ∧ VO w a b c g h wx)
  case first =>
    go_region_held3 (fun w' => w'.cell? ⟨w.heap.size, 0, none⟩ = some (.int .u32 (a 0)) ∧ w'.cell? ⟨w.heap.size, 1, none⟩ = some (.int .u32 (a 1)) ∧ w'.cell? ⟨w.heap.size, 2, none⟩ = some (.int .u32 (a 2)) ∧ w'.cell? ⟨w.heap.size, 3, none⟩ = some (.int .u32 (a 3)) ∧ w'.cell? ⟨w.heap.size, 4, none⟩ = some (.int .u32 (a 4)) ∧ w'.cell? ⟨w.heap.size, 5, none⟩ = some (.int .u32 (a 5)) ∧ w'.cell? ⟨w.heap.size, 6, none⟩ = some (.int .u32 (a 6)) ∧ w'.cell? ⟨w.heap.size, 7, none⟩ = some (.int .u32 (a 7)) ∧ w'.cell? ⟨w.heap.size + 1, 0, none⟩ = some (.int .u32 (b 0)) ∧ w'.cell? ⟨w.heap.size + 1, 1, none⟩ = some (.int .u32 (b 1)) ∧ w'.cell? ⟨w.heap.size + 1, 2, none⟩ = some (.int .u32 (b 2)) ∧ w'.cell? ⟨w.heap.size + 1, 3, none⟩ = some (.int .u32 (b 3)) ∧ w'.cell? ⟨w.heap.size + 1, 4, none⟩ = some (.int .u32 (b 4)) ∧ w'.cell? ⟨w.heap.size + 1, 5, none⟩ = some (.int .u32 (b 5)) ∧ w'.cell? ⟨w.heap.size + 1, 6, none⟩ = some (.int .u32 (b 6)) ∧ w'.cell? ⟨w.heap.size + 1, 7, none⟩ = some (.int .u32 (b 7)) ∧ T3 w a b c w') (exact T3.two (by repeat (first | (with_reducible assumption) | (with_reducible exact h1.drew) | (with_reducible refine T3.alloc ?_ _) | (with_reducible refine T3.drew ?_) | (with_reducible refine T3.set ?_ _ (by first | assumption | omega | (simp; omega)) _ _)))) (first | (go_at_call 18; refine (join_T3 (w := w) (a := a) (b := b) (c := c) _ _ (by first | assumption | exact T3.held2 (by assumption))).mono ?_; rintro e wj ⟨rfl, hJ, hkj⟩; have cj := hkj.cell; have fj := hkj.free; have zj := hkj.lt; have lj := Blk.lt (T3.c hJ); (first | (have y1 : w1.heap.size < wj.heap.size := zj _ (by first | (with_reducible assumption) | omega | (simp; done) | (simp; omega))) | skip); (first | (have y2 : w1.heap.size + 1 < wj.heap.size := zj _ (by first | (with_reducible assumption) | omega | (simp; done) | (simp; omega))) | skip)) | (go_at_call 19; refine (meet_T3 (w := w) (a := a) (b := b) (c := c) _ _ (by first | assumption | exact T3.held2 (by assumption))).mono ?_; rintro e wm ⟨rfl, hM, hkm⟩; have cm := hkm.cell; have fm := hkm.free; have zm := hkm.lt; have lm := Blk.lt (T3.c hM); (first | (have q1 : w1.heap.size < wm.heap.size := zm _ (by first | (with_reducible assumption) | omega | (simp; done) | (simp; omega))) | skip); (first | (have q2 : w1.heap.size + 1 < wm.heap.size := zm _ (by first | (with_reducible assumption) | omega | (simp; done) | (simp; omega))) | skip); (first | (have q3 : wj.heap.size < wm.heap.size := zm _ (by first | (with_reducible assumption) | omega | (simp; done) | (simp; omega))) | skip); (first | (have q4 : wj.heap.size + 1 < wm.heap.size := zm _ (by first | (with_reducible assumption) | omega | (simp; done) | (simp; omega))) | skip)))
    all_goals
      go_wp2_with fail
      go_meet
      first | (with_reducible exact ⟨_, _, rfl, rfl, VO.s1 hM⟩) | (with_reducible exact ⟨_, _, rfl, rfl, VO.s1r hM⟩) | ((with_reducible refine ⟨_, _, rfl, rfl, VO.s2 hM ?_ ?_⟩); omega; exact (by repeat (first | (with_reducible exact Blk.new _ _ _) | (with_reducible exact blk_newS _ _ _ _) | (with_reducible refine Blk.alloc ?_ _) | (with_reducible refine Blk.drew1 ?_) | (with_reducible refine Kept.blk hkm ?_) | (with_reducible refine Kept.blk hkj ?_)))) | ((with_reducible refine ⟨_, _, rfl, rfl, VO.s2r hM ?_ ?_⟩); omega; exact (by repeat (first | (with_reducible exact Blk.new _ _ _) | (with_reducible exact blk_newS _ _ _ _) | (with_reducible refine Blk.alloc ?_ _) | (with_reducible refine Blk.drew1 ?_) | (with_reducible refine Kept.blk hkm ?_) | (with_reducible refine Kept.blk hkj ?_)))) | ((with_reducible refine ⟨_, _, rfl, rfl, VO.s3 hM ?_ ?_ ?_ ?_ ?_⟩); omega; omega; omega; exact (by repeat (first | (with_reducible exact Blk.new _ _ _) | (with_reducible exact blk_newS _ _ _ _) | (with_reducible refine Blk.alloc ?_ _) | (with_reducible refine Blk.drew1 ?_) | (with_reducible refine Kept.blk hkm ?_) | (with_reducible refine Kept.blk hkj ?_))); exact (by repeat (first | (with_reducible exact Blk.new _ _ _) | (with_reducible exact blk_newS _ _ _ _) | (with_reducible refine Blk.alloc ?_ _) | (with_reducible refine Blk.drew1 ?_) | (with_reducible refine Kept.blk hkm ?_) | (with_reducible refine Kept.blk hkj ?_))))
  case rest =>
    obtain ⟨g, h, rfl, rfl, hV⟩ := hcut
    have R1 := Lib.hid (le_join1 a b)
    have R2 := Lib.hid (le_join2 a b)
    have R3 := Lib.hid (meet_le1 a b)
    have R4 := Lib.hid (meet_le2 a b)
    have R5 := Lib.hid (le_self a)
    obtain ⟨x0, x1, x2, x3, x4, x5, x6, x7, x8, x9, x10, x11, x12, x13, x14, x15, x16, x17, x18, x19, x20, x21, x22, x23, x24, x25, x26, x27, x28, x29, x30, x31, x32, x33, x34, x35, x36, x37, x38, x39⟩ := VO.all hV
    go_upto_region 6 with (go_at_call 20; refine (le_VO (w := w) (a := a) (b := b) (c := c) (g := g) (g' := h) _ _ _ (by first | with_reducible exact R1.out | with_reducible exact R2.out | with_reducible exact R3.out | with_reducible exact R4.out | with_reducible exact R5.out) (by with_reducible assumption)).mono ?_; clear x0 x1 x2 x3 x4 x5 x6 x7 x8 x9 x10 x11 x12 x13 x14 x15 x16 x17 x18 x19 x20 x21 x22 x23 x24 x25 x26 x27 x28 x29 x30 x31 x32 x33 x34 x35 x36 x37 x38 x39; rintro e wk ⟨rfl, hV⟩; obtain ⟨x0, x1, x2, x3, x4, x5, x6, x7, x8, x9, x10, x11, x12, x13, x14, x15, x16, x17, x18, x19, x20, x21, x22, x23, x24, x25, x26, x27, x28, x29, x30, x31, x32, x33, x34, x35, x36, x37, x38, x39⟩ := VO.all hV)
    clear R1 R2 R3 R4 R5
    go_cut [74] (fun s74 wx => s74 = .bool false ∧ VO w a b c g h wx)
    case first =>
      rcases hp : leV a c
      · have P1 := Lib.hid hp; clear hp
        rcases hs : leV c a
        · have S1 := Lib.hid hs; clear hs
          go_wp2_with (go_at_call 20; refine (le_VO (w := w) (a := a) (b := b) (c := c) (g := g) (g' := h) _ _ _ (by first | with_reducible exact P1.out | with_reducible exact S1.out) (by with_reducible assumption)).mono ?_; clear x0 x1 x2 x3 x4 x5 x6 x7 x8 x9 x10 x11 x12 x13 x14 x15 x16 x17 x18 x19 x20 x21 x22 x23 x24 x25 x26 x27 x28 x29 x30 x31 x32 x33 x34 x35 x36 x37 x38 x39; rintro e wk ⟨rfl, hV⟩; obtain ⟨x0, x1, x2, x3, x4, x5, x6, x7, x8, x9, x10, x11, x12, x13, x14, x15, x16, x17, x18, x19, x20, x21, x22, x23, x24, x25, x26, x27, x28, x29, x30, x31, x32, x33, x34, x35, x36, x37, x38, x39⟩ := VO.all hV)
          go_meet
          exact ⟨rfl, by with_reducible assumption⟩
        · rcases ht : leV c b
          · have S1 := Lib.hid hs; have S2 := Lib.hid ht; clear hs ht
            go_wp2_with (go_at_call 20; refine (le_VO (w := w) (a := a) (b := b) (c := c) (g := g) (g' := h) _ _ _ (by first | with_reducible exact P1.out | with_reducible exact S1.out | with_reducible exact S2.out) (by with_reducible assumption)).mono ?_; clear x0 x1 x2 x3 x4 x5 x6 x7 x8 x9 x10 x11 x12 x13 x14 x15 x16 x17 x18 x19 x20 x21 x22 x23 x24 x25 x26 x27 x28 x29 x30 x31 x32 x33 x34 x35 x36 x37 x38 x39; rintro e wk ⟨rfl, hV⟩; obtain ⟨x0, x1, x2, x3, x4, x5, x6, x7, x8, x9, x10, x11, x12, x13, x14, x15, x16, x17, x18, x19, x20, x21, x22, x23, x24, x25, x26, x27, x28, x29, x30, x31, x32, x33, x34, x35, x36, x37, x38, x39⟩ := VO.all hV)
            go_meet
            exact ⟨rfl, by with_reducible assumption⟩
          · have S3 := Lib.hid (meet_most hs ht); have S1 := Lib.hid hs; have S2 := Lib.hid ht; clear hs ht
            go_wp2_with (go_at_call 20; refine (le_VO (w := w) (a := a) (b := b) (c := c) (g := g) (g' := h) _ _ _ (by first | with_reducible exact P1.out | with_reducible exact S1.out | with_reducible exact S2.out | with_reducible exact S3.out) (by with_reducible assumption)).mono ?_; clear x0 x1 x2 x3 x4 x5 x6 x7 x8 x9 x10 x11 x12 x13 x14 x15 x16 x17 x18 x19 x20 x21 x22 x23 x24 x25 x26 x27 x28 x29 x30 x31 x32 x33 x34 x35 x36 x37 x38 x39; rintro e wk ⟨rfl, hV⟩; obtain ⟨x0, x1, x2, x3, x4, x5, x6, x7, x8, x9, x10, x11, x12, x13, x14, x15, x16, x17, x18, x19, x20, x21, x22, x23, x24, x25, x26, x27, x28, x29, x30, x31, x32, x33, x34, x35, x36, x37, x38, x39⟩ := VO.all hV)
            go_meet
            exact ⟨rfl, by with_reducible assumption⟩
      · rcases hq : leV b c
        · have P1 := Lib.hid hp; have P2 := Lib.hid hq; clear hp hq
          rcases hs : leV c a
          · have S1 := Lib.hid hs; clear hs
            go_wp2_with (go_at_call 20; refine (le_VO (w := w) (a := a) (b := b) (c := c) (g := g) (g' := h) _ _ _ (by first | with_reducible exact P1.out | with_reducible exact P2.out | with_reducible exact S1.out) (by with_reducible assumption)).mono ?_; clear x0 x1 x2 x3 x4 x5 x6 x7 x8 x9 x10 x11 x12 x13 x14 x15 x16 x17 x18 x19 x20 x21 x22 x23 x24 x25 x26 x27 x28 x29 x30 x31 x32 x33 x34 x35 x36 x37 x38 x39; rintro e wk ⟨rfl, hV⟩; obtain ⟨x0, x1, x2, x3, x4, x5, x6, x7, x8, x9, x10, x11, x12, x13, x14, x15, x16, x17, x18, x19, x20, x21, x22, x23, x24, x25, x26, x27, x28, x29, x30, x31, x32, x33, x34, x35, x36, x37, x38, x39⟩ := VO.all hV)
            go_meet
            exact ⟨rfl, by with_reducible assumption⟩
          · rcases ht : leV c b
            · have S1 := Lib.hid hs; have S2 := Lib.hid ht; clear hs ht
              go_wp2_with (go_at_call 20; refine (le_VO (w := w) (a := a) (b := b) (c := c) (g := g) (g' := h) _ _ _ (by first | with_reducible exact P1.out | with_reducible exact P2.out | with_reducible exact S1.out | with_reducible exact S2.out) (by with_reducible assumption)).mono ?_; clear x0 x1 x2 x3 x4 x5 x6 x7 x8 x9 x10 x11 x12 x13 x14 x15 x16 x17 x18 x19 x20 x21 x22 x23 x24 x25 x26 x27 x28 x29 x30 x31 x32 x33 x34 x35 x36 x37 x38 x39; rintro e wk ⟨rfl, hV⟩; obtain ⟨x0, x1, x2, x3, x4, x5, x6, x7, x8, x9, x10, x11, x12, x13, x14, x15, x16, x17, x18, x19, x20, x21, x22, x23, x24, x25, x26, x27, x28, x29, x30, x31, x32, x33, x34, x35, x36, x37, x38, x39⟩ := VO.all hV)
              go_meet
              exact ⟨rfl, by with_reducible assumption⟩
            · have S3 := Lib.hid (meet_most hs ht); have S1 := Lib.hid hs; have S2 := Lib.hid ht; clear hs ht
              go_wp2_with (go_at_call 20; refine (le_VO (w := w) (a := a) (b := b) (c := c) (g := g) (g' := h) _ _ _ (by first | with_reducible exact P1.out | with_reducible exact P2.out | with_reducible exact S1.out | with_reducible exact S2.out | with_reducible exact S3.out) (by with_reducible assumption)).mono ?_; clear x0 x1 x2 x3 x4 x5 x6 x7 x8 x9 x10 x11 x12 x13 x14 x15 x16 x17 x18 x19 x20 x21 x22 x23 x24 x25 x26 x27 x28 x29 x30 x31 x32 x33 x34 x35 x36 x37 x38 x39; rintro e wk ⟨rfl, hV⟩; obtain ⟨x0, x1, x2, x3, x4, x5, x6, x7, x8, x9, x10, x11, x12, x13, x14, x15, x16, x17, x18, x19, x20, x21, x22, x23, x24, x25, x26, x27, x28, x29, x30, x31, x32, x33, x34, x35, x36, x37, x38, x39⟩ := VO.all hV)
              go_meet
              exact ⟨rfl, by with_reducible assumption⟩
        · have P3 := Lib.hid (join_least hp hq); have P1 := Lib.hid hp; have P2 := Lib.hid hq; clear hp hq
          rcases hs : leV c a
          · have S1 := Lib.hid hs; clear hs
            go_wp2_with (go_at_call 20; refine (le_VO (w := w) (a := a) (b := b) (c := c) (g := g) (g' := h) _ _ _ (by first | with_reducible exact P1.out | with_reducible exact P2.out | with_reducible exact P3.out | with_reducible exact S1.out) (by with_reducible assumption)).mono ?_; clear x0 x1 x2 x3 x4 x5 x6 x7 x8 x9 x10 x11 x12 x13 x14 x15 x16 x17 x18 x19 x20 x21 x22 x23 x24 x25 x26 x27 x28 x29 x30 x31 x32 x33 x34 x35 x36 x37 x38 x39; rintro e wk ⟨rfl, hV⟩; obtain ⟨x0, x1, x2, x3, x4, x5, x6, x7, x8, x9, x10, x11, x12, x13, x14, x15, x16, x17, x18, x19, x20, x21, x22, x23, x24, x25, x26, x27, x28, x29, x30, x31, x32, x33, x34, x35, x36, x37, x38, x39⟩ := VO.all hV)
            go_meet
            exact ⟨rfl, by with_reducible assumption⟩
          · rcases ht : leV c b
            · have S1 := Lib.hid hs; have S2 := Lib.hid ht; clear hs ht
              go_wp2_with (go_at_call 20; refine (le_VO (w := w) (a := a) (b := b) (c := c) (g := g) (g' := h) _ _ _ (by first | with_reducible exact P1.out | with_reducible exact P2.out | with_reducible exact P3.out | with_reducible exact S1.out | with_reducible exact S2.out) (by with_reducible assumption)).mono ?_; clear x0 x1 x2 x3 x4 x5 x6 x7 x8 x9 x10 x11 x12 x13 x14 x15 x16 x17 x18 x19 x20 x21 x22 x23 x24 x25 x26 x27 x28 x29 x30 x31 x32 x33 x34 x35 x36 x37 x38 x39; rintro e wk ⟨rfl, hV⟩; obtain ⟨x0, x1, x2, x3, x4, x5, x6, x7, x8, x9, x10, x11, x12, x13, x14, x15, x16, x17, x18, x19, x20, x21, x22, x23, x24, x25, x26, x27, x28, x29, x30, x31, x32, x33, x34, x35, x36, x37, x38, x39⟩ := VO.all hV)
              go_meet
              exact ⟨rfl, by with_reducible assumption⟩
            · have S3 := Lib.hid (meet_most hs ht); have S1 := Lib.hid hs; have S2 := Lib.hid ht; clear hs ht
              go_wp2_with (go_at_call 20; refine (le_VO (w := w) (a := a) (b := b) (c := c) (g := g) (g' := h) _ _ _ (by first | with_reducible exact P1.out | with_reducible exact P2.out | with_reducible exact P3.out | with_reducible exact S1.out | with_reducible exact S2.out | with_reducible exact S3.out) (by with_reducible assumption)).mono ?_; clear x0 x1 x2 x3 x4 x5 x6 x7 x8 x9 x10 x11 x12 x13 x14 x15 x16 x17 x18 x19 x20 x21 x22 x23 x24 x25 x26 x27 x28 x29 x30 x31 x32 x33 x34 x35 x36 x37 x38 x39; rintro e wk ⟨rfl, hV⟩; obtain ⟨x0, x1, x2, x3, x4, x5, x6, x7, x8, x9, x10, x11, x12, x13, x14, x15, x16, x17, x18, x19, x20, x21, x22, x23, x24, x25, x26, x27, x28, x29, x30, x31, x32, x33, x34, x35, x36, x37, x38, x39⟩ := VO.all hV)
              go_meet
              exact ⟨rfl, by with_reducible assumption⟩
    case rest =>
      obtain ⟨rfl, hW⟩ := hcut
      go_wp2_with fail
      have hbo := le_both a b
      rcases hp : leV a b
      · have he : ∀ w, (Op.equalIn 10000 24 (.agg #[.int .u32 (a 0), .int .u32 (a 1), .int .u32 (a 2), .int .u32 (a 3), .int .u32 (a 4), .int .u32 (a 5), .int .u32 (a 6), .int .u32 (a 7)]) (.agg #[.int .u32 (b 0), .int .u32 (b 1), .int .u32 (b 2), .int .u32 (b 3), .int .u32 (b 4), .int .u32 (b 5), .int .u32 (b 6), .int .u32 (b 7)])).run Tryd.prog w = .ok false w := fun w => by rw [← show eqV a b = false by rw [hbo, hp]; rfl]; exact eql_vec 9998 a b w
        have P1 := Lib.hid hp; clear hp hbo
        refine wp_region_held_drew (S := (fun w' => w'.cell? ⟨w.heap.size, 0, none⟩ = some (.int .u32 (a 0)) ∧ w'.cell? ⟨w.heap.size, 1, none⟩ = some (.int .u32 (a 1)) ∧ w'.cell? ⟨w.heap.size, 2, none⟩ = some (.int .u32 (a 2)) ∧ w'.cell? ⟨w.heap.size, 3, none⟩ = some (.int .u32 (a 3)) ∧ w'.cell? ⟨w.heap.size, 4, none⟩ = some (.int .u32 (a 4)) ∧ w'.cell? ⟨w.heap.size, 5, none⟩ = some (.int .u32 (a 5)) ∧ w'.cell? ⟨w.heap.size, 6, none⟩ = some (.int .u32 (a 6)) ∧ w'.cell? ⟨w.heap.size, 7, none⟩ = some (.int .u32 (a 7)) ∧ w'.cell? ⟨w.heap.size + 1, 0, none⟩ = some (.int .u32 (b 0)) ∧ w'.cell? ⟨w.heap.size + 1, 1, none⟩ = some (.int .u32 (b 1)) ∧ w'.cell? ⟨w.heap.size + 1, 2, none⟩ = some (.int .u32 (b 2)) ∧ w'.cell? ⟨w.heap.size + 1, 3, none⟩ = some (.int .u32 (b 3)) ∧ w'.cell? ⟨w.heap.size + 1, 4, none⟩ = some (.int .u32 (b 4)) ∧ w'.cell? ⟨w.heap.size + 1, 5, none⟩ = some (.int .u32 (b 5)) ∧ w'.cell? ⟨w.heap.size + 1, 6, none⟩ = some (.int .u32 (b 6)) ∧ w'.cell? ⟨w.heap.size + 1, 7, none⟩ = some (.int .u32 (b 7)) ∧ w'.cell? ⟨w.heap.size + 1 + 1, 0, none⟩ = some (.int .u32 (c 0)) ∧ w'.cell? ⟨w.heap.size + 1 + 1, 1, none⟩ = some (.int .u32 (c 1)) ∧ w'.cell? ⟨w.heap.size + 1 + 1, 2, none⟩ = some (.int .u32 (c 2)) ∧ w'.cell? ⟨w.heap.size + 1 + 1, 3, none⟩ = some (.int .u32 (c 3)) ∧ w'.cell? ⟨w.heap.size + 1 + 1, 4, none⟩ = some (.int .u32 (c 4)) ∧ w'.cell? ⟨w.heap.size + 1 + 1, 5, none⟩ = some (.int .u32 (c 5)) ∧ w'.cell? ⟨w.heap.size + 1 + 1, 6, none⟩ = some (.int .u32 (c 6)) ∧ w'.cell? ⟨w.heap.size + 1 + 1, 7, none⟩ = some (.int .u32 (c 7)) ∧ VO w a b c g h w')) (by kernel_rfl) (VO.three hW.drew) (fun hHeld => ?_)
        refine wpAnyH_take (i := 0) (oi := ⟨some 75, _, _, _, _, _⟩) (v := ?_) rfl (by kernel_rfl) (by kernel_rfl) (by kernel_rfl) (fun _ _ _ h => h) (Or.inl ⟨by rfl, ?_⟩) (by assumption) ?_
        rotate_left
        · intro w hSw; (try dsimp only at hSw); go_simp; try (with_reducible rfl)
        try simp only [Act.put, List.setIfInBounds_toArray, List.set_cons_zero, List.set_cons_succ]
        refine wpAnyH_take (i := 1) (oi := ⟨some 76, _, _, _, _, _⟩) (v := ?_) rfl (by kernel_rfl) (by kernel_rfl) (by kernel_rfl) (fun _ _ _ h => h) (Or.inl ⟨by rfl, ?_⟩) (by assumption) ?_
        rotate_left
        · intro w hSw; (try dsimp only at hSw); go_simp; try (with_reducible rfl)
        try simp only [Act.put, List.setIfInBounds_toArray, List.set_cons_zero, List.set_cons_succ]
        refine wpAnyH_ready (rs := [2]) (by kernel_rfl) (by simp) ?_
        refine AllReadyH.cons (o := ⟨some 77, _, _, _, _, _⟩) rfl (fun K hK => ?_) AllReadyH.nil
        go_simp
        go_at_call 20
        refine (le_VO (w := w) (a := a) (b := b) (c := c) (g := g) (g' := h) _ _ _ (by first | with_reducible exact P1.out) (by first | (with_reducible assumption) | exact VO.last (by assumption))).mono ?_
        rintro e wk ⟨rfl, hV⟩
        go_wp2_with fail
        refine hK.out _ _ (VO.three hV) (fun hHeld => ?_)
        clear hK K
        try simp only [Act.put, List.setIfInBounds_toArray, List.set_cons_zero, List.set_cons_succ]
        refine wpAnyH_take (i := 3) (oi := ⟨some 78, _, _, _, _, _⟩) (v := ?_) rfl (by kernel_rfl) (by kernel_rfl) (by kernel_rfl) (fun _ _ _ h => h) (Or.inl ⟨by rfl, ?_⟩) (by assumption) ?_
        rotate_left
        · intro w hSw; (try dsimp only at hSw); go_simp; try (with_reducible rfl)
        try simp only [Act.put, List.setIfInBounds_toArray, List.set_cons_zero, List.set_cons_succ]
        refine wpAnyH_take (i := 4) (oi := ⟨some 79, _, _, _, _, _⟩) (v := ?_) rfl (by kernel_rfl) (by kernel_rfl) (by kernel_rfl) (fun _ _ _ h => h) (Or.inl ⟨by rfl, ?_⟩) (by assumption) ?_
        rotate_left
        · intro w hSw; (try dsimp only at hSw); go_simp; try (with_reducible rfl)
        try simp only [Act.put, List.setIfInBounds_toArray, List.set_cons_zero, List.set_cons_succ]
        refine wpAnyH_take (i := 5) (oi := ⟨some 80, _, _, _, _, _⟩) (v := _) rfl (by kernel_rfl) (by kernel_rfl) (by kernel_rfl) (fun _ _ _ h => h) (Or.inr ⟨by rfl, rfl⟩) (by assumption) ?_
        try simp only [Act.put, List.setIfInBounds_toArray, List.set_cons_zero, List.set_cons_succ]
        refine wpAnyH_take (i := 6) (oi := ⟨some 81, _, _, _, _, _⟩) (v := _) rfl (by kernel_rfl) (by kernel_rfl) (by kernel_rfl) (fun _ _ _ h => h) (Or.inr ⟨by rfl, rfl⟩) (by assumption) ?_
        try simp only [Act.put, List.setIfInBounds_toArray, List.set_cons_zero, List.set_cons_succ]
        refine wpAnyH_take (i := 7) (oi := ⟨some 82, _, _, _, _, _⟩) (v := _) rfl (by kernel_rfl) (by kernel_rfl) (by kernel_rfl) (fun _ _ _ h => h) (Or.inr ⟨by rfl, rfl⟩) (by assumption) ?_
        try simp only [Act.put, List.setIfInBounds_toArray, List.set_cons_zero, List.set_cons_succ]
        refine wpAnyH_take (i := 8) (oi := ⟨some 83, _, _, _, _, _⟩) (v := _) rfl (by kernel_rfl) (by kernel_rfl) (by kernel_rfl) (fun _ _ _ h => h) (Or.inr ⟨by rfl, rfl⟩) (by assumption) ?_
        try simp only [Act.put, List.setIfInBounds_toArray, List.set_cons_zero, List.set_cons_succ]
        refine wpAnyH_take (i := 9) (oi := ⟨some 84, _, _, _, _, _⟩) (v := ?_) rfl (by kernel_rfl) (by kernel_rfl) (by kernel_rfl) (fun _ _ _ h => h) (Or.inl ⟨by rfl, ?_⟩) (by assumption) ?_
        rotate_left
        · intro w hSw; (try dsimp only at hSw); go_simp; try (with_reducible rfl)
        try simp only [Act.put, List.setIfInBounds_toArray, List.set_cons_zero, List.set_cons_succ]
        refine wpAnyH_take (i := 10) (oi := ⟨some 85, _, _, _, _, _⟩) (v := ?_) rfl (by kernel_rfl) (by kernel_rfl) (by kernel_rfl) (fun _ _ _ h => h) (Or.inl ⟨by rfl, ?_⟩) (by assumption) ?_
        rotate_left
        · intro w hSw; (try dsimp only at hSw); go_simp; try (with_reducible rfl)
        try simp only [Act.put, List.setIfInBounds_toArray, List.set_cons_zero, List.set_cons_succ]
        refine wpAnyH_take (i := 11) (oi := ⟨some 86, _, _, _, _, _⟩) (v := _) rfl (by kernel_rfl) (by kernel_rfl) (by kernel_rfl) (fun _ _ _ h => h) (Or.inr ⟨by rfl, rfl⟩) (by assumption) ?_
        try simp only [Act.put, List.setIfInBounds_toArray, List.set_cons_zero, List.set_cons_succ]
        refine wpAnyH_take (i := 12) (oi := ⟨some 87, _, _, _, _, _⟩) (v := _) rfl (by kernel_rfl) (by kernel_rfl) (by kernel_rfl) (fun _ _ _ h => h) (Or.inr ⟨by rfl, rfl⟩) (by assumption) ?_
        try simp only [Act.put, List.setIfInBounds_toArray, List.set_cons_zero, List.set_cons_succ]
        refine wpAnyH_take (i := 13) (oi := ⟨some 88, _, _, _, _, _⟩) (v := _) rfl (by kernel_rfl) (by kernel_rfl) (by kernel_rfl) (fun _ _ _ h => h) (Or.inr ⟨by rfl, rfl⟩) (by assumption) ?_
        try simp only [Act.put, List.setIfInBounds_toArray, List.set_cons_zero, List.set_cons_succ]
        refine wpAnyH_take (i := 14) (oi := ⟨some 89, _, _, _, _, _⟩) (v := ?_) rfl (by kernel_rfl) (by kernel_rfl) (by kernel_rfl) (fun _ _ _ h => h) (Or.inl ⟨by rfl, ?_⟩) (by assumption) ?_
        rotate_left
        · intro w hSw; (try dsimp only at hSw); go_simp; try (with_reducible rfl)
        try simp only [Act.put, List.setIfInBounds_toArray, List.set_cons_zero, List.set_cons_succ]
        refine wpAnyH_take (i := 15) (oi := ⟨some 90, _, _, _, _, _⟩) (v := ?_) rfl (by kernel_rfl) (by kernel_rfl) (by kernel_rfl) (fun _ _ _ h => h) (Or.inl ⟨by rfl, ?_⟩) (by assumption) ?_
        rotate_left
        · intro w hSw; (try dsimp only at hSw); go_simp; try (with_reducible rfl)
        try simp only [Act.put, List.setIfInBounds_toArray, List.set_cons_zero, List.set_cons_succ]
        refine wpAnyH_take (i := 16) (oi := ⟨some 91, _, _, _, _, _⟩) (v := ?_) rfl (by kernel_rfl) (by kernel_rfl) (by kernel_rfl) (fun _ _ _ h => h) (Or.inl ⟨by rfl, ?_⟩) (by assumption) ?_
        rotate_left
        · intro w hSw; (try dsimp only at hSw); go_simp; try (with_reducible rfl)
        try simp only [Act.put, List.setIfInBounds_toArray, List.set_cons_zero, List.set_cons_succ]
        refine wpAnyH_take (i := 17) (oi := ⟨some 92, _, _, _, _, _⟩) (v := ?_) rfl (by kernel_rfl) (by kernel_rfl) (by kernel_rfl) (fun _ _ _ h => h) (Or.inl ⟨by rfl, ?_⟩) (by assumption) ?_
        rotate_left
        · intro w hSw; (try dsimp only at hSw); go_simp; try (with_reducible rfl)
        try simp only [Act.put, List.setIfInBounds_toArray, List.set_cons_zero, List.set_cons_succ]
        refine wpAnyH_take (i := 24) (oi := ⟨some 99, _, _, _, _, _⟩) (v := ?_) rfl (by kernel_rfl) (by kernel_rfl) (by kernel_rfl) (fun _ _ _ h => h) (Or.inl ⟨by rfl, ?_⟩) (by assumption) ?_
        rotate_left
        · intro w hSw; (try dsimp only at hSw); go_simp; try (with_reducible rfl)
        try simp only [Act.put, List.setIfInBounds_toArray, List.set_cons_zero, List.set_cons_succ]
        refine wpAnyH_take (i := 25) (oi := ⟨some 100, _, _, _, _, _⟩) (v := ?_) rfl (by kernel_rfl) (by kernel_rfl) (by kernel_rfl) (fun _ _ _ h => h) (Or.inl ⟨by rfl, ?_⟩) (by assumption) ?_
        rotate_left
        · intro w hSw; (try dsimp only at hSw); go_simp; try (with_reducible rfl)
        try simp only [Act.put, List.setIfInBounds_toArray, List.set_cons_zero, List.set_cons_succ]
        refine wpAnyH_take (i := 26) (oi := ⟨some 101, _, _, _, _, _⟩) (v := ?_) rfl (by kernel_rfl) (by kernel_rfl) (by kernel_rfl) (fun _ _ _ h => h) (Or.inl ⟨by rfl, ?_⟩) (by assumption) ?_
        rotate_left
        · intro w hSw; (try dsimp only at hSw); go_simp; try (with_reducible rfl)
        try simp only [Act.put, List.setIfInBounds_toArray, List.set_cons_zero, List.set_cons_succ]
        refine wpAnyH_ready (rs := [18]) (by kernel_rfl) (by simp) ?_
        refine AllReadyH.cons (o := ⟨some 93, _, _, _, _, _⟩) rfl (fun K hK => ?_) AllReadyH.nil
        go_simp
        go_at_call 20
        refine (le_VO (w := w) (a := a) (b := b) (c := c) (g := g) (g' := h) _ _ _ (by first | with_reducible exact P1.out) (by first | (with_reducible assumption) | exact VO.last (by assumption))).mono ?_
        rintro e wk ⟨rfl, hV⟩
        go_wp2_with fail
        refine hK.out _ _ (VO.three hV) (fun hHeld => ?_)
        clear hK K
        try simp only [Act.put, List.setIfInBounds_toArray, List.set_cons_zero, List.set_cons_succ]
        refine wpAnyH_take (i := 19) (oi := ⟨some 94, _, _, _, _, _⟩) (v := ?_) rfl (by kernel_rfl) (by kernel_rfl) (by kernel_rfl) (fun _ _ _ h => h) (Or.inl ⟨by rfl, ?_⟩) (by assumption) ?_
        rotate_left
        · intro w hSw; (try dsimp only at hSw); go_simp; try (with_reducible rfl)
        try simp only [Act.put, List.setIfInBounds_toArray, List.set_cons_zero, List.set_cons_succ]
        refine wpAnyH_take (i := 20) (oi := ⟨some 95, _, _, _, _, _⟩) (v := _) rfl (by kernel_rfl) (by kernel_rfl) (by kernel_rfl) (fun _ _ _ h => h) (Or.inr ⟨by rfl, rfl⟩) (by assumption) ?_
        try simp only [Act.put, List.setIfInBounds_toArray, List.set_cons_zero, List.set_cons_succ]
        refine wpAnyH_take (i := 21) (oi := ⟨some 96, _, _, _, _, _⟩) (v := _) rfl (by kernel_rfl) (by kernel_rfl) (by kernel_rfl) (fun _ _ _ h => h) (Or.inr ⟨by rfl, rfl⟩) (by assumption) ?_
        try simp only [Act.put, List.setIfInBounds_toArray, List.set_cons_zero, List.set_cons_succ]
        refine wpAnyH_take (i := 22) (oi := ⟨some 97, _, _, _, _, _⟩) (v := _) rfl (by kernel_rfl) (by kernel_rfl) (by kernel_rfl) (fun _ _ _ h => h) (Or.inr ⟨by rfl, rfl⟩) (by assumption) ?_
        try simp only [Act.put, List.setIfInBounds_toArray, List.set_cons_zero, List.set_cons_succ]
        refine wpAnyH_take (i := 23) (oi := ⟨some 98, _, _, _, _, _⟩) (v := ?_) rfl (by kernel_rfl) (by kernel_rfl) (by kernel_rfl) (fun _ _ _ h => h) (Or.inl ⟨by rfl, ?_⟩) (by assumption) ?_
        rotate_left
        · intro w hSw; (try dsimp only at hSw); go_simp; try (with_reducible rfl)
        try simp only [Act.put, List.setIfInBounds_toArray, List.set_cons_zero, List.set_cons_succ]
        refine wpAnyH_take (i := 27) (oi := ⟨some 102, _, _, _, _, _⟩) (v := ?_) rfl (by kernel_rfl) (by kernel_rfl) (by kernel_rfl) (fun _ _ _ h => h) (Or.inl ⟨by rfl, ?_⟩) (by assumption) ?_
        rotate_left
        · intro w hSw; (try dsimp only at hSw); go_simp; try (with_reducible rfl)
        try simp only [Act.put, List.setIfInBounds_toArray, List.set_cons_zero, List.set_cons_succ]
        refine wpAnyH_take (i := 28) (oi := ⟨some 103, _, _, _, _, _⟩) (v := ?_) rfl (by kernel_rfl) (by kernel_rfl) (by kernel_rfl) (fun _ _ _ h => h) (Or.inl ⟨by rfl, ?_⟩) (by assumption) ?_
        rotate_left
        · intro w hSw; (try dsimp only at hSw); go_simp; try (with_reducible rfl)
        try simp only [Act.put, List.setIfInBounds_toArray, List.set_cons_zero, List.set_cons_succ]
        refine wpAnyH_take (i := 29) (oi := ⟨some 6, _, _, _, _, _⟩) (v := ?_) rfl (by kernel_rfl) (by kernel_rfl) (by kernel_rfl) (fun _ _ _ h => h) (Or.inl ⟨by rfl, ?_⟩) (by assumption) ?_
        rotate_left
        · intro w hSw; (try dsimp only at hSw); go_simp; try (with_reducible rfl)
        try simp only [Act.put, List.setIfInBounds_toArray, List.set_cons_zero, List.set_cons_succ]
        refine wpAnyH_done (by kernel_rfl) ?_ _
        go_wp2
        go_ret
        exact ⟨rfl, T3.bel (VO.t hV)⟩
      · obtain ⟨r4, hr4⟩ : ∃ r, leV b a = r := ⟨_, rfl⟩
        rw [hr4] at hbo
        have he : ∀ w, (Op.equalIn 10000 24 (.agg #[.int .u32 (a 0), .int .u32 (a 1), .int .u32 (a 2), .int .u32 (a 3), .int .u32 (a 4), .int .u32 (a 5), .int .u32 (a 6), .int .u32 (a 7)]) (.agg #[.int .u32 (b 0), .int .u32 (b 1), .int .u32 (b 2), .int .u32 (b 3), .int .u32 (b 4), .int .u32 (b 5), .int .u32 (b 6), .int .u32 (b 7)])).run Tryd.prog w = .ok r4 w := fun w => by rw [← show eqV a b = r4 by rw [hbo, hp]; rfl]; exact eql_vec 9998 a b w
        rcases hq : leV b c
        · have P1 := Lib.hid hp; have P2 := Lib.hid hq; have P4 := Lib.hid hr4; clear hp hq hr4 hbo
          refine wp_region_held_drew (S := (fun w' => w'.cell? ⟨w.heap.size, 0, none⟩ = some (.int .u32 (a 0)) ∧ w'.cell? ⟨w.heap.size, 1, none⟩ = some (.int .u32 (a 1)) ∧ w'.cell? ⟨w.heap.size, 2, none⟩ = some (.int .u32 (a 2)) ∧ w'.cell? ⟨w.heap.size, 3, none⟩ = some (.int .u32 (a 3)) ∧ w'.cell? ⟨w.heap.size, 4, none⟩ = some (.int .u32 (a 4)) ∧ w'.cell? ⟨w.heap.size, 5, none⟩ = some (.int .u32 (a 5)) ∧ w'.cell? ⟨w.heap.size, 6, none⟩ = some (.int .u32 (a 6)) ∧ w'.cell? ⟨w.heap.size, 7, none⟩ = some (.int .u32 (a 7)) ∧ w'.cell? ⟨w.heap.size + 1, 0, none⟩ = some (.int .u32 (b 0)) ∧ w'.cell? ⟨w.heap.size + 1, 1, none⟩ = some (.int .u32 (b 1)) ∧ w'.cell? ⟨w.heap.size + 1, 2, none⟩ = some (.int .u32 (b 2)) ∧ w'.cell? ⟨w.heap.size + 1, 3, none⟩ = some (.int .u32 (b 3)) ∧ w'.cell? ⟨w.heap.size + 1, 4, none⟩ = some (.int .u32 (b 4)) ∧ w'.cell? ⟨w.heap.size + 1, 5, none⟩ = some (.int .u32 (b 5)) ∧ w'.cell? ⟨w.heap.size + 1, 6, none⟩ = some (.int .u32 (b 6)) ∧ w'.cell? ⟨w.heap.size + 1, 7, none⟩ = some (.int .u32 (b 7)) ∧ w'.cell? ⟨w.heap.size + 1 + 1, 0, none⟩ = some (.int .u32 (c 0)) ∧ w'.cell? ⟨w.heap.size + 1 + 1, 1, none⟩ = some (.int .u32 (c 1)) ∧ w'.cell? ⟨w.heap.size + 1 + 1, 2, none⟩ = some (.int .u32 (c 2)) ∧ w'.cell? ⟨w.heap.size + 1 + 1, 3, none⟩ = some (.int .u32 (c 3)) ∧ w'.cell? ⟨w.heap.size + 1 + 1, 4, none⟩ = some (.int .u32 (c 4)) ∧ w'.cell? ⟨w.heap.size + 1 + 1, 5, none⟩ = some (.int .u32 (c 5)) ∧ w'.cell? ⟨w.heap.size + 1 + 1, 6, none⟩ = some (.int .u32 (c 6)) ∧ w'.cell? ⟨w.heap.size + 1 + 1, 7, none⟩ = some (.int .u32 (c 7)) ∧ VO w a b c g h w')) (by kernel_rfl) (VO.three hW.drew) (fun hHeld => ?_)
          refine wpAnyH_take (i := 0) (oi := ⟨some 75, _, _, _, _, _⟩) (v := ?_) rfl (by kernel_rfl) (by kernel_rfl) (by kernel_rfl) (fun _ _ _ h => h) (Or.inl ⟨by rfl, ?_⟩) (by assumption) ?_
          rotate_left
          · intro w hSw; (try dsimp only at hSw); go_simp; try (with_reducible rfl)
          try simp only [Act.put, List.setIfInBounds_toArray, List.set_cons_zero, List.set_cons_succ]
          refine wpAnyH_take (i := 1) (oi := ⟨some 76, _, _, _, _, _⟩) (v := ?_) rfl (by kernel_rfl) (by kernel_rfl) (by kernel_rfl) (fun _ _ _ h => h) (Or.inl ⟨by rfl, ?_⟩) (by assumption) ?_
          rotate_left
          · intro w hSw; (try dsimp only at hSw); go_simp; try (with_reducible rfl)
          try simp only [Act.put, List.setIfInBounds_toArray, List.set_cons_zero, List.set_cons_succ]
          refine wpAnyH_ready (rs := [2]) (by kernel_rfl) (by simp) ?_
          refine AllReadyH.cons (o := ⟨some 77, _, _, _, _, _⟩) rfl (fun K hK => ?_) AllReadyH.nil
          go_simp
          go_at_call 20
          refine (le_VO (w := w) (a := a) (b := b) (c := c) (g := g) (g' := h) _ _ _ (by first | with_reducible exact P1.out | with_reducible exact P2.out | with_reducible exact P4.out) (by first | (with_reducible assumption) | exact VO.last (by assumption))).mono ?_
          rintro e wk ⟨rfl, hV⟩
          go_wp2_with fail
          refine hK.out _ _ (VO.three hV) (fun hHeld => ?_)
          clear hK K
          try simp only [Act.put, List.setIfInBounds_toArray, List.set_cons_zero, List.set_cons_succ]
          refine wpAnyH_take (i := 3) (oi := ⟨some 78, _, _, _, _, _⟩) (v := ?_) rfl (by kernel_rfl) (by kernel_rfl) (by kernel_rfl) (fun _ _ _ h => h) (Or.inl ⟨by rfl, ?_⟩) (by assumption) ?_
          rotate_left
          · intro w hSw; (try dsimp only at hSw); go_simp; try (with_reducible rfl)
          try simp only [Act.put, List.setIfInBounds_toArray, List.set_cons_zero, List.set_cons_succ]
          refine wpAnyH_take (i := 4) (oi := ⟨some 79, _, _, _, _, _⟩) (v := ?_) rfl (by kernel_rfl) (by kernel_rfl) (by kernel_rfl) (fun _ _ _ h => h) (Or.inl ⟨by rfl, ?_⟩) (by assumption) ?_
          rotate_left
          · intro w hSw; (try dsimp only at hSw); go_simp; try (with_reducible rfl)
          try simp only [Act.put, List.setIfInBounds_toArray, List.set_cons_zero, List.set_cons_succ]
          refine wpAnyH_take (i := 5) (oi := ⟨some 80, _, _, _, _, _⟩) (v := ?_) rfl (by kernel_rfl) (by kernel_rfl) (by kernel_rfl) (fun _ _ _ h => h) (Or.inl ⟨by rfl, ?_⟩) (by assumption) ?_
          rotate_left
          · intro w hSw; (try dsimp only at hSw); go_simp; try (with_reducible rfl)
          try simp only [Act.put, List.setIfInBounds_toArray, List.set_cons_zero, List.set_cons_succ]
          refine wpAnyH_take (i := 6) (oi := ⟨some 81, _, _, _, _, _⟩) (v := ?_) rfl (by kernel_rfl) (by kernel_rfl) (by kernel_rfl) (fun _ _ _ h => h) (Or.inl ⟨by rfl, ?_⟩) (by assumption) ?_
          rotate_left
          · intro w hSw; (try dsimp only at hSw); go_simp; try (with_reducible rfl)
          try simp only [Act.put, List.setIfInBounds_toArray, List.set_cons_zero, List.set_cons_succ]
          refine wpAnyH_ready (rs := [7]) (by kernel_rfl) (by simp) ?_
          refine AllReadyH.cons (o := ⟨some 82, _, _, _, _, _⟩) rfl (fun K hK => ?_) AllReadyH.nil
          go_simp
          go_at_call 20
          refine (le_VO (w := w) (a := a) (b := b) (c := c) (g := g) (g' := h) _ _ _ (by first | with_reducible exact P1.out | with_reducible exact P2.out | with_reducible exact P4.out) (by first | (with_reducible assumption) | exact VO.last (by assumption))).mono ?_
          rintro e wk ⟨rfl, hV⟩
          go_wp2_with fail
          refine hK.out _ _ (VO.three hV) (fun hHeld => ?_)
          clear hK K
          try simp only [Act.put, List.setIfInBounds_toArray, List.set_cons_zero, List.set_cons_succ]
          refine wpAnyH_take (i := 8) (oi := ⟨some 83, _, _, _, _, _⟩) (v := ?_) rfl (by kernel_rfl) (by kernel_rfl) (by kernel_rfl) (fun _ _ _ h => h) (Or.inl ⟨by rfl, ?_⟩) (by assumption) ?_
          rotate_left
          · intro w hSw; (try dsimp only at hSw); go_simp; try (with_reducible rfl)
          try simp only [Act.put, List.setIfInBounds_toArray, List.set_cons_zero, List.set_cons_succ]
          refine wpAnyH_take (i := 9) (oi := ⟨some 84, _, _, _, _, _⟩) (v := ?_) rfl (by kernel_rfl) (by kernel_rfl) (by kernel_rfl) (fun _ _ _ h => h) (Or.inl ⟨by rfl, ?_⟩) (by assumption) ?_
          rotate_left
          · intro w hSw; (try dsimp only at hSw); go_simp; try (with_reducible rfl)
          try simp only [Act.put, List.setIfInBounds_toArray, List.set_cons_zero, List.set_cons_succ]
          refine wpAnyH_take (i := 10) (oi := ⟨some 85, _, _, _, _, _⟩) (v := ?_) rfl (by kernel_rfl) (by kernel_rfl) (by kernel_rfl) (fun _ _ _ h => h) (Or.inl ⟨by rfl, ?_⟩) (by assumption) ?_
          rotate_left
          · intro w hSw; (try dsimp only at hSw); go_simp; try (with_reducible rfl)
          try simp only [Act.put, List.setIfInBounds_toArray, List.set_cons_zero, List.set_cons_succ]
          refine wpAnyH_take (i := 11) (oi := ⟨some 86, _, _, _, _, _⟩) (v := _) rfl (by kernel_rfl) (by kernel_rfl) (by kernel_rfl) (fun _ _ _ h => h) (Or.inr ⟨by rfl, rfl⟩) (by assumption) ?_
          try simp only [Act.put, List.setIfInBounds_toArray, List.set_cons_zero, List.set_cons_succ]
          refine wpAnyH_take (i := 12) (oi := ⟨some 87, _, _, _, _, _⟩) (v := _) rfl (by kernel_rfl) (by kernel_rfl) (by kernel_rfl) (fun _ _ _ h => h) (Or.inr ⟨by rfl, rfl⟩) (by assumption) ?_
          try simp only [Act.put, List.setIfInBounds_toArray, List.set_cons_zero, List.set_cons_succ]
          refine wpAnyH_take (i := 13) (oi := ⟨some 88, _, _, _, _, _⟩) (v := _) rfl (by kernel_rfl) (by kernel_rfl) (by kernel_rfl) (fun _ _ _ h => h) (Or.inr ⟨by rfl, rfl⟩) (by assumption) ?_
          try simp only [Act.put, List.setIfInBounds_toArray, List.set_cons_zero, List.set_cons_succ]
          refine wpAnyH_take (i := 14) (oi := ⟨some 89, _, _, _, _, _⟩) (v := ?_) rfl (by kernel_rfl) (by kernel_rfl) (by kernel_rfl) (fun _ _ _ h => h) (Or.inl ⟨by rfl, ?_⟩) (by assumption) ?_
          rotate_left
          · intro w hSw; (try dsimp only at hSw); go_simp; try (with_reducible rfl)
          try simp only [Act.put, List.setIfInBounds_toArray, List.set_cons_zero, List.set_cons_succ]
          refine wpAnyH_take (i := 15) (oi := ⟨some 90, _, _, _, _, _⟩) (v := ?_) rfl (by kernel_rfl) (by kernel_rfl) (by kernel_rfl) (fun _ _ _ h => h) (Or.inl ⟨by rfl, ?_⟩) (by assumption) ?_
          rotate_left
          · intro w hSw; (try dsimp only at hSw); go_simp; try (with_reducible rfl)
          try simp only [Act.put, List.setIfInBounds_toArray, List.set_cons_zero, List.set_cons_succ]
          refine wpAnyH_take (i := 16) (oi := ⟨some 91, _, _, _, _, _⟩) (v := ?_) rfl (by kernel_rfl) (by kernel_rfl) (by kernel_rfl) (fun _ _ _ h => h) (Or.inl ⟨by rfl, ?_⟩) (by assumption) ?_
          rotate_left
          · intro w hSw; (try dsimp only at hSw); go_simp; try (with_reducible rfl)
          try simp only [Act.put, List.setIfInBounds_toArray, List.set_cons_zero, List.set_cons_succ]
          refine wpAnyH_take (i := 17) (oi := ⟨some 92, _, _, _, _, _⟩) (v := ?_) rfl (by kernel_rfl) (by kernel_rfl) (by kernel_rfl) (fun _ _ _ h => h) (Or.inl ⟨by rfl, ?_⟩) (by assumption) ?_
          rotate_left
          · intro w hSw; (try dsimp only at hSw); go_simp; try (with_reducible rfl)
          try simp only [Act.put, List.setIfInBounds_toArray, List.set_cons_zero, List.set_cons_succ]
          refine wpAnyH_take (i := 24) (oi := ⟨some 99, _, _, _, _, _⟩) (v := ?_) rfl (by kernel_rfl) (by kernel_rfl) (by kernel_rfl) (fun _ _ _ h => h) (Or.inl ⟨by rfl, ?_⟩) (by assumption) ?_
          rotate_left
          · intro w hSw; (try dsimp only at hSw); go_simp; try (with_reducible rfl)
          try simp only [Act.put, List.setIfInBounds_toArray, List.set_cons_zero, List.set_cons_succ]
          refine wpAnyH_take (i := 25) (oi := ⟨some 100, _, _, _, _, _⟩) (v := ?_) rfl (by kernel_rfl) (by kernel_rfl) (by kernel_rfl) (fun _ _ _ h => h) (Or.inl ⟨by rfl, ?_⟩) (by assumption) ?_
          rotate_left
          · intro w hSw; (try dsimp only at hSw); go_simp; try (with_reducible rfl)
          try simp only [Act.put, List.setIfInBounds_toArray, List.set_cons_zero, List.set_cons_succ]
          refine wpAnyH_take (i := 26) (oi := ⟨some 101, _, _, _, _, _⟩) (v := ?_) rfl (by kernel_rfl) (by kernel_rfl) (by kernel_rfl) (fun _ _ _ h => h) (Or.inl ⟨by rfl, ?_⟩) (by assumption) ?_
          rotate_left
          · intro w hSw; (try dsimp only at hSw); go_simp; try (with_reducible rfl)
          try simp only [Act.put, List.setIfInBounds_toArray, List.set_cons_zero, List.set_cons_succ]
          refine wpAnyH_ready (rs := [18]) (by kernel_rfl) (by simp) ?_
          refine AllReadyH.cons (o := ⟨some 93, _, _, _, _, _⟩) rfl (fun K hK => ?_) AllReadyH.nil
          go_simp
          go_at_call 20
          refine (le_VO (w := w) (a := a) (b := b) (c := c) (g := g) (g' := h) _ _ _ (by first | with_reducible exact P1.out | with_reducible exact P2.out | with_reducible exact P4.out) (by first | (with_reducible assumption) | exact VO.last (by assumption))).mono ?_
          rintro e wk ⟨rfl, hV⟩
          go_wp2_with fail
          refine hK.out _ _ (VO.three hV) (fun hHeld => ?_)
          clear hK K
          try simp only [Act.put, List.setIfInBounds_toArray, List.set_cons_zero, List.set_cons_succ]
          refine wpAnyH_take (i := 19) (oi := ⟨some 94, _, _, _, _, _⟩) (v := ?_) rfl (by kernel_rfl) (by kernel_rfl) (by kernel_rfl) (fun _ _ _ h => h) (Or.inl ⟨by rfl, ?_⟩) (by assumption) ?_
          rotate_left
          · intro w hSw; (try dsimp only at hSw); go_simp; try (with_reducible rfl)
          try simp only [Act.put, List.setIfInBounds_toArray, List.set_cons_zero, List.set_cons_succ]
          refine wpAnyH_take (i := 20) (oi := ⟨some 95, _, _, _, _, _⟩) (v := ?_) rfl (by kernel_rfl) (by kernel_rfl) (by kernel_rfl) (fun _ _ _ h => h) (Or.inl ⟨by rfl, ?_⟩) (by assumption) ?_
          rotate_left
          · intro w hSw; (try dsimp only at hSw); go_simp; try (with_reducible rfl)
          try simp only [Act.put, List.setIfInBounds_toArray, List.set_cons_zero, List.set_cons_succ]
          refine wpAnyH_take (i := 21) (oi := ⟨some 96, _, _, _, _, _⟩) (v := ?_) rfl (by kernel_rfl) (by kernel_rfl) (by kernel_rfl) (fun _ _ _ h => h) (Or.inl ⟨by rfl, ?_⟩) (by assumption) ?_
          rotate_left
          · intro w hSw; (try dsimp only at hSw); go_simp; try (with_reducible rfl)
          try simp only [Act.put, List.setIfInBounds_toArray, List.set_cons_zero, List.set_cons_succ]
          refine wpAnyH_ready (rs := [22]) (by kernel_rfl) (by simp) ?_
          refine AllReadyH.cons (o := ⟨some 97, _, _, _, _, _⟩) rfl (fun K hK => ?_) AllReadyH.nil
          go_simp
          go_at_call 20
          refine (le_VO (w := w) (a := a) (b := b) (c := c) (g := g) (g' := h) _ _ _ (by first | with_reducible exact P1.out | with_reducible exact P2.out | with_reducible exact P4.out) (by first | (with_reducible assumption) | exact VO.last (by assumption))).mono ?_
          rintro e wk ⟨rfl, hV⟩
          go_wp2_with fail
          refine hK.out _ _ (VO.three hV) (fun hHeld => ?_)
          clear hK K
          try simp only [Act.put, List.setIfInBounds_toArray, List.set_cons_zero, List.set_cons_succ]
          refine wpAnyH_take (i := 23) (oi := ⟨some 98, _, _, _, _, _⟩) (v := ?_) rfl (by kernel_rfl) (by kernel_rfl) (by kernel_rfl) (fun _ _ _ h => h) (Or.inl ⟨by rfl, ?_⟩) (by assumption) ?_
          rotate_left
          · intro w hSw; (try dsimp only at hSw); go_simp; try (with_reducible rfl)
          try simp only [Act.put, List.setIfInBounds_toArray, List.set_cons_zero, List.set_cons_succ]
          refine wpAnyH_take (i := 27) (oi := ⟨some 102, _, _, _, _, _⟩) (v := ?_) rfl (by kernel_rfl) (by kernel_rfl) (by kernel_rfl) (fun _ _ _ h => h) (Or.inl ⟨by rfl, ?_⟩) (by assumption) ?_
          rotate_left
          · intro w hSw; (try dsimp only at hSw); go_simp; try (with_reducible rfl)
          try simp only [Act.put, List.setIfInBounds_toArray, List.set_cons_zero, List.set_cons_succ]
          refine wpAnyH_take (i := 28) (oi := ⟨some 103, _, _, _, _, _⟩) (v := ?_) rfl (by kernel_rfl) (by kernel_rfl) (by kernel_rfl) (fun _ _ _ h => h) (Or.inl ⟨by rfl, ?_⟩) (by assumption) ?_
          rotate_left
          · intro w hSw; (try dsimp only at hSw); go_simp; try (with_reducible rfl)
          try simp only [Act.put, List.setIfInBounds_toArray, List.set_cons_zero, List.set_cons_succ]
          refine wpAnyH_take (i := 29) (oi := ⟨some 6, _, _, _, _, _⟩) (v := ?_) rfl (by kernel_rfl) (by kernel_rfl) (by kernel_rfl) (fun _ _ _ h => h) (Or.inl ⟨by rfl, ?_⟩) (by assumption) ?_
          rotate_left
          · intro w hSw; (try dsimp only at hSw); go_simp; try (with_reducible rfl)
          try simp only [Act.put, List.setIfInBounds_toArray, List.set_cons_zero, List.set_cons_succ]
          refine wpAnyH_done (by kernel_rfl) ?_ _
          go_wp2
          go_ret
          exact ⟨rfl, T3.bel (VO.t hV)⟩
        · have P3 := Lib.hid (le_trans3 hp hq); have P1 := Lib.hid hp; have P2 := Lib.hid hq; have P4 := Lib.hid hr4; clear hp hq hr4 hbo
          refine wp_region_held_drew (S := (fun w' => w'.cell? ⟨w.heap.size, 0, none⟩ = some (.int .u32 (a 0)) ∧ w'.cell? ⟨w.heap.size, 1, none⟩ = some (.int .u32 (a 1)) ∧ w'.cell? ⟨w.heap.size, 2, none⟩ = some (.int .u32 (a 2)) ∧ w'.cell? ⟨w.heap.size, 3, none⟩ = some (.int .u32 (a 3)) ∧ w'.cell? ⟨w.heap.size, 4, none⟩ = some (.int .u32 (a 4)) ∧ w'.cell? ⟨w.heap.size, 5, none⟩ = some (.int .u32 (a 5)) ∧ w'.cell? ⟨w.heap.size, 6, none⟩ = some (.int .u32 (a 6)) ∧ w'.cell? ⟨w.heap.size, 7, none⟩ = some (.int .u32 (a 7)) ∧ w'.cell? ⟨w.heap.size + 1, 0, none⟩ = some (.int .u32 (b 0)) ∧ w'.cell? ⟨w.heap.size + 1, 1, none⟩ = some (.int .u32 (b 1)) ∧ w'.cell? ⟨w.heap.size + 1, 2, none⟩ = some (.int .u32 (b 2)) ∧ w'.cell? ⟨w.heap.size + 1, 3, none⟩ = some (.int .u32 (b 3)) ∧ w'.cell? ⟨w.heap.size + 1, 4, none⟩ = some (.int .u32 (b 4)) ∧ w'.cell? ⟨w.heap.size + 1, 5, none⟩ = some (.int .u32 (b 5)) ∧ w'.cell? ⟨w.heap.size + 1, 6, none⟩ = some (.int .u32 (b 6)) ∧ w'.cell? ⟨w.heap.size + 1, 7, none⟩ = some (.int .u32 (b 7)) ∧ w'.cell? ⟨w.heap.size + 1 + 1, 0, none⟩ = some (.int .u32 (c 0)) ∧ w'.cell? ⟨w.heap.size + 1 + 1, 1, none⟩ = some (.int .u32 (c 1)) ∧ w'.cell? ⟨w.heap.size + 1 + 1, 2, none⟩ = some (.int .u32 (c 2)) ∧ w'.cell? ⟨w.heap.size + 1 + 1, 3, none⟩ = some (.int .u32 (c 3)) ∧ w'.cell? ⟨w.heap.size + 1 + 1, 4, none⟩ = some (.int .u32 (c 4)) ∧ w'.cell? ⟨w.heap.size + 1 + 1, 5, none⟩ = some (.int .u32 (c 5)) ∧ w'.cell? ⟨w.heap.size + 1 + 1, 6, none⟩ = some (.int .u32 (c 6)) ∧ w'.cell? ⟨w.heap.size + 1 + 1, 7, none⟩ = some (.int .u32 (c 7)) ∧ VO w a b c g h w')) (by kernel_rfl) (VO.three hW.drew) (fun hHeld => ?_)
          refine wpAnyH_take (i := 0) (oi := ⟨some 75, _, _, _, _, _⟩) (v := ?_) rfl (by kernel_rfl) (by kernel_rfl) (by kernel_rfl) (fun _ _ _ h => h) (Or.inl ⟨by rfl, ?_⟩) (by assumption) ?_
          rotate_left
          · intro w hSw; (try dsimp only at hSw); go_simp; try (with_reducible rfl)
          try simp only [Act.put, List.setIfInBounds_toArray, List.set_cons_zero, List.set_cons_succ]
          refine wpAnyH_take (i := 1) (oi := ⟨some 76, _, _, _, _, _⟩) (v := ?_) rfl (by kernel_rfl) (by kernel_rfl) (by kernel_rfl) (fun _ _ _ h => h) (Or.inl ⟨by rfl, ?_⟩) (by assumption) ?_
          rotate_left
          · intro w hSw; (try dsimp only at hSw); go_simp; try (with_reducible rfl)
          try simp only [Act.put, List.setIfInBounds_toArray, List.set_cons_zero, List.set_cons_succ]
          refine wpAnyH_ready (rs := [2]) (by kernel_rfl) (by simp) ?_
          refine AllReadyH.cons (o := ⟨some 77, _, _, _, _, _⟩) rfl (fun K hK => ?_) AllReadyH.nil
          go_simp
          go_at_call 20
          refine (le_VO (w := w) (a := a) (b := b) (c := c) (g := g) (g' := h) _ _ _ (by first | with_reducible exact P1.out | with_reducible exact P2.out | with_reducible exact P3.out | with_reducible exact P4.out) (by first | (with_reducible assumption) | exact VO.last (by assumption))).mono ?_
          rintro e wk ⟨rfl, hV⟩
          go_wp2_with fail
          refine hK.out _ _ (VO.three hV) (fun hHeld => ?_)
          clear hK K
          try simp only [Act.put, List.setIfInBounds_toArray, List.set_cons_zero, List.set_cons_succ]
          refine wpAnyH_take (i := 3) (oi := ⟨some 78, _, _, _, _, _⟩) (v := ?_) rfl (by kernel_rfl) (by kernel_rfl) (by kernel_rfl) (fun _ _ _ h => h) (Or.inl ⟨by rfl, ?_⟩) (by assumption) ?_
          rotate_left
          · intro w hSw; (try dsimp only at hSw); go_simp; try (with_reducible rfl)
          try simp only [Act.put, List.setIfInBounds_toArray, List.set_cons_zero, List.set_cons_succ]
          refine wpAnyH_take (i := 4) (oi := ⟨some 79, _, _, _, _, _⟩) (v := ?_) rfl (by kernel_rfl) (by kernel_rfl) (by kernel_rfl) (fun _ _ _ h => h) (Or.inl ⟨by rfl, ?_⟩) (by assumption) ?_
          rotate_left
          · intro w hSw; (try dsimp only at hSw); go_simp; try (with_reducible rfl)
          try simp only [Act.put, List.setIfInBounds_toArray, List.set_cons_zero, List.set_cons_succ]
          refine wpAnyH_take (i := 5) (oi := ⟨some 80, _, _, _, _, _⟩) (v := ?_) rfl (by kernel_rfl) (by kernel_rfl) (by kernel_rfl) (fun _ _ _ h => h) (Or.inl ⟨by rfl, ?_⟩) (by assumption) ?_
          rotate_left
          · intro w hSw; (try dsimp only at hSw); go_simp; try (with_reducible rfl)
          try simp only [Act.put, List.setIfInBounds_toArray, List.set_cons_zero, List.set_cons_succ]
          refine wpAnyH_take (i := 6) (oi := ⟨some 81, _, _, _, _, _⟩) (v := ?_) rfl (by kernel_rfl) (by kernel_rfl) (by kernel_rfl) (fun _ _ _ h => h) (Or.inl ⟨by rfl, ?_⟩) (by assumption) ?_
          rotate_left
          · intro w hSw; (try dsimp only at hSw); go_simp; try (with_reducible rfl)
          try simp only [Act.put, List.setIfInBounds_toArray, List.set_cons_zero, List.set_cons_succ]
          refine wpAnyH_ready (rs := [7]) (by kernel_rfl) (by simp) ?_
          refine AllReadyH.cons (o := ⟨some 82, _, _, _, _, _⟩) rfl (fun K hK => ?_) AllReadyH.nil
          go_simp
          go_at_call 20
          refine (le_VO (w := w) (a := a) (b := b) (c := c) (g := g) (g' := h) _ _ _ (by first | with_reducible exact P1.out | with_reducible exact P2.out | with_reducible exact P3.out | with_reducible exact P4.out) (by first | (with_reducible assumption) | exact VO.last (by assumption))).mono ?_
          rintro e wk ⟨rfl, hV⟩
          go_wp2_with fail
          refine hK.out _ _ (VO.three hV) (fun hHeld => ?_)
          clear hK K
          try simp only [Act.put, List.setIfInBounds_toArray, List.set_cons_zero, List.set_cons_succ]
          refine wpAnyH_take (i := 8) (oi := ⟨some 83, _, _, _, _, _⟩) (v := ?_) rfl (by kernel_rfl) (by kernel_rfl) (by kernel_rfl) (fun _ _ _ h => h) (Or.inl ⟨by rfl, ?_⟩) (by assumption) ?_
          rotate_left
          · intro w hSw; (try dsimp only at hSw); go_simp; try (with_reducible rfl)
          try simp only [Act.put, List.setIfInBounds_toArray, List.set_cons_zero, List.set_cons_succ]
          refine wpAnyH_take (i := 9) (oi := ⟨some 84, _, _, _, _, _⟩) (v := ?_) rfl (by kernel_rfl) (by kernel_rfl) (by kernel_rfl) (fun _ _ _ h => h) (Or.inl ⟨by rfl, ?_⟩) (by assumption) ?_
          rotate_left
          · intro w hSw; (try dsimp only at hSw); go_simp; try (with_reducible rfl)
          try simp only [Act.put, List.setIfInBounds_toArray, List.set_cons_zero, List.set_cons_succ]
          refine wpAnyH_take (i := 10) (oi := ⟨some 85, _, _, _, _, _⟩) (v := ?_) rfl (by kernel_rfl) (by kernel_rfl) (by kernel_rfl) (fun _ _ _ h => h) (Or.inl ⟨by rfl, ?_⟩) (by assumption) ?_
          rotate_left
          · intro w hSw; (try dsimp only at hSw); go_simp; try (with_reducible rfl)
          try simp only [Act.put, List.setIfInBounds_toArray, List.set_cons_zero, List.set_cons_succ]
          refine wpAnyH_take (i := 11) (oi := ⟨some 86, _, _, _, _, _⟩) (v := ?_) rfl (by kernel_rfl) (by kernel_rfl) (by kernel_rfl) (fun _ _ _ h => h) (Or.inl ⟨by rfl, ?_⟩) (by assumption) ?_
          rotate_left
          · intro w hSw; (try dsimp only at hSw); go_simp; try (with_reducible rfl)
          try simp only [Act.put, List.setIfInBounds_toArray, List.set_cons_zero, List.set_cons_succ]
          refine wpAnyH_take (i := 12) (oi := ⟨some 87, _, _, _, _, _⟩) (v := ?_) rfl (by kernel_rfl) (by kernel_rfl) (by kernel_rfl) (fun _ _ _ h => h) (Or.inl ⟨by rfl, ?_⟩) (by assumption) ?_
          rotate_left
          · intro w hSw; (try dsimp only at hSw); go_simp; try (with_reducible rfl)
          try simp only [Act.put, List.setIfInBounds_toArray, List.set_cons_zero, List.set_cons_succ]
          refine wpAnyH_ready (rs := [13]) (by kernel_rfl) (by simp) ?_
          refine AllReadyH.cons (o := ⟨some 88, _, _, _, _, _⟩) rfl (fun K hK => ?_) AllReadyH.nil
          go_simp
          go_at_call 20
          refine (le_VO (w := w) (a := a) (b := b) (c := c) (g := g) (g' := h) _ _ _ (by first | with_reducible exact P1.out | with_reducible exact P2.out | with_reducible exact P3.out | with_reducible exact P4.out) (by first | (with_reducible assumption) | exact VO.last (by assumption))).mono ?_
          rintro e wk ⟨rfl, hV⟩
          go_wp2_with fail
          refine hK.out _ _ (VO.three hV) (fun hHeld => ?_)
          clear hK K
          try simp only [Act.put, List.setIfInBounds_toArray, List.set_cons_zero, List.set_cons_succ]
          refine wpAnyH_take (i := 14) (oi := ⟨some 89, _, _, _, _, _⟩) (v := ?_) rfl (by kernel_rfl) (by kernel_rfl) (by kernel_rfl) (fun _ _ _ h => h) (Or.inl ⟨by rfl, ?_⟩) (by assumption) ?_
          rotate_left
          · intro w hSw; (try dsimp only at hSw); go_simp; try (with_reducible rfl)
          try simp only [Act.put, List.setIfInBounds_toArray, List.set_cons_zero, List.set_cons_succ]
          refine wpAnyH_take (i := 15) (oi := ⟨some 90, _, _, _, _, _⟩) (v := ?_) rfl (by kernel_rfl) (by kernel_rfl) (by kernel_rfl) (fun _ _ _ h => h) (Or.inl ⟨by rfl, ?_⟩) (by assumption) ?_
          rotate_left
          · intro w hSw; (try dsimp only at hSw); go_simp; try (with_reducible rfl)
          try simp only [Act.put, List.setIfInBounds_toArray, List.set_cons_zero, List.set_cons_succ]
          refine wpAnyH_take (i := 16) (oi := ⟨some 91, _, _, _, _, _⟩) (v := ?_) rfl (by kernel_rfl) (by kernel_rfl) (by kernel_rfl) (fun _ _ _ h => h) (Or.inl ⟨by rfl, ?_⟩) (by assumption) ?_
          rotate_left
          · intro w hSw; (try dsimp only at hSw); go_simp; try (with_reducible rfl)
          try simp only [Act.put, List.setIfInBounds_toArray, List.set_cons_zero, List.set_cons_succ]
          refine wpAnyH_take (i := 17) (oi := ⟨some 92, _, _, _, _, _⟩) (v := ?_) rfl (by kernel_rfl) (by kernel_rfl) (by kernel_rfl) (fun _ _ _ h => h) (Or.inl ⟨by rfl, ?_⟩) (by assumption) ?_
          rotate_left
          · intro w hSw; (try dsimp only at hSw); go_simp; try (with_reducible rfl)
          try simp only [Act.put, List.setIfInBounds_toArray, List.set_cons_zero, List.set_cons_succ]
          refine wpAnyH_take (i := 24) (oi := ⟨some 99, _, _, _, _, _⟩) (v := ?_) rfl (by kernel_rfl) (by kernel_rfl) (by kernel_rfl) (fun _ _ _ h => h) (Or.inl ⟨by rfl, ?_⟩) (by assumption) ?_
          rotate_left
          · intro w hSw; (try dsimp only at hSw); go_simp; try (with_reducible rfl)
          try simp only [Act.put, List.setIfInBounds_toArray, List.set_cons_zero, List.set_cons_succ]
          refine wpAnyH_take (i := 25) (oi := ⟨some 100, _, _, _, _, _⟩) (v := ?_) rfl (by kernel_rfl) (by kernel_rfl) (by kernel_rfl) (fun _ _ _ h => h) (Or.inl ⟨by rfl, ?_⟩) (by assumption) ?_
          rotate_left
          · intro w hSw; (try dsimp only at hSw); go_simp; try (with_reducible rfl)
          try simp only [Act.put, List.setIfInBounds_toArray, List.set_cons_zero, List.set_cons_succ]
          refine wpAnyH_take (i := 26) (oi := ⟨some 101, _, _, _, _, _⟩) (v := ?_) rfl (by kernel_rfl) (by kernel_rfl) (by kernel_rfl) (fun _ _ _ h => h) (Or.inl ⟨by rfl, ?_⟩) (by assumption) ?_
          rotate_left
          · intro w hSw; (try dsimp only at hSw); go_simp; try (with_reducible rfl)
          try simp only [Act.put, List.setIfInBounds_toArray, List.set_cons_zero, List.set_cons_succ]
          refine wpAnyH_ready (rs := [18]) (by kernel_rfl) (by simp) ?_
          refine AllReadyH.cons (o := ⟨some 93, _, _, _, _, _⟩) rfl (fun K hK => ?_) AllReadyH.nil
          go_simp
          go_at_call 20
          refine (le_VO (w := w) (a := a) (b := b) (c := c) (g := g) (g' := h) _ _ _ (by first | with_reducible exact P1.out | with_reducible exact P2.out | with_reducible exact P3.out | with_reducible exact P4.out) (by first | (with_reducible assumption) | exact VO.last (by assumption))).mono ?_
          rintro e wk ⟨rfl, hV⟩
          go_wp2_with fail
          refine hK.out _ _ (VO.three hV) (fun hHeld => ?_)
          clear hK K
          try simp only [Act.put, List.setIfInBounds_toArray, List.set_cons_zero, List.set_cons_succ]
          refine wpAnyH_take (i := 19) (oi := ⟨some 94, _, _, _, _, _⟩) (v := ?_) rfl (by kernel_rfl) (by kernel_rfl) (by kernel_rfl) (fun _ _ _ h => h) (Or.inl ⟨by rfl, ?_⟩) (by assumption) ?_
          rotate_left
          · intro w hSw; (try dsimp only at hSw); go_simp; try (with_reducible rfl)
          try simp only [Act.put, List.setIfInBounds_toArray, List.set_cons_zero, List.set_cons_succ]
          refine wpAnyH_take (i := 20) (oi := ⟨some 95, _, _, _, _, _⟩) (v := ?_) rfl (by kernel_rfl) (by kernel_rfl) (by kernel_rfl) (fun _ _ _ h => h) (Or.inl ⟨by rfl, ?_⟩) (by assumption) ?_
          rotate_left
          · intro w hSw; (try dsimp only at hSw); go_simp; try (with_reducible rfl)
          try simp only [Act.put, List.setIfInBounds_toArray, List.set_cons_zero, List.set_cons_succ]
          refine wpAnyH_take (i := 21) (oi := ⟨some 96, _, _, _, _, _⟩) (v := ?_) rfl (by kernel_rfl) (by kernel_rfl) (by kernel_rfl) (fun _ _ _ h => h) (Or.inl ⟨by rfl, ?_⟩) (by assumption) ?_
          rotate_left
          · intro w hSw; (try dsimp only at hSw); go_simp; try (with_reducible rfl)
          try simp only [Act.put, List.setIfInBounds_toArray, List.set_cons_zero, List.set_cons_succ]
          refine wpAnyH_ready (rs := [22]) (by kernel_rfl) (by simp) ?_
          refine AllReadyH.cons (o := ⟨some 97, _, _, _, _, _⟩) rfl (fun K hK => ?_) AllReadyH.nil
          go_simp
          go_at_call 20
          refine (le_VO (w := w) (a := a) (b := b) (c := c) (g := g) (g' := h) _ _ _ (by first | with_reducible exact P1.out | with_reducible exact P2.out | with_reducible exact P3.out | with_reducible exact P4.out) (by first | (with_reducible assumption) | exact VO.last (by assumption))).mono ?_
          rintro e wk ⟨rfl, hV⟩
          go_wp2_with fail
          refine hK.out _ _ (VO.three hV) (fun hHeld => ?_)
          clear hK K
          try simp only [Act.put, List.setIfInBounds_toArray, List.set_cons_zero, List.set_cons_succ]
          refine wpAnyH_take (i := 23) (oi := ⟨some 98, _, _, _, _, _⟩) (v := ?_) rfl (by kernel_rfl) (by kernel_rfl) (by kernel_rfl) (fun _ _ _ h => h) (Or.inl ⟨by rfl, ?_⟩) (by assumption) ?_
          rotate_left
          · intro w hSw; (try dsimp only at hSw); go_simp; try (with_reducible rfl)
          try simp only [Act.put, List.setIfInBounds_toArray, List.set_cons_zero, List.set_cons_succ]
          refine wpAnyH_take (i := 27) (oi := ⟨some 102, _, _, _, _, _⟩) (v := ?_) rfl (by kernel_rfl) (by kernel_rfl) (by kernel_rfl) (fun _ _ _ h => h) (Or.inl ⟨by rfl, ?_⟩) (by assumption) ?_
          rotate_left
          · intro w hSw; (try dsimp only at hSw); go_simp; try (with_reducible rfl)
          try simp only [Act.put, List.setIfInBounds_toArray, List.set_cons_zero, List.set_cons_succ]
          refine wpAnyH_take (i := 28) (oi := ⟨some 103, _, _, _, _, _⟩) (v := ?_) rfl (by kernel_rfl) (by kernel_rfl) (by kernel_rfl) (fun _ _ _ h => h) (Or.inl ⟨by rfl, ?_⟩) (by assumption) ?_
          rotate_left
          · intro w hSw; (try dsimp only at hSw); go_simp; try (with_reducible rfl)
          try simp only [Act.put, List.setIfInBounds_toArray, List.set_cons_zero, List.set_cons_succ]
          refine wpAnyH_take (i := 29) (oi := ⟨some 6, _, _, _, _, _⟩) (v := ?_) rfl (by kernel_rfl) (by kernel_rfl) (by kernel_rfl) (fun _ _ _ h => h) (Or.inl ⟨by rfl, ?_⟩) (by assumption) ?_
          rotate_left
          · intro w hSw; (try dsimp only at hSw); go_simp; try (with_reducible rfl)
          try simp only [Act.put, List.setIfInBounds_toArray, List.set_cons_zero, List.set_cons_succ]
          refine wpAnyH_done (by kernel_rfl) ?_ _
          go_wp2
          go_ret
          exact ⟨rfl, T3.bel (VO.t hV)⟩
end Go.Proofs.YtfmdmifpgmkohaaDoor
