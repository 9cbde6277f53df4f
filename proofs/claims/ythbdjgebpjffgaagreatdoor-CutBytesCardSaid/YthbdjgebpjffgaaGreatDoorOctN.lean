/-
  What the statements' own Seen tells of an error of package octet: nothing of nil; the place and the number of a fault.
  Conditions: package errors' own variable holds the handle of the type error.
-/
import Derived.Test.YthbdjgebpjffgaaGreatDoorOctE
import Derived.Test.YthbdjgebpjffgaaGreatDoorOctF
set_option linter.unusedVariables false
set_option linter.unusedSimpArgs false
namespace Go.Proofs.YthbdjgebpjffgaaGreatDoor
open Go.RowKit

/-- Package errors' own variable holds the handle of the type error. -/
def Handle (w : World) : Prop := w.cell? ⟨0, 0, none⟩ = some (.iface 125 (.agg #[.pointer (some ⟨1, 49, none⟩)]))

set_option maxHeartbeats 400000 in
theorem seen_nil (w : World) :
    Calls Tryz.prog 14 #[.nilIface] w fun e w' => e = .returned (.agg #[.int .i64 0, .int .i64 0]) ∧ Below w.heap.size w w' := by
  go_enter Tryz.func14, Tryz.ntmps14
  go_wp2
  refine wp_loop_rounds 1 ?_
  rw [rounds_succ]
  go_wp2
  exact bodyPost_ret (v := .agg #[.int .i64 0, .int .i64 0]) (by simp [results, Tryz.results14, go_sem]) rfl ⟨rfl, ((Below.refl _ _).alloc (Nat.le_refl _) _)⟩

theorem Tryz.noErrno (v : Value) (w : World) : (Instr.typeAssert (.iface 65 v) 49 29 true).run Tryz.prog w = .ok (.tuple #[.int .i64 0, .bool false]) w := by kernel_rfl
theorem Tryz.isErrno (c : Int) (w : World) : (Instr.typeAssert (.iface 29 (.int .i64 c)) 49 29 true).run Tryz.prog w = .ok (.tuple #[.int .i64 c, .bool true]) w := by kernel_rfl

theorem Handle.lt {w : World} (h : Handle w) : 0 < w.heap.size := block_lt_of_cell h
theorem Handle.below {w w' : World} (h : Handle w) {B : Nat} (hb : Below B w w') (hB : 0 < B) : Handle w' := (hb.cell (p := ⟨0, 0, none⟩) hB).trans h
theorem Handle.alloc {w : World} (h : Handle w) (o : Obj) : Handle (w.alloc o) := (World.cell?_alloc_lt _ _ ⟨0, 0, none⟩ h.lt).trans h

theorem as_fault (e : Addr) (tb : Nat) (old : Value) (w : World) (hg : Handle w) (hb : Blk w tb #[old] 65) :
    Calls Tryz.prog 29 #[.iface 65 (.pointer (some e)), .iface 67 (.pointer (some ⟨tb, 0, none⟩))] w fun ev w' => ev = .returned (.bool true) ∧ Blk w' tb #[.pointer (some e)] 65 ∧ Only tb w w' := by
  refine (as_hit e ⟨tb, 0, none⟩ old w hg (by rw [Blk.cell hb]; rfl) (Blk.free hb 0)).mono ?_
  rintro ev w' ⟨rfl, rfl⟩
  exact ⟨rfl, Blk.set ((((hb.alloc _).alloc _).alloc _).alloc _) 0 _, ((((((Only.refl tb w).alloc _).alloc _).alloc _).alloc _)).set _ _⟩

set_option maxRecDepth 100000 in
set_option maxHeartbeats 1000000 in
theorem seen_some (b a : Nat) (c : Int) (w : World) (hg : Handle w) (hb : Blk w b (flt a c) 69) (ha : a ≤ 1048576) (hc : ¬ c = 0) :
    Calls Tryz.prog 14 #[.iface 65 (.pointer (some ⟨b, 0, none⟩))] w fun e w' => e = .returned (.agg #[.int .i64 (a : Int), .int .i64 c]) ∧ Below w.heap.size w w' := by
  have n1 := Tryz.noErrno
  have n2 := Tryz.isErrno
  have hc' : (c == 0) = false := by simpa using hc
  have HG := Lib.hid hg; clear hg
  have HB := Lib.hid hb; clear hb
  go_enter Tryz.func14, Tryz.ntmps14
  go_wp2
  refine wp_loop_rounds 2 ?_
  rw [rounds_succ]
  go_wp2_with fail
  refine (as_fault ⟨b, 0, none⟩ (w.heap.size + 1) (.pointer none) _ ((HG.out.alloc _).alloc _) ?_).mono ?_
  · have := Blk.new (w.alloc (.cells #[.int .i64 0, .int .i64 0] 39)) #[.pointer none] 65
    simpa using this
  rintro ev w1 ⟨rfl, hf, ho⟩
  have hlt := Blk.lt HB.out
  have hb1 : Blk w1 b (flt a c) 69 := (((HB.out.alloc _).alloc _).only ho (by omega))
  have hr1 : Blk w1 w.heap.size #[.int .i64 0, .int .i64 0] 39 := ((Blk.new w _ _).alloc _).only ho (by omega)
  have hbl : Below w.heap.size w w1 := Only.below (((Below.refl w.heap.size w).alloc (Nat.le_refl _) _).alloc (by simp) _) ho (by omega) (by simp; omega)
  have c0 : w1.cell? ⟨w.heap.size + 1, 0, none⟩ = some (.pointer (some ⟨b, 0, none⟩)) := by rw [Blk.cell hf]; rfl
  have c1 : w1.cell? ⟨b, 0, none⟩ = some (.int .i64 a) := by rw [Blk.cell hb1]; rfl
  have c2 : w1.cell? ⟨b, 1, none⟩ = some (.iface 29 (.int .i64 c)) := by rw [Blk.cell hb1]; rfl
  have c3 : w1.cell? ⟨w.heap.size, 0, none⟩ = some (.int .i64 0) := by rw [Blk.cell hr1]; rfl
  have c4 : w1.cell? ⟨w.heap.size, 1, none⟩ = some (.int .i64 0) := by rw [Blk.cell hr1]; rfl
  have f3 := Blk.free hr1 0
  have f4 := Blk.free hr1 1
  clear hf ho
  have HB1 := Lib.hid hb1; clear hb1
  have HR1 := Lib.hid hr1; clear hr1
  go_wp2
  rw [rounds_succ]
  go_wp2
  refine bodyPost_ret (v := .agg #[.int .i64 (a : Int), .int .i64 c]) ?_ rfl ⟨rfl, ?_⟩
  · simp [results, Tryz.results14, go_sem, c3, c4]
  · exact (hbl.setCell (Nat.le_refl _) _).setCell (Nat.le_refl _) _
end Go.Proofs.YthbdjgebpjffgaaGreatDoor
