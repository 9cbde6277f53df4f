/-
  The library's functions on slices that package dots calls, laid at lists of names: slices.Clone, Contains, SortFunc; and the order that the sort asks.
  Conditions: none.
-/
import Derived.Test.YthbdjgebpjffgaaGreatDoorDotB
import Derived.Shelf.SlSortCmp.NoneTotal
import Derived.Shelf.SlicesQ.Contains
import Derived.Shelf.SlicesE.Clone
set_option linter.unusedVariables false
set_option linter.unusedSimpArgs false
namespace Go.Proofs
open Go.Shelf
end Go.Proofs
namespace Go.Proofs.YthbdjgebpjffgaaGreatDoor
open Go.RowKit Go.Shelf Go.Lib Go.Sort

/-- A name's two cells. -/
def encId (x : Int × Int) : List Value := [.int .i64 x.1, .int .u32 x.2]
theorem encId_len (x : Int × Int) : (encId x).length = 2 := rfl
theorem encId_one (x : Int × Int) : ∀ v ∈ encId x, v.oneCell' = true := by
  intro v hv; simp [encId] at hv; rcases hv with rfl | rfl <;> rfl
theorem eqlId : EqlAt Tryz.prog 83 (fun x => .agg (encId x).toArray) (fun x y => decide (x = y)) :=
  ⟨fun x y w => (same_id x.1 x.2 y.1 y.2 (.tmp 0) (.tmp 0) w).1, GuardAt.agg _ (by kernel_rfl)⟩
theorem swoId : SWO (ltOf cf) where
  irrefl x := by unfold ltOf; rw [decide_eq_false_iff_not]; exact cf_irr x
  trans x y z h1 h2 := by unfold ltOf at *; rw [decide_eq_true_iff] at *; exact cf_trans h1 h2
  ntrans x y z h1 h2 := by unfold ltOf at *; rw [decide_eq_false_iff_not] at *; rw [cf_lt] at *; omega
theorem totId (x y : Int × Int) (h : (ltOf cf) x y = false) (k : (ltOf cf) y x = false) : x = y := by
  unfold ltOf at *; rw [decide_eq_false_iff_not] at *
  by_cases e : x = y
  · exact e
  · exact absurd (cf_tri h e) k

/-- What a call that only draws and makes blocks leaves. -/
structure Gr (w0 w : World) : Prop where
  bel : Below w0.heap.size w0 w
  drawn : w0.drawn ≤ w.drawn
theorem Gr.eq {w0 w : World} (h : Gr w0 w) : ∃ q os, w = grow (w0.drewN q) os := by
  refine ⟨w.drawn - w0.drawn, w.heap.extract w0.heap.size w.heap.size, ?_⟩
  obtain ⟨hp, tp, dr, os, ou⟩ := w
  obtain ⟨hp0, tp0, dr0, os0, ou0⟩ := w0
  obtain ⟨b1, b2, b3, b4, b5⟩ := h.bel
  have hd := h.drawn
  simp only at b1 b2 b3 b4 b5 hd
  subst b1 b2 b3
  simp only [grow, World.drewN, World.mk.injEq, and_true, true_and]
  refine ⟨?_, by omega⟩
  apply Array.ext_getElem?
  intro i
  by_cases hi : i < hp0.size
  · rw [Array.getElem?_append_left hi]; exact b5 i hi
  · rw [Array.getElem?_append_right (by omega)]
    simp only [Array.getElem?_extract, Nat.min_self]
    split
    · rw [show hp0.size + (i - hp0.size) = i by omega]
    · rw [Array.getElem?_eq_none (by omega)]

/-- Two names lie in the call's first two blocks; blocks and draws alone have come. -/
structure GI (w0 : World) (o q o' q' : Int) (w : World) : Prop where
  ii : II w0 o q o' q' w
  dr : w0.drawn ≤ w.drawn
theorem GI.drew {w0 w : World} {o q o' q' : Int} (h : GI w0 o q o' q' w) : GI w0 o q o' q' w.drew := ⟨h.ii.drew, Nat.le_succ_of_le h.dr⟩
theorem GI.cells {w0 w : World} {o q o' q' : Int} (h : GI w0 o q o' q' w) : w.cell? ⟨w0.heap.size, 0, none⟩ = some (.int .i64 o) ∧ w.cell? ⟨w0.heap.size, 1, none⟩ = some (.int .u32 q) ∧ w.cell? ⟨w0.heap.size + 1, 0, none⟩ = some (.int .i64 o') ∧ w.cell? ⟨w0.heap.size + 1, 1, none⟩ = some (.int .u32 q') ∧ GI w0 o q o' q' w :=
  ⟨h.ii.cells.1, h.ii.cells.2.1, h.ii.cells.2.2.1, h.ii.cells.2.2.2.1, h⟩
theorem GI.alloc {w0 w : World} {o q o' q' : Int} (h : GI w0 o q o' q' w) (x : Obj) : GI w0 o q o' q' (w.alloc x) := ⟨h.ii.alloc x, h.dr⟩
theorem GI.held {A B C D : Prop} {w0 w : World} {o q o' q' : Int} (h : A ∧ B ∧ C ∧ D ∧ GI w0 o q o' q' w) : GI w0 o q o' q' w := h.2.2.2.2
theorem compareInt_GI {w0 w : World} {o q o' q' : Int} (a b : Int) (h : GI w0 o q o' q' w) :
    Calls Tryz.prog 75 #[.int .i64 a, .int .i64 b] w fun e w' => e = .returned (.int .i64 (cmpZ a b)) ∧ GI w0 o q o' q' w' :=
  (compareInt_any a b w).mono fun _ _ ⟨h1, h2⟩ => ⟨h1, h2 ▸ h⟩
theorem compareU32_GI {w0 w : World} {o q o' q' : Int} (a b : Int) (h : GI w0 o q o' q' w) :
    Calls Tryz.prog 76 #[.int .u32 a, .int .u32 b] w fun e w' => e = .returned (.int .i64 (cmpZ a b)) ∧ GI w0 o q o' q' w' :=
  (compareU32_any a b w).mono fun _ _ ⟨h1, h2⟩ => ⟨h1, h2 ▸ h⟩
theorem or_GI {w0 w : World} {o q o' q' : Int} (x y : Int) (h : GI w0 o q o' q' w) :
    Calls Tryz.prog 74 #[.slice (some ⟨w.heap.size, 0, none⟩) 2 2] (w.alloc (.cells #[.int .i64 x, .int .i64 y] 3)) fun e w' => e = .returned (.int .i64 (orZ x y)) ∧ GI w0 o q o' q' w' :=
  (or_any w.heap.size x y _ (Blk.new _ _ _)).mono fun _ _ ⟨h1, h2⟩ => ⟨h1, h2 ▸ ⟨h.ii.alloc _, h.dr⟩⟩
theorem gi_Gr {w0 w : World} {o q o' q' : Int} (h : GI w0 o q o' q' w) : Gr w0 w := ⟨h.ii.bel, h.dr⟩
set_option maxHeartbeats 1000000 in
theorem compare_Gr (o q o' q' : Int) (w : World) :
    Calls Tryz.prog 58 #[.agg #[.int .i64 o, .int .u32 q], .agg #[.int .i64 o', .int .u32 q']] w fun e w' => e = .returned (.int .i64 (cmpI o q o' q')) ∧ Gr w w' := by
  have hI : GI w o q o' q' _ := ⟨II.start w o q o' q', Nat.le_refl _⟩
  have HC : Hid (cmpI o q o' q' = orZ (cmpZ o o') (cmpZ q q')) := Lib.hid rfl
  go_enter Tryz.func58, Tryz.ntmps58
  go_wp2_with fail
  go_region_held3 (fun w' => w'.cell? ⟨w.heap.size, 0, none⟩ = some (.int .i64 o) ∧ w'.cell? ⟨w.heap.size, 1, none⟩ = some (.int .u32 q) ∧ w'.cell? ⟨w.heap.size + 1, 0, none⟩ = some (.int .i64 o') ∧ w'.cell? ⟨w.heap.size + 1, 1, none⟩ = some (.int .u32 q') ∧ GI w o q o' q' w') (first | exact GI.cells (by assumption) | exact GI.cells (GI.drew (by assumption)) | exact GI.cells (GI.alloc (by assumption) _) | exact GI.cells (GI.alloc (GI.drew (by assumption)) _) | exact GI.cells (GI.alloc (GI.held (by assumption)) _) | exact GI.cells (GI.drew (GI.held (by assumption)))) (first | (go_at_call 75; refine (compareInt_GI (w0 := w) (o := o) (q := q) (o' := o') (q' := q') _ _ (by first | assumption | exact GI.held (by assumption))).mono ?_; rintro e w1 ⟨rfl, hJ⟩) | (go_at_call 76; refine (compareU32_GI (w0 := w) (o := o) (q := q) (o' := o') (q' := q') _ _ (by first | assumption | exact GI.held (by assumption))).mono ?_; rintro e w2 ⟨rfl, hK⟩) | (go_at_call 74; refine (or_GI (w0 := w) (o := o) (q := q) (o' := o') (q' := q') _ _ (by first | assumption | exact GI.held (by assumption))).mono ?_; rintro e w3 ⟨rfl, hL⟩))
  all_goals
    go_wp2
    go_ret
    exact ⟨by rw [HC.out]; rfl, gi_Gr (by assumption)⟩
end Go.Proofs.YthbdjgebpjffgaaGreatDoor
