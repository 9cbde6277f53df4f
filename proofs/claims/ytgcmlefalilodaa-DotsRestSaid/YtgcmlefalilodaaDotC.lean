/-
  The library's functions on slices that package dots calls, laid at lists of names: slices.Clone, Contains, SortFunc; and the order that the sort asks.
  Conditions: none.
-/
import Derived.Test.YtgcmlefalilodaaDotB
import Derived.Shelf.SlSortCmp.NoneTotal
import Derived.Shelf.SlicesQ.Contains
import Derived.Shelf.SlicesE.Clone
namespace Go.Proofs
open Go.Shelf
def Try.layHas_ren : Go.Shelf.Ren := ⟨fun | 6 => 64 | 7 => 41 | n => n, fun | 0 => 0 | 1 => 1 | 2 => 2 | 3 => 3 | 4 => 4 | 5 => 5 | 6 => 6 | 7 => 7 | 8 => 8 | 9 => 9 | 10 => 10 | 11 => 11 | 12 => 12 | 13 => 13 | 14 => 14 | 15 => 15 | 16 => 16 | 17 => 17 | 18 => 18 | 19 => 19 | 20 => 20 | 21 => 21 | 22 => 22 | 24 => 25 | 25 => 94 | 26 => 33 | 27 => 31 | 28 => 79 | 29 => 132 | 30 => 133 | 31 => 134 | 32 => 135 | 33 => 136 | 34 => 54 | 35 => 23 | 36 => 137 | 37 => 138 | 38 => 139 | 39 => 100 | 40 => 140 | 41 => 141 | 42 => 142 | 43 => 143 | 44 => 118 | n => n, fun n => n⟩
set_option maxRecDepth 100000 in
theorem Try.layHas : Go.Proofs.SlLaysQ.n7 Try.prog Try.layHas_ren := {
  mixed := by kernel_rfl
  f6 := ⟨Try.f64.name, by kernel_rfl, Try.func64.trans (congrArg some (by kernel_rfl))⟩
  f7 := ⟨Try.f41.name, by kernel_rfl, Try.func41.trans (congrArg some (by kernel_rfl))⟩
  t0 := Try.underlying0
  a0 := Try.isAgg0
  z0 := Try.sizeOf0
  v0 := Try.zeroValue0
  t3 := Try.underlying3
  a3 := Try.isAgg3
  z3 := Try.sizeOf3
  v3 := Try.zeroValue3
  t4 := Try.underlying4
  a4 := Try.isAgg4
  z4 := Try.sizeOf4
  v4 := Try.zeroValue4
  t22 := Try.underlying22
  a22 := Try.isAgg22
  z22 := Try.sizeOf22
  v22 := Try.zeroValue22 }
def Try.layClone_ren : Go.Shelf.Ren := ⟨fun | 41 => 35 | n => n, fun | 0 => 0 | 1 => 1 | 2 => 2 | 3 => 3 | 4 => 4 | 5 => 5 | 6 => 6 | 7 => 7 | 8 => 8 | 9 => 9 | 10 => 10 | 11 => 11 | 12 => 12 | 13 => 13 | 14 => 14 | 15 => 15 | 16 => 16 | 17 => 17 | 18 => 18 | 19 => 19 | 20 => 20 | 21 => 21 | 22 => 22 | 23 => 25 | 24 => 94 | 28 => 33 | 30 => 31 | 36 => 27 | 44 => 111 | 47 => 26 | 51 => 90 | 57 => 89 | 60 => 106 | 61 => 107 | 66 => 113 | 67 => 23 | 68 => 114 | 69 => 77 | 75 => 123 | 76 => 124 | 77 => 125 | 79 => 127 | 83 => 129 | 84 => 130 | 87 => 79 | 88 => 132 | 89 => 133 | 90 => 134 | 91 => 135 | 92 => 136 | 93 => 54 | 94 => 137 | 95 => 138 | 96 => 139 | 97 => 100 | 98 => 140 | 99 => 141 | 100 => 142 | 101 => 143 | 102 => 118 | n => n, fun n => n⟩
set_option maxRecDepth 100000 in
theorem Try.layClone : Go.Proofs.SlLaysE0.n41 Try.prog Try.layClone_ren := {
  mixed := by kernel_rfl
  f41 := ⟨Try.f35.name, by kernel_rfl, Try.func35.trans (congrArg some (by kernel_rfl))⟩
  t4 := Try.underlying4
  a4 := Try.isAgg4
  z4 := Try.sizeOf4
  v4 := Try.zeroValue4
  t22 := Try.underlying22
  a22 := Try.isAgg22
  z22 := Try.sizeOf22
  v22 := Try.zeroValue22 }
def Try.laySort_ren : Go.Shelf.Ren := ⟨fun | 6 => 36 | 14 => 57 | 15 => 58 | 20 => 71 | 21 => 72 | 22 => 73 | 23 => 74 | 24 => 75 | 25 => 76 | 26 => 77 | 27 => 78 | 28 => 79 | 29 => 80 | 46 => 86 | 47 => 87 | 48 => 88 | 49 => 89 | 50 => 90 | 57 => 91 | n => n, fun | 0 => 0 | 1 => 1 | 2 => 2 | 3 => 3 | 4 => 4 | 5 => 5 | 6 => 6 | 7 => 7 | 8 => 8 | 9 => 9 | 10 => 10 | 11 => 11 | 12 => 12 | 13 => 13 | 14 => 14 | 15 => 15 | 16 => 16 | 17 => 17 | 18 => 18 | 19 => 19 | 20 => 20 | 21 => 21 | 22 => 22 | 23 => 59 | 24 => 25 | 25 => 60 | 27 => 115 | 29 => 92 | 37 => 88 | 38 => 89 | 39 => 90 | 42 => 116 | 44 => 105 | 45 => 106 | 46 => 107 | 47 => 108 | 48 => 109 | 49 => 110 | 50 => 111 | 51 => 112 | 52 => 113 | 53 => 23 | 54 => 114 | 55 => 77 | 66 => 123 | 67 => 124 | 68 => 125 | 69 => 126 | 70 => 127 | 71 => 128 | 76 => 129 | 77 => 130 | 78 => 131 | 81 => 79 | 82 => 132 | 83 => 133 | 84 => 134 | 85 => 135 | 86 => 136 | 87 => 54 | 88 => 137 | 89 => 138 | 90 => 139 | 91 => 100 | 92 => 140 | 93 => 141 | 94 => 142 | 95 => 143 | 96 => 118 | n => n, fun n => n⟩
set_option maxRecDepth 100000 in
theorem Try.laySort : Go.Proofs.SlLaysF0.n6 Try.prog Try.laySort_ren := {
  mixed := by kernel_rfl
  f6 := ⟨Try.f36.name, by kernel_rfl, Try.func36.trans (congrArg some (by kernel_rfl))⟩
  f14 := ⟨Try.f57.name, by kernel_rfl, Try.func57.trans (congrArg some (by kernel_rfl))⟩
  f15 := Try.func58.trans (congrArg some (by kernel_rfl))
  f20 := ⟨Try.f71.name, by kernel_rfl, Try.func71.trans (congrArg some (by kernel_rfl))⟩
  f21 := ⟨Try.f72.name, by kernel_rfl, Try.func72.trans (congrArg some (by kernel_rfl))⟩
  f22 := ⟨Try.f73.name, by kernel_rfl, Try.func73.trans (congrArg some (by kernel_rfl))⟩
  f23 := ⟨Try.f74.name, by kernel_rfl, Try.func74.trans (congrArg some (by kernel_rfl))⟩
  f24 := ⟨Try.f75.name, by kernel_rfl, Try.func75.trans (congrArg some (by kernel_rfl))⟩
  f25 := ⟨Try.f76.name, by kernel_rfl, Try.func76.trans (congrArg some (by kernel_rfl))⟩
  f26 := ⟨Try.f77.name, by kernel_rfl, Try.func77.trans (congrArg some (by kernel_rfl))⟩
  f27 := ⟨Try.f78.name, by kernel_rfl, Try.func78.trans (congrArg some (by kernel_rfl))⟩
  f28 := Try.func79.trans (congrArg some (by kernel_rfl))
  f29 := Try.func80.trans (congrArg some (by kernel_rfl))
  f46 := ⟨Try.f86.name, by kernel_rfl, Try.func86.trans (congrArg some (by kernel_rfl))⟩
  f47 := Try.func87.trans (congrArg some (by kernel_rfl))
  f48 := Try.func88.trans (congrArg some (by kernel_rfl))
  f49 := ⟨Try.f89.name, by kernel_rfl, Try.func89.trans (congrArg some (by kernel_rfl))⟩
  f50 := ⟨Try.f90.name, by kernel_rfl, Try.func90.trans (congrArg some (by kernel_rfl))⟩
  f57 := ⟨Try.f91.name, by kernel_rfl, Try.func91.trans (congrArg some (by kernel_rfl))⟩
  t0 := Try.underlying0
  a0 := Try.isAgg0
  z0 := Try.sizeOf0
  v0 := Try.zeroValue0
  t3 := Try.underlying3
  a3 := Try.isAgg3
  z3 := Try.sizeOf3
  v3 := Try.zeroValue3
  t4 := Try.underlying4
  a4 := Try.isAgg4
  z4 := Try.sizeOf4
  v4 := Try.zeroValue4
  t5 := Try.underlying5
  a5 := Try.isAgg5
  z5 := Try.sizeOf5
  v5 := Try.zeroValue5
  t9 := Try.underlying9
  a9 := Try.isAgg9
  z9 := Try.sizeOf9
  v9 := Try.zeroValue9
  t22 := Try.underlying22
  a22 := Try.isAgg22
  z22 := Try.sizeOf22
  v22 := Try.zeroValue22
  t25 := Try.underlying60
  a25 := Try.isAgg60
  z25 := Try.sizeOf60
  v25 := Try.zeroValue60
  t39 := Try.underlying90
  a39 := Try.isAgg90
  z39 := Try.sizeOf90
  v39 := Try.zeroValue90
  t45 := Try.underlying106
  a45 := Try.isAgg106
  z45 := Try.sizeOf106
  v45 := Try.zeroValue106
  t46 := Try.underlying107
  a46 := Try.isAgg107
  z46 := Try.sizeOf107
  v46 := Try.zeroValue107
  t50 := Try.underlying111
  a50 := Try.isAgg111
  z50 := Try.sizeOf111
  v50 := Try.zeroValue111
  t53 := Try.underlying23
  a53 := Try.isAgg23
  z53 := Try.sizeOf23
  v53 := Try.zeroValue23
  t55 := Try.underlying77
  a55 := Try.isAgg77
  z55 := Try.sizeOf77
  v55 := Try.zeroValue77
  t66 := Try.underlying123
  a66 := Try.isAgg123
  z66 := Try.sizeOf123
  v66 := Try.zeroValue123
  t70 := Try.underlying127
  a70 := Try.isAgg127
  z70 := Try.sizeOf127
  v70 := Try.zeroValue127
  t76 := Try.underlying129
  a76 := Try.isAgg129
  z76 := Try.sizeOf129
  v76 := Try.zeroValue129
  t77 := Try.underlying130
  a77 := Try.isAgg130
  z77 := Try.sizeOf130
  v77 := Try.zeroValue130 }
end Go.Proofs
namespace Go.Proofs.Ytgcmlefalilodaa
open Go.RowKit Go.Shelf Go.Lib Go.Sort

/-- A name's two cells. -/
def encId (x : Int × Int) : List Value := [.int .i64 x.1, .int .u32 x.2]
theorem encId_len (x : Int × Int) : (encId x).length = 2 := rfl
theorem encId_one (x : Int × Int) : ∀ v ∈ encId x, v.oneCell' = true := by
  intro v hv; simp [encId] at hv; rcases hv with rfl | rfl <;> rfl
theorem eqlId : EqlAt Try.prog 25 (fun x => .agg (encId x).toArray) (fun x y => decide (x = y)) :=
  ⟨fun x y w => (same_id x.1 x.2 y.1 y.2 (.tmp 0) (.tmp 0) w).1, GuardAt.agg _ (by kernel_rfl)⟩
theorem swoId : SWO (ltOf cf) where
  irrefl x := by unfold ltOf; rw [decide_eq_false_iff_not]; exact cf_irr x
  trans x y z h1 h2 := by unfold ltOf at *; rw [decide_eq_true_iff] at *; exact cf_trans h1 h2
  ntrans x y z h1 h2 := by unfold ltOf at *; rw [decide_eq_false_iff_not] at *; rw [cf_lt] at *; omega
theorem totId (x y : Int × Int) (h : (ltOf cf) x y = false) (k : (ltOf cf) y x = false) : x = y := by
  unfold ltOf at *; rw [decide_eq_false_iff_not] at *
  by_cases e : x = y
  · exact e
  · exact absurd (cf_tri h e) k

/-- What a call that only draws and makes blocks leaves. -/
structure Gr (w0 w : World) : Prop where
  bel : Below w0.heap.size w0 w
  drawn : w0.drawn ≤ w.drawn
theorem Gr.eq {w0 w : World} (h : Gr w0 w) : ∃ q os, w = grow (w0.drewN q) os := by
  refine ⟨w.drawn - w0.drawn, w.heap.extract w0.heap.size w.heap.size, ?_⟩
  obtain ⟨hp, tp, dr, os, ou⟩ := w
  obtain ⟨hp0, tp0, dr0, os0, ou0⟩ := w0
  obtain ⟨b1, b2, b3, b4, b5⟩ := h.bel
  have hd := h.drawn
  simp only at b1 b2 b3 b4 b5 hd
  subst b1 b2 b3
  simp only [grow, World.drewN, World.mk.injEq, and_true, true_and]
  refine ⟨?_, by omega⟩
  apply Array.ext_getElem?
  intro i
  by_cases hi : i < hp0.size
  · rw [Array.getElem?_append_left hi]; exact b5 i hi
  · rw [Array.getElem?_append_right (by omega)]
    simp only [Array.getElem?_extract, Nat.min_self]
    split
    · rw [show hp0.size + (i - hp0.size) = i by omega]
    · rw [Array.getElem?_eq_none (by omega)]

/-- Two names lie in the call's first two blocks; blocks and draws alone have come. -/
structure GI (w0 : World) (o q o' q' : Int) (w : World) : Prop where
  ii : II w0 o q o' q' w
  dr : w0.drawn ≤ w.drawn
theorem GI.drew {w0 w : World} {o q o' q' : Int} (h : GI w0 o q o' q' w) : GI w0 o q o' q' w.drew := ⟨h.ii.drew, Nat.le_succ_of_le h.dr⟩
theorem GI.cells {w0 w : World} {o q o' q' : Int} (h : GI w0 o q o' q' w) : w.cell? ⟨w0.heap.size, 0, none⟩ = some (.int .i64 o) ∧ w.cell? ⟨w0.heap.size, 1, none⟩ = some (.int .u32 q) ∧ w.cell? ⟨w0.heap.size + 1, 0, none⟩ = some (.int .i64 o') ∧ w.cell? ⟨w0.heap.size + 1, 1, none⟩ = some (.int .u32 q') ∧ GI w0 o q o' q' w :=
  ⟨h.ii.cells.1, h.ii.cells.2.1, h.ii.cells.2.2.1, h.ii.cells.2.2.2.1, h⟩
theorem GI.alloc {w0 w : World} {o q o' q' : Int} (h : GI w0 o q o' q' w) (x : Obj) : GI w0 o q o' q' (w.alloc x) := ⟨h.ii.alloc x, h.dr⟩
theorem GI.held {A B C D : Prop} {w0 w : World} {o q o' q' : Int} (h : A ∧ B ∧ C ∧ D ∧ GI w0 o q o' q' w) : GI w0 o q o' q' w := h.2.2.2.2
theorem compareInt_GI {w0 w : World} {o q o' q' : Int} (a b : Int) (h : GI w0 o q o' q' w) :
    Calls Try.prog 60 #[.int .i64 a, .int .i64 b] w fun e w' => e = .returned (.int .i64 (cmpZ a b)) ∧ GI w0 o q o' q' w' :=
  (compareInt_any a b w).mono fun _ _ ⟨h1, h2⟩ => ⟨h1, h2 ▸ h⟩
theorem compareU32_GI {w0 w : World} {o q o' q' : Int} (a b : Int) (h : GI w0 o q o' q' w) :
    Calls Try.prog 61 #[.int .u32 a, .int .u32 b] w fun e w' => e = .returned (.int .i64 (cmpZ a b)) ∧ GI w0 o q o' q' w' :=
  (compareU32_any a b w).mono fun _ _ ⟨h1, h2⟩ => ⟨h1, h2 ▸ h⟩
theorem or_GI {w0 w : World} {o q o' q' : Int} (x y : Int) (h : GI w0 o q o' q' w) :
    Calls Try.prog 59 #[.slice (some ⟨w.heap.size, 0, none⟩) 2 2] (w.alloc (.cells #[.int .i64 x, .int .i64 y] 3)) fun e w' => e = .returned (.int .i64 (orZ x y)) ∧ GI w0 o q o' q' w' :=
  (or_any w.heap.size x y _ (Blk.new _ _ _)).mono fun _ _ ⟨h1, h2⟩ => ⟨h1, h2 ▸ ⟨h.ii.alloc _, h.dr⟩⟩
theorem gi_Gr {w0 w : World} {o q o' q' : Int} (h : GI w0 o q o' q' w) : Gr w0 w := ⟨h.ii.bel, h.dr⟩
set_option maxHeartbeats 1000000 in
theorem compare_Gr (o q o' q' : Int) (w : World) :
    Calls Try.prog 37 #[.agg #[.int .i64 o, .int .u32 q], .agg #[.int .i64 o', .int .u32 q']] w fun e w' => e = .returned (.int .i64 (cmpI o q o' q')) ∧ Gr w w' := by
  have hI : GI w o q o' q' _ := ⟨II.start w o q o' q', Nat.le_refl _⟩
  have HC : Hid (cmpI o q o' q' = orZ (cmpZ o o') (cmpZ q q')) := Lib.hid rfl
  go_enter Try.func37, Try.ntmps37
  go_wp2_with fail
  go_region_held3 (fun w' => w'.cell? ⟨w.heap.size, 0, none⟩ = some (.int .i64 o) ∧ w'.cell? ⟨w.heap.size, 1, none⟩ = some (.int .u32 q) ∧ w'.cell? ⟨w.heap.size + 1, 0, none⟩ = some (.int .i64 o') ∧ w'.cell? ⟨w.heap.size + 1, 1, none⟩ = some (.int .u32 q') ∧ GI w o q o' q' w') (first | exact GI.cells (by assumption) | exact GI.cells (GI.drew (by assumption)) | exact GI.cells (GI.alloc (by assumption) _) | exact GI.cells (GI.alloc (GI.drew (by assumption)) _) | exact GI.cells (GI.alloc (GI.held (by assumption)) _) | exact GI.cells (GI.drew (GI.held (by assumption)))) (first | (go_at_call 60; refine (compareInt_GI (w0 := w) (o := o) (q := q) (o' := o') (q' := q') _ _ (by first | assumption | exact GI.held (by assumption))).mono ?_; rintro e w1 ⟨rfl, hJ⟩) | (go_at_call 61; refine (compareU32_GI (w0 := w) (o := o) (q := q) (o' := o') (q' := q') _ _ (by first | assumption | exact GI.held (by assumption))).mono ?_; rintro e w2 ⟨rfl, hK⟩) | (go_at_call 59; refine (or_GI (w0 := w) (o := o) (q := q) (o' := o') (q' := q') _ _ (by first | assumption | exact GI.held (by assumption))).mono ?_; rintro e w3 ⟨rfl, hL⟩))
  all_goals
    go_wp2
    go_ret
    exact ⟨by rw [HC.out]; rfl, gi_Gr (by assumption)⟩
end Go.Proofs.Ytgcmlefalilodaa
