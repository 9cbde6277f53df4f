/-
  The library's functions on slices that package dots calls, laid at lists of names: slices.Clone, Contains, SortFunc; and the order that the sort asks.
  Conditions: none.
-/
import Derived.Test.YthbdjgebpjffgaaDotB
import Derived.Shelf.SlSortCmp.NoneTotal
import Derived.Shelf.SlicesQ.Contains
import Derived.Shelf.SlicesE.Clone
set_option linter.unusedVariables false
set_option linter.unusedSimpArgs false
namespace Go.Proofs
open Go.Shelf
def Try.layHas_ren : Go.Shelf.Ren := ⟨fun | 6 => 85 | 7 => 71 | n => n, fun | 0 => 0 | 1 => 1 | 2 => 2 | 3 => 3 | 4 => 4 | 5 => 5 | 6 => 6 | 7 => 7 | 8 => 8 | 9 => 9 | 10 => 10 | 11 => 11 | 12 => 12 | 13 => 13 | 14 => 14 | 15 => 15 | 16 => 16 | 17 => 17 | 18 => 18 | 19 => 19 | 20 => 20 | 21 => 21 | 22 => 25 | 24 => 29 | 25 => 117 | 26 => 74 | 27 => 71 | 28 => 106 | 29 => 151 | 30 => 152 | 31 => 153 | 32 => 154 | 33 => 155 | 34 => 58 | 35 => 22 | 36 => 156 | 37 => 157 | 38 => 158 | 39 => 119 | 40 => 159 | 41 => 160 | 42 => 161 | 43 => 162 | 44 => 137 | n => n, fun n => n⟩
set_option maxRecDepth 100000 in
theorem Try.layHas : Go.Proofs.SlLaysQ.n7 Try.prog Try.layHas_ren := {
  mixed := by kernel_rfl
  f6 := ⟨Try.f85.name, by kernel_rfl, Try.func85.trans (congrArg some (by kernel_rfl))⟩
  f7 := ⟨Try.f71.name, by kernel_rfl, Try.func71.trans (congrArg some (by kernel_rfl))⟩
  t0 := Try.underlying0
  a0 := Try.isAgg0
  z0 := Try.sizeOf0
  v0 := Try.zeroValue0
  t3 := Try.underlying3
  a3 := Try.isAgg3
  z3 := Try.sizeOf3
  v3 := Try.zeroValue3
  t4 := Try.underlying4
  a4 := Try.isAgg4
  z4 := Try.sizeOf4
  v4 := Try.zeroValue4
  t22 := Try.underlying25
  a22 := Try.isAgg25
  z22 := Try.sizeOf25
  v22 := Try.zeroValue25 }
def Try.layClone_ren : Go.Shelf.Ren := ⟨fun | 41 => 59 | n => n, fun | 0 => 0 | 1 => 1 | 2 => 2 | 3 => 3 | 4 => 4 | 5 => 5 | 6 => 6 | 7 => 7 | 8 => 8 | 9 => 9 | 10 => 10 | 11 => 11 | 12 => 12 | 13 => 13 | 14 => 14 | 15 => 15 | 16 => 16 | 17 => 17 | 18 => 18 | 19 => 19 | 20 => 20 | 21 => 21 | 22 => 25 | 23 => 29 | 24 => 117 | 28 => 74 | 30 => 71 | 36 => 89 | 44 => 130 | 47 => 30 | 51 => 113 | 57 => 112 | 60 => 125 | 61 => 126 | 66 => 132 | 67 => 22 | 68 => 133 | 69 => 75 | 75 => 142 | 76 => 143 | 77 => 144 | 79 => 146 | 83 => 148 | 84 => 149 | 87 => 106 | 88 => 151 | 89 => 152 | 90 => 153 | 91 => 154 | 92 => 155 | 93 => 58 | 94 => 156 | 95 => 157 | 96 => 158 | 97 => 119 | 98 => 159 | 99 => 160 | 100 => 161 | 101 => 162 | 102 => 137 | n => n, fun n => n⟩
set_option maxRecDepth 100000 in
theorem Try.layClone : Go.Proofs.SlLaysE0.n41 Try.prog Try.layClone_ren := {
  mixed := by kernel_rfl
  f41 := ⟨Try.f59.name, by kernel_rfl, Try.func59.trans (congrArg some (by kernel_rfl))⟩
  t4 := Try.underlying4
  a4 := Try.isAgg4
  z4 := Try.sizeOf4
  v4 := Try.zeroValue4
  t22 := Try.underlying25
  a22 := Try.isAgg25
  z22 := Try.sizeOf25
  v22 := Try.zeroValue25 }
def Try.laySort_ren : Go.Shelf.Ren := ⟨fun | 6 => 60 | 14 => 79 | 15 => 80 | 20 => 90 | 21 => 91 | 22 => 92 | 23 => 93 | 24 => 94 | 25 => 95 | 26 => 96 | 27 => 97 | 28 => 98 | 29 => 99 | 46 => 105 | 47 => 106 | 48 => 107 | 49 => 108 | 50 => 109 | 57 => 110 | n => n, fun | 0 => 0 | 1 => 1 | 2 => 2 | 3 => 3 | 4 => 4 | 5 => 5 | 6 => 6 | 7 => 7 | 8 => 8 | 9 => 9 | 10 => 10 | 11 => 11 | 12 => 12 | 13 => 13 | 14 => 14 | 15 => 15 | 16 => 16 | 17 => 17 | 18 => 18 | 19 => 19 | 20 => 20 | 21 => 21 | 22 => 25 | 23 => 90 | 24 => 29 | 25 => 91 | 27 => 134 | 29 => 115 | 37 => 111 | 38 => 112 | 39 => 113 | 42 => 135 | 44 => 124 | 45 => 125 | 46 => 126 | 47 => 127 | 48 => 128 | 49 => 129 | 50 => 130 | 51 => 131 | 52 => 132 | 53 => 22 | 54 => 133 | 55 => 75 | 66 => 142 | 67 => 143 | 68 => 144 | 69 => 145 | 70 => 146 | 71 => 147 | 76 => 148 | 77 => 149 | 78 => 150 | 81 => 106 | 82 => 151 | 83 => 152 | 84 => 153 | 85 => 154 | 86 => 155 | 87 => 58 | 88 => 156 | 89 => 157 | 90 => 158 | 91 => 119 | 92 => 159 | 93 => 160 | 94 => 161 | 95 => 162 | 96 => 137 | n => n, fun n => n⟩
set_option maxRecDepth 100000 in
theorem Try.laySort : Go.Proofs.SlLaysF0.n6 Try.prog Try.laySort_ren := {
  mixed := by kernel_rfl
  f6 := ⟨Try.f60.name, by kernel_rfl, Try.func60.trans (congrArg some (by kernel_rfl))⟩
  f14 := ⟨Try.f79.name, by kernel_rfl, Try.func79.trans (congrArg some (by kernel_rfl))⟩
  f15 := Try.func80.trans (congrArg some (by kernel_rfl))
  f20 := ⟨Try.f90.name, by kernel_rfl, Try.func90.trans (congrArg some (by kernel_rfl))⟩
  f21 := ⟨Try.f91.name, by kernel_rfl, Try.func91.trans (congrArg some (by kernel_rfl))⟩
  f22 := ⟨Try.f92.name, by kernel_rfl, Try.func92.trans (congrArg some (by kernel_rfl))⟩
  f23 := ⟨Try.f93.name, by kernel_rfl, Try.func93.trans (congrArg some (by kernel_rfl))⟩
  f24 := ⟨Try.f94.name, by kernel_rfl, Try.func94.trans (congrArg some (by kernel_rfl))⟩
  f25 := ⟨Try.f95.name, by kernel_rfl, Try.func95.trans (congrArg some (by kernel_rfl))⟩
  f26 := ⟨Try.f96.name, by kernel_rfl, Try.func96.trans (congrArg some (by kernel_rfl))⟩
  f27 := ⟨Try.f97.name, by kernel_rfl, Try.func97.trans (congrArg some (by kernel_rfl))⟩
  f28 := Try.func98.trans (congrArg some (by kernel_rfl))
  f29 := Try.func99.trans (congrArg some (by kernel_rfl))
  f46 := ⟨Try.f105.name, by kernel_rfl, Try.func105.trans (congrArg some (by kernel_rfl))⟩
  f47 := Try.func106.trans (congrArg some (by kernel_rfl))
  f48 := Try.func107.trans (congrArg some (by kernel_rfl))
  f49 := ⟨Try.f108.name, by kernel_rfl, Try.func108.trans (congrArg some (by kernel_rfl))⟩
  f50 := ⟨Try.f109.name, by kernel_rfl, Try.func109.trans (congrArg some (by kernel_rfl))⟩
  f57 := ⟨Try.f110.name, by kernel_rfl, Try.func110.trans (congrArg some (by kernel_rfl))⟩
  t0 := Try.underlying0
  a0 := Try.isAgg0
  z0 := Try.sizeOf0
  v0 := Try.zeroValue0
  t3 := Try.underlying3
  a3 := Try.isAgg3
  z3 := Try.sizeOf3
  v3 := Try.zeroValue3
  t4 := Try.underlying4
  a4 := Try.isAgg4
  z4 := Try.sizeOf4
  v4 := Try.zeroValue4
  t5 := Try.underlying5
  a5 := Try.isAgg5
  z5 := Try.sizeOf5
  v5 := Try.zeroValue5
  t9 := Try.underlying9
  a9 := Try.isAgg9
  z9 := Try.sizeOf9
  v9 := Try.zeroValue9
  t22 := Try.underlying25
  a22 := Try.isAgg25
  z22 := Try.sizeOf25
  v22 := Try.zeroValue25
  t25 := Try.underlying91
  a25 := Try.isAgg91
  z25 := Try.sizeOf91
  v25 := Try.zeroValue91
  t39 := Try.underlying113
  a39 := Try.isAgg113
  z39 := Try.sizeOf113
  v39 := Try.zeroValue113
  t45 := Try.underlying125
  a45 := Try.isAgg125
  z45 := Try.sizeOf125
  v45 := Try.zeroValue125
  t46 := Try.underlying126
  a46 := Try.isAgg126
  z46 := Try.sizeOf126
  v46 := Try.zeroValue126
  t50 := Try.underlying130
  a50 := Try.isAgg130
  z50 := Try.sizeOf130
  v50 := Try.zeroValue130
  t53 := Try.underlying22
  a53 := Try.isAgg22
  z53 := Try.sizeOf22
  v53 := Try.zeroValue22
  t55 := Try.underlying75
  a55 := Try.isAgg75
  z55 := Try.sizeOf75
  v55 := Try.zeroValue75
  t66 := Try.underlying142
  a66 := Try.isAgg142
  z66 := Try.sizeOf142
  v66 := Try.zeroValue142
  t70 := Try.underlying146
  a70 := Try.isAgg146
  z70 := Try.sizeOf146
  v70 := Try.zeroValue146
  t76 := Try.underlying148
  a76 := Try.isAgg148
  z76 := Try.sizeOf148
  v76 := Try.zeroValue148
  t77 := Try.underlying149
  a77 := Try.isAgg149
  z77 := Try.sizeOf149
  v77 := Try.zeroValue149 }
end Go.Proofs
namespace Go.Proofs.Ythbdjgebpjffgaa
open Go.RowKit Go.Shelf Go.Lib Go.Sort

/-- A name's two cells. -/
def encId (x : Int × Int) : List Value := [.int .i64 x.1, .int .u32 x.2]
theorem encId_len (x : Int × Int) : (encId x).length = 2 := rfl
theorem encId_one (x : Int × Int) : ∀ v ∈ encId x, v.oneCell' = true := by
  intro v hv; simp [encId] at hv; rcases hv with rfl | rfl <;> rfl
theorem eqlId : EqlAt Try.prog 29 (fun x => .agg (encId x).toArray) (fun x y => decide (x = y)) :=
  ⟨fun x y w => (same_id x.1 x.2 y.1 y.2 (.tmp 0) (.tmp 0) w).1, GuardAt.agg _ (by kernel_rfl)⟩
theorem swoId : SWO (ltOf cf) where
  irrefl x := by unfold ltOf; rw [decide_eq_false_iff_not]; exact cf_irr x
  trans x y z h1 h2 := by unfold ltOf at *; rw [decide_eq_true_iff] at *; exact cf_trans h1 h2
  ntrans x y z h1 h2 := by unfold ltOf at *; rw [decide_eq_false_iff_not] at *; rw [cf_lt] at *; omega
theorem totId (x y : Int × Int) (h : (ltOf cf) x y = false) (k : (ltOf cf) y x = false) : x = y := by
  unfold ltOf at *; rw [decide_eq_false_iff_not] at *
  by_cases e : x = y
  · exact e
  · exact absurd (cf_tri h e) k

/-- What a call that only draws and makes blocks leaves. -/
structure Gr (w0 w : World) : Prop where
  bel : Below w0.heap.size w0 w
  drawn : w0.drawn ≤ w.drawn
theorem Gr.eq {w0 w : World} (h : Gr w0 w) : ∃ q os, w = grow (w0.drewN q) os := by
  refine ⟨w.drawn - w0.drawn, w.heap.extract w0.heap.size w.heap.size, ?_⟩
  obtain ⟨hp, tp, dr, os, ou⟩ := w
  obtain ⟨hp0, tp0, dr0, os0, ou0⟩ := w0
  obtain ⟨b1, b2, b3, b4, b5⟩ := h.bel
  have hd := h.drawn
  simp only at b1 b2 b3 b4 b5 hd
  subst b1 b2 b3
  simp only [grow, World.drewN, World.mk.injEq, and_true, true_and]
  refine ⟨?_, by omega⟩
  apply Array.ext_getElem?
  intro i
  by_cases hi : i < hp0.size
  · rw [Array.getElem?_append_left hi]; exact b5 i hi
  · rw [Array.getElem?_append_right (by omega)]
    simp only [Array.getElem?_extract, Nat.min_self]
    split
    · rw [show hp0.size + (i - hp0.size) = i by omega]
    · rw [Array.getElem?_eq_none (by omega)]

/-- Two names lie in the call's first two blocks; blocks and draws alone have come. -/
structure GI (w0 : World) (o q o' q' : Int) (w : World) : Prop where
  ii : II w0 o q o' q' w
  dr : w0.drawn ≤ w.drawn
theorem GI.drew {w0 w : World} {o q o' q' : Int} (h : GI w0 o q o' q' w) : GI w0 o q o' q' w.drew := ⟨h.ii.drew, Nat.le_succ_of_le h.dr⟩
theorem GI.cells {w0 w : World} {o q o' q' : Int} (h : GI w0 o q o' q' w) : w.cell? ⟨w0.heap.size, 0, none⟩ = some (.int .i64 o) ∧ w.cell? ⟨w0.heap.size, 1, none⟩ = some (.int .u32 q) ∧ w.cell? ⟨w0.heap.size + 1, 0, none⟩ = some (.int .i64 o') ∧ w.cell? ⟨w0.heap.size + 1, 1, none⟩ = some (.int .u32 q') ∧ GI w0 o q o' q' w :=
  ⟨h.ii.cells.1, h.ii.cells.2.1, h.ii.cells.2.2.1, h.ii.cells.2.2.2.1, h⟩
theorem GI.alloc {w0 w : World} {o q o' q' : Int} (h : GI w0 o q o' q' w) (x : Obj) : GI w0 o q o' q' (w.alloc x) := ⟨h.ii.alloc x, h.dr⟩
theorem GI.held {A B C D : Prop} {w0 w : World} {o q o' q' : Int} (h : A ∧ B ∧ C ∧ D ∧ GI w0 o q o' q' w) : GI w0 o q o' q' w := h.2.2.2.2
theorem compareInt_GI {w0 w : World} {o q o' q' : Int} (a b : Int) (h : GI w0 o q o' q' w) :
    Calls Try.prog 82 #[.int .i64 a, .int .i64 b] w fun e w' => e = .returned (.int .i64 (cmpZ a b)) ∧ GI w0 o q o' q' w' :=
  (compareInt_any a b w).mono fun _ _ ⟨h1, h2⟩ => ⟨h1, h2 ▸ h⟩
theorem compareU32_GI {w0 w : World} {o q o' q' : Int} (a b : Int) (h : GI w0 o q o' q' w) :
    Calls Try.prog 83 #[.int .u32 a, .int .u32 b] w fun e w' => e = .returned (.int .i64 (cmpZ a b)) ∧ GI w0 o q o' q' w' :=
  (compareU32_any a b w).mono fun _ _ ⟨h1, h2⟩ => ⟨h1, h2 ▸ h⟩
theorem or_GI {w0 w : World} {o q o' q' : Int} (x y : Int) (h : GI w0 o q o' q' w) :
    Calls Try.prog 81 #[.slice (some ⟨w.heap.size, 0, none⟩) 2 2] (w.alloc (.cells #[.int .i64 x, .int .i64 y] 3)) fun e w' => e = .returned (.int .i64 (orZ x y)) ∧ GI w0 o q o' q' w' :=
  (or_any w.heap.size x y _ (Blk.new _ _ _)).mono fun _ _ ⟨h1, h2⟩ => ⟨h1, h2 ▸ ⟨h.ii.alloc _, h.dr⟩⟩
theorem gi_Gr {w0 w : World} {o q o' q' : Int} (h : GI w0 o q o' q' w) : Gr w0 w := ⟨h.ii.bel, h.dr⟩
set_option maxHeartbeats 1000000 in
theorem compare_Gr (o q o' q' : Int) (w : World) :
    Calls Try.prog 61 #[.agg #[.int .i64 o, .int .u32 q], .agg #[.int .i64 o', .int .u32 q']] w fun e w' => e = .returned (.int .i64 (cmpI o q o' q')) ∧ Gr w w' := by
  have hI : GI w o q o' q' _ := ⟨II.start w o q o' q', Nat.le_refl _⟩
  have HC : Hid (cmpI o q o' q' = orZ (cmpZ o o') (cmpZ q q')) := Lib.hid rfl
  go_enter Try.func61, Try.ntmps61
  go_wp2_with fail
  go_region_held3 (fun w' => w'.cell? ⟨w.heap.size, 0, none⟩ = some (.int .i64 o) ∧ w'.cell? ⟨w.heap.size, 1, none⟩ = some (.int .u32 q) ∧ w'.cell? ⟨w.heap.size + 1, 0, none⟩ = some (.int .i64 o') ∧ w'.cell? ⟨w.heap.size + 1, 1, none⟩ = some (.int .u32 q') ∧ GI w o q o' q' w') (first | exact GI.cells (by assumption) | exact GI.cells (GI.drew (by assumption)) | exact GI.cells (GI.alloc (by assumption) _) | exact GI.cells (GI.alloc (GI.drew (by assumption)) _) | exact GI.cells (GI.alloc (GI.held (by assumption)) _) | exact GI.cells (GI.drew (GI.held (by assumption)))) (first | (go_at_call 82; refine (compareInt_GI (w0 := w) (o := o) (q := q) (o' := o') (q' := q') _ _ (by first | assumption | exact GI.held (by assumption))).mono ?_; rintro e w1 ⟨rfl, hJ⟩) | (go_at_call 83; refine (compareU32_GI (w0 := w) (o := o) (q := q) (o' := o') (q' := q') _ _ (by first | assumption | exact GI.held (by assumption))).mono ?_; rintro e w2 ⟨rfl, hK⟩) | (go_at_call 81; refine (or_GI (w0 := w) (o := o) (q := q) (o' := o') (q' := q') _ _ (by first | assumption | exact GI.held (by assumption))).mono ?_; rintro e w3 ⟨rfl, hL⟩))
  all_goals
    go_wp2
    go_ret
    exact ⟨by rw [HC.out]; rfl, gi_Gr (by assumption)⟩
end Go.Proofs.Ythbdjgebpjffgaa
