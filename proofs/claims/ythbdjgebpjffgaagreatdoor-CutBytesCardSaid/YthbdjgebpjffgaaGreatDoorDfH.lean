/-
  The document's own Fold of layer 7.
  Conditions: none.
-/
import Derived.Test.YthbdjgebpjffgaaGreatDoorDotV
import Derived.Deep.CutRange
import Derived.Deep.DeepCutAuto
set_option linter.unusedVariables false
set_option linter.unusedSimpArgs false
namespace Go.Proofs.YthbdjgebpjffgaaGreatDoor
open Go.RowKit Go.Shelf Go.Lib Go.Sort

/-- What a call leaves that only makes memory. -/
def Kept (W w' : World) : Prop := Below W.heap.size W w'
section
variable {W w' : World}
theorem Kept.cell (h : Kept W w') : ∀ b o, b < W.heap.size → w'.cell? ⟨b, o, none⟩ = W.cell? ⟨b, o, none⟩ := fun b o hb => Below.cell (p := ⟨b, o, none⟩) h hb
theorem Kept.free (h : Kept W w') : ∀ b o, b < W.heap.size → w'.frozen? ⟨b, o, none⟩ = W.frozen? ⟨b, o, none⟩ := fun b o hb => Below.frozen (p := ⟨b, o, none⟩) h hb
theorem Kept.lt (h : Kept W w') : ∀ k, k < W.heap.size → k < w'.heap.size := fun _ hk => Nat.lt_of_lt_of_le hk (Below.size h)
theorem Kept.blk {g : Nat} {cs : Array Value} {T : TypeId} (k : Kept W w') (h : Blk W g cs T) : Blk w' g cs T := Blk.below h k
theorem Blk.drew1 {g : Nat} {cs : Array Value} {T : TypeId} (h : Blk W g cs T) : Blk W.drew g cs T := h
theorem ids_drew {al : Option Addr} {len cap : Nat} {L : List (Int × Int)} (h : Ids W al len cap L) : Ids W.drew al len cap L := h.below (Below.refl _ _).drew
theorem ids_alloc {al : Option Addr} {len cap : Nat} {L : List (Int × Int)} (h : Ids W al len cap L) (x : Obj) : Ids (W.alloc x) al len cap L := h.below ((Below.refl _ _).alloc (Nat.le_refl _) x)
theorem Kept.ids {al : Option Addr} {len cap : Nat} {L : List (Int × Int)} (k : Kept W w') (h : Ids W al len cap L) : Ids w' al len cap L := h.below k
/-- A whole vector stored into a new block. -/
theorem set8_same {g : Nat} (u : Nat → Int) (h : Blk W g #[.int .u32 0, .int .u32 0, .int .u32 0, .int .u32 0, .int .u32 0, .int .u32 0, .int .u32 0, .int .u32 0] 24) : Blk ((((((((W.setCell ⟨g, 0, none⟩ (.int .u32 (u 0))).setCell ⟨g, 1, none⟩ (.int .u32 (u 1))).setCell ⟨g, 2, none⟩ (.int .u32 (u 2))).setCell ⟨g, 3, none⟩ (.int .u32 (u 3))).setCell ⟨g, 4, none⟩ (.int .u32 (u 4))).setCell ⟨g, 5, none⟩ (.int .u32 (u 5))).setCell ⟨g, 6, none⟩ (.int .u32 (u 6))).setCell ⟨g, 7, none⟩ (.int .u32 (u 7))) g #[.int .u32 (u 0), .int .u32 (u 1), .int .u32 (u 2), .int .u32 (u 3), .int .u32 (u 4), .int .u32 (u 5), .int .u32 (u 6), .int .u32 (u 7)] 24 := by
  have t := (((((((h.set 0 (.int .u32 (u 0))).set 1 (.int .u32 (u 1))).set 2 (.int .u32 (u 2))).set 3 (.int .u32 (u 3))).set 4 (.int .u32 (u 4))).set 5 (.int .u32 (u 5))).set 6 (.int .u32 (u 6))).set 7 (.int .u32 (u 7))
  simp only [List.setIfInBounds_toArray, List.set_cons_zero, List.set_cons_succ] at t
  exact t
theorem set8_far {g r : Nat} (u : Nat → Int) {cs : Array Value} {T : TypeId} (h : Blk W r cs T) (hr : r ≠ g) : Blk ((((((((W.setCell ⟨g, 0, none⟩ (.int .u32 (u 0))).setCell ⟨g, 1, none⟩ (.int .u32 (u 1))).setCell ⟨g, 2, none⟩ (.int .u32 (u 2))).setCell ⟨g, 3, none⟩ (.int .u32 (u 3))).setCell ⟨g, 4, none⟩ (.int .u32 (u 4))).setCell ⟨g, 5, none⟩ (.int .u32 (u 5))).setCell ⟨g, 6, none⟩ (.int .u32 (u 6))).setCell ⟨g, 7, none⟩ (.int .u32 (u 7))) r cs T := (((((((h.far hr 0 _).far hr 1 _).far hr 2 _).far hr 3 _).far hr 4 _).far hr 5 _).far hr 6 _).far hr 7 _
theorem cell8 {g b j : Nat} (u : Nat → Int) (hb : b ≠ g) : ((((((((W.setCell ⟨g, 0, none⟩ (.int .u32 (u 0))).setCell ⟨g, 1, none⟩ (.int .u32 (u 1))).setCell ⟨g, 2, none⟩ (.int .u32 (u 2))).setCell ⟨g, 3, none⟩ (.int .u32 (u 3))).setCell ⟨g, 4, none⟩ (.int .u32 (u 4))).setCell ⟨g, 5, none⟩ (.int .u32 (u 5))).setCell ⟨g, 6, none⟩ (.int .u32 (u 6))).setCell ⟨g, 7, none⟩ (.int .u32 (u 7))).cell? ⟨b, j, none⟩ = W.cell? ⟨b, j, none⟩ := by
  have hn : ∀ i, (⟨g, i, none⟩ : Addr) ≠ ⟨b, j, none⟩ := fun i e => hb (by cases e; rfl)
  rw [csOther (hn 7), csOther (hn 6), csOther (hn 5), csOther (hn 4), csOther (hn 3), csOther (hn 2), csOther (hn 1), csOther (hn 0)]
theorem below8 {g B : Nat} {w0 : World} (u : Nat → Int) (h : Below B w0 W) (hg : B ≤ g) : Below B w0 ((((((((W.setCell ⟨g, 0, none⟩ (.int .u32 (u 0))).setCell ⟨g, 1, none⟩ (.int .u32 (u 1))).setCell ⟨g, 2, none⟩ (.int .u32 (u 2))).setCell ⟨g, 3, none⟩ (.int .u32 (u 3))).setCell ⟨g, 4, none⟩ (.int .u32 (u 4))).setCell ⟨g, 5, none⟩ (.int .u32 (u 5))).setCell ⟨g, 6, none⟩ (.int .u32 (u 6))).setCell ⟨g, 7, none⟩ (.int .u32 (u 7))) := (((((((h.setCell (by simpa using hg) _).setCell (by simpa using hg) _).setCell (by simpa using hg) _).setCell (by simpa using hg) _).setCell (by simpa using hg) _).setCell (by simpa using hg) _).setCell (by simpa using hg) _).setCell (by simpa using hg) _
theorem int_ne {g b j : Nat} {o : Int} (hz : Blk W g #[.int .u32 0, .int .u32 0, .int .u32 0, .int .u32 0, .int .u32 0, .int .u32 0, .int .u32 0, .int .u32 0] 24) (h : W.cell? ⟨b, j, none⟩ = some (.int .i64 o)) : b ≠ g := by
  intro e
  subst e
  rw [Blk.cell hz] at h
  match j, h with
  | 0, h => simp at h
  | 1, h => simp at h
  | 2, h => simp at h
  | 3, h => simp at h
  | 4, h => simp at h
  | 5, h => simp at h
  | 6, h => simp at h
  | 7, h => simp at h
  | j + 8, h => simp at h
theorem ids_set8 {g : Nat} {al : Option Addr} {len cap : Nat} {L : List (Int × Int)} (u : Nat → Int) (h : Ids W al len cap L) (hz : Blk W g #[.int .u32 0, .int .u32 0, .int .u32 0, .int .u32 0, .int .u32 0, .int .u32 0, .int .u32 0, .int .u32 0] 24) : Ids ((((((((W.setCell ⟨g, 0, none⟩ (.int .u32 (u 0))).setCell ⟨g, 1, none⟩ (.int .u32 (u 1))).setCell ⟨g, 2, none⟩ (.int .u32 (u 2))).setCell ⟨g, 3, none⟩ (.int .u32 (u 3))).setCell ⟨g, 4, none⟩ (.int .u32 (u 4))).setCell ⟨g, 5, none⟩ (.int .u32 (u 5))).setCell ⟨g, 6, none⟩ (.int .u32 (u 6))).setCell ⟨g, 7, none⟩ (.int .u32 (u 7))) al len cap L :=
  ⟨h.ln, h.fit, h.bd, h.nn, fun k hk => by
    obtain ⟨b, off, o, q, h1, h2, h3, h4⟩ := h.nth k hk
    have hb := int_ne hz h3
    exact ⟨b, off, o, q, h1, h2, (cell8 u hb).trans h3, (cell8 u hb).trans h4⟩⟩
theorem blk_newS (o : Obj) (cs : Array Value) (T : TypeId) : Blk ((W.alloc o).alloc (.cells cs T)) (W.heap.size + 1) cs T := by
  have := Blk.new (W.alloc o) cs T
  simpa using this
end


/-- What the document's Fold holds within a round: the vector, the answer's block, the present name. -/
structure FK (w0 : World) (v : Nat → Int) (b p : Nat) (x y : Int) (w : World) : Prop where
  bel : Below w0.heap.size w0 w
  bv : Blk w w0.heap.size #[.int .u32 (v 0), .int .u32 (v 1), .int .u32 (v 2), .int .u32 (v 3), .int .u32 (v 4), .int .u32 (v 5), .int .u32 (v 6), .int .u32 (v 7)] 24
  bz : Blk w (w0.heap.size + 1) #[.int .u32 0, .int .u32 0, .int .u32 0, .int .u32 0, .int .u32 0, .int .u32 0, .int .u32 0, .int .u32 0] 24
  c0 : w.cell? ⟨b, p, none⟩ = some (.int .i64 x)
  c1 : w.cell? ⟨b, p + 1, none⟩ = some (.int .u32 y)
section
variable {w0 W w' : World} {v : Nat → Int} {b p : Nat} {x y : Int}
theorem FK.next (h : FK w0 v b p x y W) (k : Below W.heap.size W w') : FK w0 v b p x y w' := ⟨below_then h.bel k, h.bv.below k, h.bz.below k, (k.cell (p := ⟨b, p, none⟩) (cellLt h.c0)).trans h.c0, (k.cell (p := ⟨b, p + 1, none⟩) (cellLt h.c1)).trans h.c1⟩
theorem FK.drew (h : FK w0 v b p x y W) : FK w0 v b p x y W.drew := h.next (Below.refl _ _).drew
theorem FK.alloc (h : FK w0 v b p x y W) (a : Obj) : FK w0 v b p x y (W.alloc a) := h.next ((Below.refl _ _).alloc (Nat.le_refl _) a)
theorem FK.lt (h : FK w0 v b p x y W) : w0.heap.size + 1 < W.heap.size := h.bz.lt
theorem FK.set8 {g : Nat} (u : Nat → Int) (h : FK w0 v b p x y W) (hz : Blk W g #[.int .u32 0, .int .u32 0, .int .u32 0, .int .u32 0, .int .u32 0, .int .u32 0, .int .u32 0, .int .u32 0] 24) (hg : w0.heap.size + 1 < g) : FK w0 v b p x y ((((((((W.setCell ⟨g, 0, none⟩ (.int .u32 (u 0))).setCell ⟨g, 1, none⟩ (.int .u32 (u 1))).setCell ⟨g, 2, none⟩ (.int .u32 (u 2))).setCell ⟨g, 3, none⟩ (.int .u32 (u 3))).setCell ⟨g, 4, none⟩ (.int .u32 (u 4))).setCell ⟨g, 5, none⟩ (.int .u32 (u 5))).setCell ⟨g, 6, none⟩ (.int .u32 (u 6))).setCell ⟨g, 7, none⟩ (.int .u32 (u 7))) :=
  ⟨below8 u h.bel (by omega), set8_far u h.bv (by omega), set8_far u h.bz (by omega), (cell8 u (int_ne hz h.c0)).trans h.c0, (cell8 u (int_ne hz h.c0)).trans h.c1⟩
theorem FK.all (h : FK w0 v b p x y W) : W.cell? ⟨w0.heap.size, 0, none⟩ = some (.int .u32 (v 0)) ∧ W.cell? ⟨w0.heap.size, 1, none⟩ = some (.int .u32 (v 1)) ∧ W.cell? ⟨w0.heap.size, 2, none⟩ = some (.int .u32 (v 2)) ∧ W.cell? ⟨w0.heap.size, 3, none⟩ = some (.int .u32 (v 3)) ∧ W.cell? ⟨w0.heap.size, 4, none⟩ = some (.int .u32 (v 4)) ∧ W.cell? ⟨w0.heap.size, 5, none⟩ = some (.int .u32 (v 5)) ∧ W.cell? ⟨w0.heap.size, 6, none⟩ = some (.int .u32 (v 6)) ∧ W.cell? ⟨w0.heap.size, 7, none⟩ = some (.int .u32 (v 7)) ∧ W.cell? ⟨b, p, none⟩ = some (.int .i64 x) ∧ W.cell? ⟨b, p + 1, none⟩ = some (.int .u32 y) ∧ FK w0 v b p x y W :=
  ⟨vec_cell h.bv 0 (by omega), vec_cell h.bv 1 (by omega), vec_cell h.bv 2 (by omega), vec_cell h.bv 3 (by omega), vec_cell h.bv 4 (by omega), vec_cell h.bv 5 (by omega), vec_cell h.bv 6 (by omega), vec_cell h.bv 7 (by omega), h.c0, h.c1, h⟩
theorem FK.held {c0 c1 c2 c3 c4 c5 c6 c7 d0 d1 : Prop} (h : c0 ∧ c1 ∧ c2 ∧ c3 ∧ c4 ∧ c5 ∧ c6 ∧ c7 ∧ d0 ∧ d1 ∧ FK w0 v b p x y W) : FK w0 v b p x y W := h.2.2.2.2.2.2.2.2.2.2
theorem take_FK (a u : Nat → Int) (m n c : Int) (ha : InB a) (ht : takeV a m n = (u, c)) (h : FK w0 v b p x y W) :
    Calls Tryz.prog 80 #[.agg #[.int .u32 (a 0), .int .u32 (a 1), .int .u32 (a 2), .int .u32 (a 3), .int .u32 (a 4), .int .u32 (a 5), .int .u32 (a 6), .int .u32 (a 7)], .agg #[.int .i64 m, .int .u32 n]] W fun e w' => e = .returned (.tuple #[.agg #[.int .u32 (u 0), .int .u32 (u 1), .int .u32 (u 2), .int .u32 (u 3), .int .u32 (u 4), .int .u32 (u 5), .int .u32 (u 6), .int .u32 (u 7)], .int .i64 c]) ∧ FK w0 v b p x y w' ∧ Kept W w' :=
  (rtake_any a m n W ha).mono fun _ _ ⟨h1, h2⟩ => ⟨by rw [h1, ht], h.next h2, h2⟩
/-- .. and what Take answered, in a block of its own. -/
structure FG (w0 : World) (v : Nat → Int) (b p : Nat) (x y : Int) (g : Nat) (u : Nat → Int) (w : World) : Prop where
  k : FK w0 v b p x y w
  bg : Blk w g #[.int .u32 (u 0), .int .u32 (u 1), .int .u32 (u 2), .int .u32 (u 3), .int .u32 (u 4), .int .u32 (u 5), .int .u32 (u 6), .int .u32 (u 7)] 24
  hg : w0.heap.size + 1 < g
theorem FG.s1 (u : Nat → Int) (h : FK w0 v b p x y W) : FG w0 v b p x y W.heap.size u (W.alloc (.cells #[.int .u32 (u 0), .int .u32 (u 1), .int .u32 (u 2), .int .u32 (u 3), .int .u32 (u 4), .int .u32 (u 5), .int .u32 (u 6), .int .u32 (u 7)] 24)) := ⟨h.alloc _, Blk.new _ _ _, h.lt⟩
theorem FG.s2 {g : Nat} (u : Nat → Int) (h : FK w0 v b p x y W) (hz : Blk W g #[.int .u32 0, .int .u32 0, .int .u32 0, .int .u32 0, .int .u32 0, .int .u32 0, .int .u32 0, .int .u32 0] 24) (hg : w0.heap.size + 1 < g) : FG w0 v b p x y g u ((((((((W.setCell ⟨g, 0, none⟩ (.int .u32 (u 0))).setCell ⟨g, 1, none⟩ (.int .u32 (u 1))).setCell ⟨g, 2, none⟩ (.int .u32 (u 2))).setCell ⟨g, 3, none⟩ (.int .u32 (u 3))).setCell ⟨g, 4, none⟩ (.int .u32 (u 4))).setCell ⟨g, 5, none⟩ (.int .u32 (u 5))).setCell ⟨g, 6, none⟩ (.int .u32 (u 6))).setCell ⟨g, 7, none⟩ (.int .u32 (u 7))) := ⟨h.set8 u hz hg, set8_same u hz, hg⟩
end

set_option maxRecDepth 100000 in
set_option maxHeartbeats 4000000 in
theorem rfold_ok (al : Option Addr) (len cap : Nat) (L : List (Int × Int)) (v : Nat → Int) (w : World) (hL : Ids w al len cap L) (hv : InB v) (hc : foC v L = 0) :
    Calls Tryz.prog 64 #[.agg #[.int .u32 (v 0), .int .u32 (v 1), .int .u32 (v 2), .int .u32 (v 3), .int .u32 (v 4), .int .u32 (v 5), .int .u32 (v 6), .int .u32 (v 7)], .slice al len cap] w fun e w' => ∃ al2 cap2, e = .returned (.tuple #[.agg #[.int .u32 (foV v L 0), .int .u32 (foV v L 1), .int .u32 (foV v L 2), .int .u32 (foV v L 3), .int .u32 (foV v L 4), .int .u32 (foV v L 5), .int .u32 (foV v L 6), .int .u32 (foV v L 7)], .slice al2 (foS v L).length cap2, .int .i64 (foC v L)]) ∧ Ids w' al2 (foS v L).length cap2 (foS v L) ∧ Below w.heap.size w w' := by
  have hb0 : Below w.heap.size w ((w.alloc (.cells #[.int .u32 (v 0), .int .u32 (v 1), .int .u32 (v 2), .int .u32 (v 3), .int .u32 (v 4), .int .u32 (v 5), .int .u32 (v 6), .int .u32 (v 7)] 24)).alloc (.cells #[.int .u32 0, .int .u32 0, .int .u32 0, .int .u32 0, .int .u32 0, .int .u32 0, .int .u32 0, .int .u32 0] 24)) := below_new ((Below.refl w.heap.size w).alloc (Nat.le_refl _) _) _
  have HL := Lib.hid hL
  have hbv : Blk ((w.alloc (.cells #[.int .u32 (v 0), .int .u32 (v 1), .int .u32 (v 2), .int .u32 (v 3), .int .u32 (v 4), .int .u32 (v 5), .int .u32 (v 6), .int .u32 (v 7)] 24)).alloc (.cells #[.int .u32 0, .int .u32 0, .int .u32 0, .int .u32 0, .int .u32 0, .int .u32 0, .int .u32 0, .int .u32 0] 24)) w.heap.size #[.int .u32 (v 0), .int .u32 (v 1), .int .u32 (v 2), .int .u32 (v 3), .int .u32 (v 4), .int .u32 (v 5), .int .u32 (v 6), .int .u32 (v 7)] 24 := (Blk.new w _ _).alloc _
  have hbz : Blk ((w.alloc (.cells #[.int .u32 (v 0), .int .u32 (v 1), .int .u32 (v 2), .int .u32 (v 3), .int .u32 (v 4), .int .u32 (v 5), .int .u32 (v 6), .int .u32 (v 7)] 24)).alloc (.cells #[.int .u32 0, .int .u32 0, .int .u32 0, .int .u32 0, .int .u32 0, .int .u32 0, .int .u32 0, .int .u32 0] 24)) (w.heap.size + 1) #[.int .u32 0, .int .u32 0, .int .u32 0, .int .u32 0, .int .u32 0, .int .u32 0, .int .u32 0, .int .u32 0] 24 := blk_newS _ _ _
  have HV0 := Lib.hid hbv
  have HZ0 := Lib.hid hbz
  have HB0 := Lib.hid hb0
  clear hbv hbz hb0
  obtain ⟨c1, c2⟩ := fo_zero hc
  have HC1 := Lib.hid c1
  have HC2 := Lib.hid c2
  have HFV : Hid (foV v L = foldV v L) := Lib.hid (by unfold foV; rw [if_pos hc])
  have HFS : Hid (foS v L = byS (foldV v L) L) := Lib.hid (by unfold foS; rw [if_pos hc])
  have HC := Lib.hid hc
  have hlen : len ≤ 64 := by
    have := (chkS_zero c2).1
    have := hL.ln
    omega
  have hcap := hL.bd
  have hfit := hL.fit
  have HLL := Lib.hid hL.ln
  have HIN := Lib.hid hv
  clear hL hc c1 c2 hv
  go_enter Tryz.func64, Tryz.ntmps64
  go_wp2_with fail
  refine (rvCheck_any v _).mono ?_
  rw [HC1.out]
  rintro e w1 ⟨rfl, b1⟩
  have HV1 := Lib.hid (HV0.out.below b1)
  have HZ1 := Lib.hid (HZ0.out.below b1)
  have HB1 := Lib.hid (below_then HB0.out b1); clear b1
  go_wp2_with fail
  refine (rdCheck_any al len cap L _ (HL.out.below HB1.out)).mono ?_
  rw [HC2.out]
  rintro e w2 ⟨rfl, b2⟩
  have HV2 := Lib.hid (HV1.out.below b2)
  have HZ2 := Lib.hid (HZ1.out.below b2)
  have HB2 := Lib.hid (below_then HB1.out b2); clear b2
  go_wp2
  go_loopw [8] (fun s8 wr => ∃ k : Nat, s8 = .int .i64 k ∧ k ≤ len ∧ InB (foldV v (L.take k)) ∧ Blk wr w.heap.size #[.int .u32 (foldV v (L.take k) 0), .int .u32 (foldV v (L.take k) 1), .int .u32 (foldV v (L.take k) 2), .int .u32 (foldV v (L.take k) 3), .int .u32 (foldV v (L.take k) 4), .int .u32 (foldV v (L.take k) 5), .int .u32 (foldV v (L.take k) 6), .int .u32 (foldV v (L.take k) 7)] 24 ∧ Blk wr (w.heap.size + 1) #[.int .u32 0, .int .u32 0, .int .u32 0, .int .u32 0, .int .u32 0, .int .u32 0, .int .u32 0, .int .u32 0] 24 ∧ Below w.heap.size w wr) (fun s8 _ => len - (intOf s8).toNat)
  case atStart => exact ⟨0, rfl, by omega, HIN.out, HV2.out, HZ2.out, HB2.out⟩
  case round =>
    obtain ⟨k, rfl, hk, hin, hbv, hbz, hb⟩ := hrel
    have HB := Lib.hid hb; clear hb
    have HZ := Lib.hid hbz; clear hbz
    by_cases hkl : k < len
    · obtain ⟨b, off, o, q, rfl, hx, i0, i1⟩ := (HL.out.below HB.out).nth k hkl
      have hft := fold_take (v := v) hx
      have hin2 : InB (foldV v (L.take (k + 1))) := by rw [hft]; exact stepV_in hin _
      have HIN2 := Lib.hid hin2; clear hin2 hx
      generalize foldV v (L.take k) = u at hin hbv hft
      have HFT := Lib.hid hft; clear hft
      obtain ⟨u', c, htk⟩ : ∃ u' c, takeV u o q = (u', c) := ⟨_, _, rfl⟩
      have HTK := Lib.hid htk
      have HIN1 := Lib.hid hin; clear htk hin
      have HK : FK w u b (off + k * 2) o q wr := ⟨HB.out, hbv, HZ.out, i0, i1⟩
      have lr := HK.lt
      clear hbv i0 i1
      go_upto_region 9 with fail
      go_cut [9, 10] from 23 to 40 (fun s9 s10 wx => ∃ g : Nat, s9 = .pointer (some ⟨g, 0, none⟩) ∧ s10 = .int .i64 c ∧ FG w u b (off + k * 2) o q g u' wx)
      case first =>
        go_region_held3 (fun w' => w'.cell? ⟨w.heap.size, 0, none⟩ = some (.int .u32 (u 0)) ∧ w'.cell? ⟨w.heap.size, 1, none⟩ = some (.int .u32 (u 1)) ∧ w'.cell? ⟨w.heap.size, 2, none⟩ = some (.int .u32 (u 2)) ∧ w'.cell? ⟨w.heap.size, 3, none⟩ = some (.int .u32 (u 3)) ∧ w'.cell? ⟨w.heap.size, 4, none⟩ = some (.int .u32 (u 4)) ∧ w'.cell? ⟨w.heap.size, 5, none⟩ = some (.int .u32 (u 5)) ∧ w'.cell? ⟨w.heap.size, 6, none⟩ = some (.int .u32 (u 6)) ∧ w'.cell? ⟨w.heap.size, 7, none⟩ = some (.int .u32 (u 7)) ∧ w'.cell? ⟨b, off + k * 2, none⟩ = some (.int .i64 o) ∧ w'.cell? ⟨b, off + k * 2 + 1, none⟩ = some (.int .u32 q) ∧ FK w u b (off + k * 2) o q w') (exact FK.all (by repeat (first | (with_reducible assumption) | (with_reducible exact HK) | (with_reducible refine FK.alloc ?_ _) | (with_reducible refine FK.drew ?_) | (with_reducible refine FK.set8 _ ?_ (by repeat (first | (with_reducible exact Blk.new _ _ _) | (with_reducible refine Blk.alloc ?_ _) | (with_reducible refine Blk.drew1 ?_) | (with_reducible refine Kept.blk hkj ?_))) (by omega))))) (first | (go_at_call 80; refine (take_FK (w0 := w) (v := u) (b := b) (p := off + k * 2) (x := o) (y := q) u u' o q c HIN1.out HTK.out (by first | (with_reducible assumption) | exact FK.held (by assumption))).mono ?_; rintro e wj ⟨rfl, hJ, hkj⟩; have cj := hkj.cell; have fj := hkj.free; have zj := hkj.lt; (first | (have y1 : wr.heap.size < wj.heap.size := zj _ (by first | (with_reducible assumption) | omega | (simp; done) | (simp; omega))) | skip)))
        all_goals
          go_wp2_with fail
          go_meet
          first | (with_reducible exact ⟨_, rfl, rfl, FG.s1 _ hJ⟩) | ((with_reducible refine ⟨_, rfl, rfl, FG.s2 _ hJ ?_ ?_⟩); exact (by repeat (first | (with_reducible exact Blk.new _ _ _) | (with_reducible refine Blk.alloc ?_ _) | (with_reducible refine Blk.drew1 ?_) | (with_reducible refine Kept.blk hkj ?_))); omega)
      case rest =>
        obtain ⟨g, rfl, rfl, hG⟩ := hcut
        have HG := Lib.hid hG
        have HGK := Lib.hid hG.hg
        clear HK lr hG
        by_cases hc : c = 0
        · subst hc
          have HST := Lib.hid (stepV_yes HTK.out)
          go_wp2_with (first | (refine wpList_load_row rfl 24 _ rfl g rfl 24 #[.int .u32 (u' 0), .int .u32 (u' 1), .int .u32 (u' 2), .int .u32 (u' 3), .int .u32 (u' 4), .int .u32 (u' 5), .int .u32 (u' 6), .int .u32 (u' 7)] (0, 0) _ HG.out.bg Tryz.underlying24 rfl (by kernel_rfl) ?_) | (refine wpList_store_row rfl 24 _ _ rfl w.heap.size #[.int .u32 (u' 0), .int .u32 (u' 1), .int .u32 (u' 2), .int .u32 (u' 3), .int .u32 (u' 4), .int .u32 (u' 5), .int .u32 (u' 6), .int .u32 (u' 7)] rfl rfl 24 _ HG.out.k.bv (by kernel_rfl) rfl (vec_one _) ?_))
          go_roundw
          case rel => exact ⟨k + 1, by go_num, by omega, HIN2.out, by rw [HFT.out, HST.out]; exact setRow_heap _ _ _ _ _ _ HG.out.k.bv, (setRow_other _ _ _ _ (by omega)).trans HG.out.k.bz, below_setRow HG.out.k.bel (Nat.le_refl _) _⟩
          case measure => simp [intOf]; omega
        · have HST := Lib.hid (stepV_no HTK.out hc)
          have hcf : (c == 0) = false := by simpa using hc
          clear hc
          go_wp2
          go_roundw
          case rel => exact ⟨k + 1, by go_num, by omega, HIN2.out, by rw [HFT.out, HST.out]; exact HG.out.k.bv, HG.out.k.bz, HG.out.k.bel⟩
          case measure => simp [intOf]; omega
    · have hkk : (len : Int) ≤ k := by omega
      rw [List.take_of_length_le (by have := HLL.out; omega)] at hbv hin
      generalize foldV v L = u at hbv hin HFV HFS
      clear hin
      obtain ⟨v0, v1, v2, v3, v4, v5, v6, v7⟩ := vec_cells hbv
      have HV := Lib.hid hbv; clear hbv
      have hby := rBeyond_any al len cap L u wr (HL.out.below HB.out)
      rw [show byR u L = foS v L by rw [HFS.out]; unfold byR; rw [if_pos HC2.out], HC2.out] at hby
      go_wp2_with fail
      refine hby.mono ?_
      clear hby
      rintro e w4 ⟨al4, cap4, rfl, hI4, b4⟩
      have HI4 := Lib.hid hI4; clear hI4
      have HV4 := Lib.hid (HV.out.below b4)
      have HZ4 := Lib.hid (HZ.out.below b4)
      have HB4 := Lib.hid (HB.out.trans (b4.mono HB.out.size)); clear b4 v0 v1 v2 v3 v4 v5 v6 v7
      generalize hn : (foS v L).length = n at HI4 ⊢
      have HN := Lib.hid hn; clear hn
      go_wp2_with (first | (refine wpList_load_row rfl 24 _ rfl w.heap.size rfl 24 #[.int .u32 (u 0), .int .u32 (u 1), .int .u32 (u 2), .int .u32 (u 3), .int .u32 (u 4), .int .u32 (u 5), .int .u32 (u 6), .int .u32 (u 7)] (0, 0) _ HV4.out Tryz.underlying24 rfl (by kernel_rfl) ?_) | (refine wpList_store_row rfl 24 _ _ rfl (w.heap.size + 1) #[.int .u32 (u 0), .int .u32 (u 1), .int .u32 (u 2), .int .u32 (u 3), .int .u32 (u 4), .int .u32 (u 5), .int .u32 (u 6), .int .u32 (u 7)] rfl rfl 24 _ HZ4.out (by kernel_rfl) rfl (vec_one _) ?_))
      have hR : Blk (w4.setRow (w.heap.size + 1) #[.int .u32 (u 0), .int .u32 (u 1), .int .u32 (u 2), .int .u32 (u 3), .int .u32 (u 4), .int .u32 (u 5), .int .u32 (u 6), .int .u32 (u 7)]) (w.heap.size + 1) #[.int .u32 (u 0), .int .u32 (u 1), .int .u32 (u 2), .int .u32 (u 3), .int .u32 (u 4), .int .u32 (u 5), .int .u32 (u 6), .int .u32 (u 7)] 24 := setRow_heap _ _ _ _ _ _ HZ4.out
      obtain ⟨r0, r1, r2, r3, r4, r5, r6, r7⟩ := vec_cells (v := u) hR
      refine bodyPost_ret (v := .tuple #[.agg #[.int .u32 (u 0), .int .u32 (u 1), .int .u32 (u 2), .int .u32 (u 3), .int .u32 (u 4), .int .u32 (u 5), .int .u32 (u 6), .int .u32 (u 7)], .slice al4 n cap4, .int .i64 0]) ?_ rfl ⟨al4, cap4, by rw [HFV.out, HN.out, HC.out], ?_, below_setRow HB4.out (by omega) _⟩
      · simp [results, Tryz.results64, go_sem, r0, r1, r2, r3, r4, r5, r6, r7]
      · rw [HN.out]; exact ids_row HI4.out HZ4.out _

set_option maxRecDepth 100000 in
set_option maxHeartbeats 4000000 in
theorem rfold_any (al : Option Addr) (len cap : Nat) (L : List (Int × Int)) (v : Nat → Int) (w : World) (hL : Ids w al len cap L) (hv : InB v) :
    Calls Tryz.prog 64 #[.agg #[.int .u32 (v 0), .int .u32 (v 1), .int .u32 (v 2), .int .u32 (v 3), .int .u32 (v 4), .int .u32 (v 5), .int .u32 (v 6), .int .u32 (v 7)], .slice al len cap] w fun e w' => ∃ al2 cap2, e = .returned (.tuple #[.agg #[.int .u32 (foV v L 0), .int .u32 (foV v L 1), .int .u32 (foV v L 2), .int .u32 (foV v L 3), .int .u32 (foV v L 4), .int .u32 (foV v L 5), .int .u32 (foV v L 6), .int .u32 (foV v L 7)], .slice al2 (foS v L).length cap2, .int .i64 (foC v L)]) ∧ Ids w' al2 (foS v L).length cap2 (foS v L) ∧ Below w.heap.size w w' := by
  by_cases hc : foC v L = 0
  · exact rfold_ok al len cap L v w hL hv hc
  have hb0 : Below w.heap.size w ((w.alloc (.cells #[.int .u32 (v 0), .int .u32 (v 1), .int .u32 (v 2), .int .u32 (v 3), .int .u32 (v 4), .int .u32 (v 5), .int .u32 (v 6), .int .u32 (v 7)] 24)).alloc (.cells #[.int .u32 0, .int .u32 0, .int .u32 0, .int .u32 0, .int .u32 0, .int .u32 0, .int .u32 0, .int .u32 0] 24)) := below_new ((Below.refl w.heap.size w).alloc (Nat.le_refl _) _) _
  have HL := Lib.hid hL
  have hbz : Blk ((w.alloc (.cells #[.int .u32 (v 0), .int .u32 (v 1), .int .u32 (v 2), .int .u32 (v 3), .int .u32 (v 4), .int .u32 (v 5), .int .u32 (v 6), .int .u32 (v 7)] 24)).alloc (.cells #[.int .u32 0, .int .u32 0, .int .u32 0, .int .u32 0, .int .u32 0, .int .u32 0, .int .u32 0, .int .u32 0] 24)) (w.heap.size + 1) #[.int .u32 0, .int .u32 0, .int .u32 0, .int .u32 0, .int .u32 0, .int .u32 0, .int .u32 0, .int .u32 0] 24 := blk_newS _ _ _
  have HZ0 := Lib.hid hbz
  have HB0 := Lib.hid hb0
  have HFV : Hid (foV v L = zV) := Lib.hid (by unfold foV; rw [if_neg hc])
  have HFS : Hid (foS v L = []) := Lib.hid (by unfold foS; rw [if_neg hc])
  clear hbz hb0
  by_cases h1 : chkV v = 0
  · have HOR : Hid (foC v L = chkS L) := Lib.hid (by unfold foC orZ; rw [if_pos h1])
    rw [HOR.out] at hc
    have HC1 := Lib.hid h1
    obtain ⟨c, hcc⟩ : ∃ c, chkS L = c := ⟨_, rfl⟩
    rw [hcc] at hc HOR
    have HCC := Lib.hid hcc
    have hn : (c != 0) = true := by simpa using hc
    clear hcc hc h1 hL hv
    go_enter Tryz.func64, Tryz.ntmps64
    go_wp2_with fail
    refine (rvCheck_any v _).mono ?_
    rw [HC1.out]
    rintro e w1 ⟨rfl, b1⟩
    have HZ1 := Lib.hid (HZ0.out.below b1)
    have HB1 := Lib.hid (below_then HB0.out b1); clear b1
    go_wp2_with fail
    refine (rdCheck_any al len cap L _ (HL.out.below HB1.out)).mono ?_
    rw [HCC.out]
    rintro e w2 ⟨rfl, b2⟩
    have HZ2 := Lib.hid (HZ1.out.below b2)
    have HB2 := Lib.hid (below_then HB1.out b2); clear b2
    go_wp2_with (refine wpList_store_row rfl 24 _ _ rfl (w.heap.size + 1) #[.int .u32 0, .int .u32 0, .int .u32 0, .int .u32 0, .int .u32 0, .int .u32 0, .int .u32 0, .int .u32 0] rfl rfl 24 _ HZ2.out (by kernel_rfl) rfl (by kernel_rfl) ?_)
    have hR : Blk (w2.setRow (w.heap.size + 1) #[.int .u32 0, .int .u32 0, .int .u32 0, .int .u32 0, .int .u32 0, .int .u32 0, .int .u32 0, .int .u32 0]) (w.heap.size + 1) #[.int .u32 0, .int .u32 0, .int .u32 0, .int .u32 0, .int .u32 0, .int .u32 0, .int .u32 0, .int .u32 0] 24 := setRow_heap _ _ _ _ _ _ HZ2.out
    have r0 : (w2.setRow (w.heap.size + 1) #[.int .u32 0, .int .u32 0, .int .u32 0, .int .u32 0, .int .u32 0, .int .u32 0, .int .u32 0, .int .u32 0]).cell? ⟨w.heap.size + 1, 0, none⟩ = some (.int .u32 0) := by rw [Blk.cell hR]; rfl
    have r1 : (w2.setRow (w.heap.size + 1) #[.int .u32 0, .int .u32 0, .int .u32 0, .int .u32 0, .int .u32 0, .int .u32 0, .int .u32 0, .int .u32 0]).cell? ⟨w.heap.size + 1, 1, none⟩ = some (.int .u32 0) := by rw [Blk.cell hR]; rfl
    have r2 : (w2.setRow (w.heap.size + 1) #[.int .u32 0, .int .u32 0, .int .u32 0, .int .u32 0, .int .u32 0, .int .u32 0, .int .u32 0, .int .u32 0]).cell? ⟨w.heap.size + 1, 2, none⟩ = some (.int .u32 0) := by rw [Blk.cell hR]; rfl
    have r3 : (w2.setRow (w.heap.size + 1) #[.int .u32 0, .int .u32 0, .int .u32 0, .int .u32 0, .int .u32 0, .int .u32 0, .int .u32 0, .int .u32 0]).cell? ⟨w.heap.size + 1, 3, none⟩ = some (.int .u32 0) := by rw [Blk.cell hR]; rfl
    have r4 : (w2.setRow (w.heap.size + 1) #[.int .u32 0, .int .u32 0, .int .u32 0, .int .u32 0, .int .u32 0, .int .u32 0, .int .u32 0, .int .u32 0]).cell? ⟨w.heap.size + 1, 4, none⟩ = some (.int .u32 0) := by rw [Blk.cell hR]; rfl
    have r5 : (w2.setRow (w.heap.size + 1) #[.int .u32 0, .int .u32 0, .int .u32 0, .int .u32 0, .int .u32 0, .int .u32 0, .int .u32 0, .int .u32 0]).cell? ⟨w.heap.size + 1, 5, none⟩ = some (.int .u32 0) := by rw [Blk.cell hR]; rfl
    have r6 : (w2.setRow (w.heap.size + 1) #[.int .u32 0, .int .u32 0, .int .u32 0, .int .u32 0, .int .u32 0, .int .u32 0, .int .u32 0, .int .u32 0]).cell? ⟨w.heap.size + 1, 6, none⟩ = some (.int .u32 0) := by rw [Blk.cell hR]; rfl
    have r7 : (w2.setRow (w.heap.size + 1) #[.int .u32 0, .int .u32 0, .int .u32 0, .int .u32 0, .int .u32 0, .int .u32 0, .int .u32 0, .int .u32 0]).cell? ⟨w.heap.size + 1, 7, none⟩ = some (.int .u32 0) := by rw [Blk.cell hR]; rfl
    refine bodyPost_ret (v := .tuple #[.agg #[.int .u32 0, .int .u32 0, .int .u32 0, .int .u32 0, .int .u32 0, .int .u32 0, .int .u32 0, .int .u32 0], .slice none 0 0, .int .i64 c]) ?_ rfl ⟨none, 0, by rw [HFV.out, HFS.out, HOR.out]; rfl, by rw [HFS.out]; exact Ids.nil _, below_setRow HB2.out (by omega) _⟩
    simp [results, Tryz.results64, go_sem, r0, r1, r2, r3, r4, r5, r6, r7]
  · have HOR : Hid (foC v L = chkV v) := Lib.hid (by unfold foC orZ; rw [if_neg h1])
    obtain ⟨c, hcc⟩ : ∃ c, chkV v = c := ⟨_, rfl⟩
    rw [hcc] at h1 HOR
    have HCC := Lib.hid hcc
    have hn : (c != 0) = true := by simpa using h1
    have hn' : (c == 0) = false := by simpa using h1
    clear hcc hc h1 hL hv
    go_enter Tryz.func64, Tryz.ntmps64
    go_wp2_with fail
    refine (rvCheck_any v _).mono ?_
    rw [HCC.out]
    rintro e w2 ⟨rfl, b2⟩
    have HZ2 := Lib.hid (HZ0.out.below b2)
    have HB2 := Lib.hid (below_then HB0.out b2); clear b2
    go_wp2_with (refine wpList_store_row rfl 24 _ _ rfl (w.heap.size + 1) #[.int .u32 0, .int .u32 0, .int .u32 0, .int .u32 0, .int .u32 0, .int .u32 0, .int .u32 0, .int .u32 0] rfl rfl 24 _ HZ2.out (by kernel_rfl) rfl (by kernel_rfl) ?_)
    have hR : Blk (w2.setRow (w.heap.size + 1) #[.int .u32 0, .int .u32 0, .int .u32 0, .int .u32 0, .int .u32 0, .int .u32 0, .int .u32 0, .int .u32 0]) (w.heap.size + 1) #[.int .u32 0, .int .u32 0, .int .u32 0, .int .u32 0, .int .u32 0, .int .u32 0, .int .u32 0, .int .u32 0] 24 := setRow_heap _ _ _ _ _ _ HZ2.out
    have r0 : (w2.setRow (w.heap.size + 1) #[.int .u32 0, .int .u32 0, .int .u32 0, .int .u32 0, .int .u32 0, .int .u32 0, .int .u32 0, .int .u32 0]).cell? ⟨w.heap.size + 1, 0, none⟩ = some (.int .u32 0) := by rw [Blk.cell hR]; rfl
    have r1 : (w2.setRow (w.heap.size + 1) #[.int .u32 0, .int .u32 0, .int .u32 0, .int .u32 0, .int .u32 0, .int .u32 0, .int .u32 0, .int .u32 0]).cell? ⟨w.heap.size + 1, 1, none⟩ = some (.int .u32 0) := by rw [Blk.cell hR]; rfl
    have r2 : (w2.setRow (w.heap.size + 1) #[.int .u32 0, .int .u32 0, .int .u32 0, .int .u32 0, .int .u32 0, .int .u32 0, .int .u32 0, .int .u32 0]).cell? ⟨w.heap.size + 1, 2, none⟩ = some (.int .u32 0) := by rw [Blk.cell hR]; rfl
    have r3 : (w2.setRow (w.heap.size + 1) #[.int .u32 0, .int .u32 0, .int .u32 0, .int .u32 0, .int .u32 0, .int .u32 0, .int .u32 0, .int .u32 0]).cell? ⟨w.heap.size + 1, 3, none⟩ = some (.int .u32 0) := by rw [Blk.cell hR]; rfl
    have r4 : (w2.setRow (w.heap.size + 1) #[.int .u32 0, .int .u32 0, .int .u32 0, .int .u32 0, .int .u32 0, .int .u32 0, .int .u32 0, .int .u32 0]).cell? ⟨w.heap.size + 1, 4, none⟩ = some (.int .u32 0) := by rw [Blk.cell hR]; rfl
    have r5 : (w2.setRow (w.heap.size + 1) #[.int .u32 0, .int .u32 0, .int .u32 0, .int .u32 0, .int .u32 0, .int .u32 0, .int .u32 0, .int .u32 0]).cell? ⟨w.heap.size + 1, 5, none⟩ = some (.int .u32 0) := by rw [Blk.cell hR]; rfl
    have r6 : (w2.setRow (w.heap.size + 1) #[.int .u32 0, .int .u32 0, .int .u32 0, .int .u32 0, .int .u32 0, .int .u32 0, .int .u32 0, .int .u32 0]).cell? ⟨w.heap.size + 1, 6, none⟩ = some (.int .u32 0) := by rw [Blk.cell hR]; rfl
    have r7 : (w2.setRow (w.heap.size + 1) #[.int .u32 0, .int .u32 0, .int .u32 0, .int .u32 0, .int .u32 0, .int .u32 0, .int .u32 0, .int .u32 0]).cell? ⟨w.heap.size + 1, 7, none⟩ = some (.int .u32 0) := by rw [Blk.cell hR]; rfl
    refine bodyPost_ret (v := .tuple #[.agg #[.int .u32 0, .int .u32 0, .int .u32 0, .int .u32 0, .int .u32 0, .int .u32 0, .int .u32 0, .int .u32 0], .slice none 0 0, .int .i64 c]) ?_ rfl ⟨none, 0, by rw [HFV.out, HFS.out, HOR.out]; rfl, by rw [HFS.out]; exact Ids.nil _, below_setRow HB2.out (by omega) _⟩
    simp [results, Tryz.results64, go_sem, r0, r1, r2, r3, r4, r5, r6, r7]
end Go.Proofs.YthbdjgebpjffgaaGreatDoor
