/-
  What the law DotsRest holds: vectors in their blocks, a name, slices with their lists; kept whatever is made or put into a new block.
  Conditions: none.
-/
import Derived.Test.YtgcmlefalilodaaDtE
import Derived.Test.YtgcmlefalilodaaDtA
import Derived.Test.YtgcmlefalilodaaDotU
import Derived.Deep.CutRange
import Derived.Deep.DeepCutAuto
namespace Go.Proofs.Ytgcmlefalilodaa
open Go.RowKit Go.Shelf Go.Lib Go.Sort

/-- What a call leaves that only makes memory. -/
def Kept (W w' : World) : Prop := Below W.heap.size W w'
section
variable {W w' : World}
theorem Kept.cell (h : Kept W w') : ∀ b o, b < W.heap.size → w'.cell? ⟨b, o, none⟩ = W.cell? ⟨b, o, none⟩ := fun b o hb => Below.cell (p := ⟨b, o, none⟩) h hb
theorem Kept.free (h : Kept W w') : ∀ b o, b < W.heap.size → w'.frozen? ⟨b, o, none⟩ = W.frozen? ⟨b, o, none⟩ := fun b o hb => Below.frozen (p := ⟨b, o, none⟩) h hb
theorem Kept.lt (h : Kept W w') : ∀ k, k < W.heap.size → k < w'.heap.size := fun _ hk => Nat.lt_of_lt_of_le hk (Below.size h)
theorem Kept.blk {g : Nat} {cs : Array Value} {T : TypeId} (k : Kept W w') (h : Blk W g cs T) : Blk w' g cs T := Blk.below h k
theorem Blk.drew1 {g : Nat} {cs : Array Value} {T : TypeId} (h : Blk W g cs T) : Blk W.drew g cs T := h
theorem ids_drew {al : Option Addr} {len cap : Nat} {L : List (Int × Int)} (h : Ids W al len cap L) : Ids W.drew al len cap L := h.below (Below.refl _ _).drew
theorem ids_alloc {al : Option Addr} {len cap : Nat} {L : List (Int × Int)} (h : Ids W al len cap L) (x : Obj) : Ids (W.alloc x) al len cap L := h.below ((Below.refl _ _).alloc (Nat.le_refl _) x)
theorem Kept.ids {al : Option Addr} {len cap : Nat} {L : List (Int × Int)} (k : Kept W w') (h : Ids W al len cap L) : Ids w' al len cap L := h.below k
/-- A whole vector stored into a new block. -/
theorem set8_same {g : Nat} (u : Nat → Int) (h : Blk W g #[.int .u32 0, .int .u32 0, .int .u32 0, .int .u32 0, .int .u32 0, .int .u32 0, .int .u32 0, .int .u32 0] 35) : Blk ((((((((W.setCell ⟨g, 0, none⟩ (.int .u32 (u 0))).setCell ⟨g, 1, none⟩ (.int .u32 (u 1))).setCell ⟨g, 2, none⟩ (.int .u32 (u 2))).setCell ⟨g, 3, none⟩ (.int .u32 (u 3))).setCell ⟨g, 4, none⟩ (.int .u32 (u 4))).setCell ⟨g, 5, none⟩ (.int .u32 (u 5))).setCell ⟨g, 6, none⟩ (.int .u32 (u 6))).setCell ⟨g, 7, none⟩ (.int .u32 (u 7))) g #[.int .u32 (u 0), .int .u32 (u 1), .int .u32 (u 2), .int .u32 (u 3), .int .u32 (u 4), .int .u32 (u 5), .int .u32 (u 6), .int .u32 (u 7)] 35 := by
  have t := (((((((h.set 0 (.int .u32 (u 0))).set 1 (.int .u32 (u 1))).set 2 (.int .u32 (u 2))).set 3 (.int .u32 (u 3))).set 4 (.int .u32 (u 4))).set 5 (.int .u32 (u 5))).set 6 (.int .u32 (u 6))).set 7 (.int .u32 (u 7))
  simp only [List.setIfInBounds_toArray, List.set_cons_zero, List.set_cons_succ] at t
  exact t
theorem set8_far {g r : Nat} (u : Nat → Int) {cs : Array Value} {T : TypeId} (h : Blk W r cs T) (hr : r ≠ g) : Blk ((((((((W.setCell ⟨g, 0, none⟩ (.int .u32 (u 0))).setCell ⟨g, 1, none⟩ (.int .u32 (u 1))).setCell ⟨g, 2, none⟩ (.int .u32 (u 2))).setCell ⟨g, 3, none⟩ (.int .u32 (u 3))).setCell ⟨g, 4, none⟩ (.int .u32 (u 4))).setCell ⟨g, 5, none⟩ (.int .u32 (u 5))).setCell ⟨g, 6, none⟩ (.int .u32 (u 6))).setCell ⟨g, 7, none⟩ (.int .u32 (u 7))) r cs T := (((((((h.far hr 0 _).far hr 1 _).far hr 2 _).far hr 3 _).far hr 4 _).far hr 5 _).far hr 6 _).far hr 7 _
theorem cell8 {g b j : Nat} (u : Nat → Int) (hb : b ≠ g) : ((((((((W.setCell ⟨g, 0, none⟩ (.int .u32 (u 0))).setCell ⟨g, 1, none⟩ (.int .u32 (u 1))).setCell ⟨g, 2, none⟩ (.int .u32 (u 2))).setCell ⟨g, 3, none⟩ (.int .u32 (u 3))).setCell ⟨g, 4, none⟩ (.int .u32 (u 4))).setCell ⟨g, 5, none⟩ (.int .u32 (u 5))).setCell ⟨g, 6, none⟩ (.int .u32 (u 6))).setCell ⟨g, 7, none⟩ (.int .u32 (u 7))).cell? ⟨b, j, none⟩ = W.cell? ⟨b, j, none⟩ := by
  have hn : ∀ i, (⟨g, i, none⟩ : Addr) ≠ ⟨b, j, none⟩ := fun i e => hb (by cases e; rfl)
  rw [csOther (hn 7), csOther (hn 6), csOther (hn 5), csOther (hn 4), csOther (hn 3), csOther (hn 2), csOther (hn 1), csOther (hn 0)]
theorem below8 {g B : Nat} {w0 : World} (u : Nat → Int) (h : Below B w0 W) (hg : B ≤ g) : Below B w0 ((((((((W.setCell ⟨g, 0, none⟩ (.int .u32 (u 0))).setCell ⟨g, 1, none⟩ (.int .u32 (u 1))).setCell ⟨g, 2, none⟩ (.int .u32 (u 2))).setCell ⟨g, 3, none⟩ (.int .u32 (u 3))).setCell ⟨g, 4, none⟩ (.int .u32 (u 4))).setCell ⟨g, 5, none⟩ (.int .u32 (u 5))).setCell ⟨g, 6, none⟩ (.int .u32 (u 6))).setCell ⟨g, 7, none⟩ (.int .u32 (u 7))) := (((((((h.setCell (by simpa using hg) _).setCell (by simpa using hg) _).setCell (by simpa using hg) _).setCell (by simpa using hg) _).setCell (by simpa using hg) _).setCell (by simpa using hg) _).setCell (by simpa using hg) _).setCell (by simpa using hg) _
theorem int_ne {g b j : Nat} {o : Int} (hz : Blk W g #[.int .u32 0, .int .u32 0, .int .u32 0, .int .u32 0, .int .u32 0, .int .u32 0, .int .u32 0, .int .u32 0] 35) (h : W.cell? ⟨b, j, none⟩ = some (.int .i64 o)) : b ≠ g := by
  intro e
  subst e
  rw [Blk.cell hz] at h
  match j, h with
  | 0, h => simp at h
  | 1, h => simp at h
  | 2, h => simp at h
  | 3, h => simp at h
  | 4, h => simp at h
  | 5, h => simp at h
  | 6, h => simp at h
  | 7, h => simp at h
  | j + 8, h => simp at h
theorem ids_set8 {g : Nat} {al : Option Addr} {len cap : Nat} {L : List (Int × Int)} (u : Nat → Int) (h : Ids W al len cap L) (hz : Blk W g #[.int .u32 0, .int .u32 0, .int .u32 0, .int .u32 0, .int .u32 0, .int .u32 0, .int .u32 0, .int .u32 0] 35) : Ids ((((((((W.setCell ⟨g, 0, none⟩ (.int .u32 (u 0))).setCell ⟨g, 1, none⟩ (.int .u32 (u 1))).setCell ⟨g, 2, none⟩ (.int .u32 (u 2))).setCell ⟨g, 3, none⟩ (.int .u32 (u 3))).setCell ⟨g, 4, none⟩ (.int .u32 (u 4))).setCell ⟨g, 5, none⟩ (.int .u32 (u 5))).setCell ⟨g, 6, none⟩ (.int .u32 (u 6))).setCell ⟨g, 7, none⟩ (.int .u32 (u 7))) al len cap L :=
  ⟨h.ln, h.fit, h.bd, h.nn, fun k hk => by
    obtain ⟨b, off, o, q, h1, h2, h3, h4⟩ := h.nth k hk
    have hb := int_ne hz h3
    exact ⟨b, off, o, q, h1, h2, (cell8 u hb).trans h3, (cell8 u hb).trans h4⟩⟩
theorem blk_newS (o : Obj) (cs : Array Value) (T : TypeId) : Blk ((W.alloc o).alloc (.cells cs T)) (W.heap.size + 1) cs T := by
  have := Blk.new (W.alloc o) cs T
  simpa using this
end

/-- Vectors in their blocks, a name in its own, slices with their lists. -/
structure QS (w0 : World) (o q : Int) (Bs : List (Nat × (Nat → Int))) (Rs : List Sl) (w : World) : Prop where
  bel : Below w0.heap.size w0 w
  i : Blk w (w0.heap.size + 1) #[.int .i64 o, .int .u32 q] 25
  bs : ∀ x, x ∈ Bs → Blk w x.1 #[.int .u32 (x.2 0), .int .u32 (x.2 1), .int .u32 (x.2 2), .int .u32 (x.2 3), .int .u32 (x.2 4), .int .u32 (x.2 5), .int .u32 (x.2 6), .int .u32 (x.2 7)] 35
  rs : ∀ r, r ∈ Rs → Ids w r.1 r.2.1 r.2.2.1 r.2.2.2
section
variable {w0 W w' : World} {o q : Int} {Bs : List (Nat × (Nat → Int))} {Rs : List Sl}
theorem QS.next (h : QS w0 o q Bs Rs W) (k : Below W.heap.size W w') : QS w0 o q Bs Rs w' := ⟨below_then h.bel k, h.i.below k, fun x hx => (h.bs x hx).below k, fun r hr => (h.rs r hr).below k⟩
theorem QS.drew (h : QS w0 o q Bs Rs W) : QS w0 o q Bs Rs W.drew := h.next (Below.refl _ _).drew
theorem QS.alloc (h : QS w0 o q Bs Rs W) (x : Obj) : QS w0 o q Bs Rs (W.alloc x) := h.next ((Below.refl _ _).alloc (Nat.le_refl _) x)
theorem QS.lt (h : QS w0 o q Bs Rs W) : w0.heap.size + 1 < W.heap.size := h.i.lt
theorem QS.lt1 (h : QS w0 o q Bs Rs W) {g : Nat} {x : Nat → Int} (hb : (g, x) ∈ Bs) : g < W.heap.size := (h.bs _ hb).lt
theorem QS.get (h : QS w0 o q Bs Rs W) {al : Option Addr} {len cap : Nat} {L : List (Int × Int)} (hr : (al, len, cap, L) ∈ Rs) : Ids W al len cap L := h.rs _ hr
theorem QS.blk (h : QS w0 o q Bs Rs W) {g : Nat} {x : Nat → Int} (hb : (g, x) ∈ Bs) : Blk W g #[.int .u32 (x 0), .int .u32 (x 1), .int .u32 (x 2), .int .u32 (x 3), .int .u32 (x 4), .int .u32 (x 5), .int .u32 (x 6), .int .u32 (x 7)] 35 := h.bs _ hb
theorem QS.addR (h : QS w0 o q Bs Rs W) {al : Option Addr} {len cap : Nat} {L : List (Int × Int)} (k : Ids W al len cap L) : QS w0 o q Bs ((al, len, cap, L) :: Rs) W := ⟨h.bel, h.i, h.bs, fun r hr => by
  rcases List.mem_cons.1 hr with rfl | hr
  · exact k
  · exact h.rs r hr⟩
theorem QS.addB (h : QS w0 o q Bs Rs W) {g : Nat} {x : Nat → Int} (k : Blk W g #[.int .u32 (x 0), .int .u32 (x 1), .int .u32 (x 2), .int .u32 (x 3), .int .u32 (x 4), .int .u32 (x 5), .int .u32 (x 6), .int .u32 (x 7)] 35) : QS w0 o q ((g, x) :: Bs) Rs W := ⟨h.bel, h.i, fun b hb => by
  rcases List.mem_cons.1 hb with rfl | hb
  · exact k
  · exact h.bs b hb, h.rs⟩
theorem QS.set8 {g : Nat} (u : Nat → Int) (h : QS w0 o q Bs Rs W) (hz : Blk W g #[.int .u32 0, .int .u32 0, .int .u32 0, .int .u32 0, .int .u32 0, .int .u32 0, .int .u32 0, .int .u32 0] 35) (hg : w0.heap.size + 1 < g) (hf : ∀ x, x ∈ Bs → x.1 ≠ g) : QS w0 o q Bs Rs ((((((((W.setCell ⟨g, 0, none⟩ (.int .u32 (u 0))).setCell ⟨g, 1, none⟩ (.int .u32 (u 1))).setCell ⟨g, 2, none⟩ (.int .u32 (u 2))).setCell ⟨g, 3, none⟩ (.int .u32 (u 3))).setCell ⟨g, 4, none⟩ (.int .u32 (u 4))).setCell ⟨g, 5, none⟩ (.int .u32 (u 5))).setCell ⟨g, 6, none⟩ (.int .u32 (u 6))).setCell ⟨g, 7, none⟩ (.int .u32 (u 7))) :=
  ⟨below8 u h.bel (by omega), set8_far u h.i (by omega), fun x hx => set8_far u (h.bs x hx) (hf x hx), fun r hr => ids_set8 u (h.rs r hr) hz⟩
/-- A box made behind the calls, and one made ahead of them. -/
theorem QS.s1 (u : Nat → Int) (h : QS w0 o q Bs Rs W) : QS w0 o q ((W.heap.size, u) :: Bs) Rs (W.alloc (.cells #[.int .u32 (u 0), .int .u32 (u 1), .int .u32 (u 2), .int .u32 (u 3), .int .u32 (u 4), .int .u32 (u 5), .int .u32 (u 6), .int .u32 (u 7)] 35)) := (h.alloc _).addB (Blk.new _ _ _)
theorem QS.s2 {g : Nat} (u : Nat → Int) (h : QS w0 o q Bs Rs W) (hz : Blk W g #[.int .u32 0, .int .u32 0, .int .u32 0, .int .u32 0, .int .u32 0, .int .u32 0, .int .u32 0, .int .u32 0] 35) (hg : w0.heap.size + 1 < g) (hf : ∀ x, x ∈ Bs → x.1 ≠ g) : QS w0 o q ((g, u) :: Bs) Rs ((((((((W.setCell ⟨g, 0, none⟩ (.int .u32 (u 0))).setCell ⟨g, 1, none⟩ (.int .u32 (u 1))).setCell ⟨g, 2, none⟩ (.int .u32 (u 2))).setCell ⟨g, 3, none⟩ (.int .u32 (u 3))).setCell ⟨g, 4, none⟩ (.int .u32 (u 4))).setCell ⟨g, 5, none⟩ (.int .u32 (u 5))).setCell ⟨g, 6, none⟩ (.int .u32 (u 6))).setCell ⟨g, 7, none⟩ (.int .u32 (u 7))) := (h.set8 u hz hg hf).addB (set8_same u hz)
theorem QS.all1 {g : Nat} {x : Nat → Int} (hb : (g, x) ∈ Bs) (h : QS w0 o q Bs Rs W) : W.cell? ⟨g, 0, none⟩ = some (.int .u32 (x 0)) ∧ W.cell? ⟨g, 1, none⟩ = some (.int .u32 (x 1)) ∧ W.cell? ⟨g, 2, none⟩ = some (.int .u32 (x 2)) ∧ W.cell? ⟨g, 3, none⟩ = some (.int .u32 (x 3)) ∧ W.cell? ⟨g, 4, none⟩ = some (.int .u32 (x 4)) ∧ W.cell? ⟨g, 5, none⟩ = some (.int .u32 (x 5)) ∧ W.cell? ⟨g, 6, none⟩ = some (.int .u32 (x 6)) ∧ W.cell? ⟨g, 7, none⟩ = some (.int .u32 (x 7)) ∧ QS w0 o q Bs Rs W :=
  ⟨vec_cell (h.blk hb) 0 (by omega), vec_cell (h.blk hb) 1 (by omega), vec_cell (h.blk hb) 2 (by omega), vec_cell (h.blk hb) 3 (by omega), vec_cell (h.blk hb) 4 (by omega), vec_cell (h.blk hb) 5 (by omega), vec_cell (h.blk hb) 6 (by omega), vec_cell (h.blk hb) 7 (by omega), h⟩
theorem QS.held1 {c0 c1 c2 c3 c4 c5 c6 c7 : Prop} (h : c0 ∧ c1 ∧ c2 ∧ c3 ∧ c4 ∧ c5 ∧ c6 ∧ c7 ∧ QS w0 o q Bs Rs W) : QS w0 o q Bs Rs W := h.2.2.2.2.2.2.2.2
theorem QS.all2 {g g' : Nat} {x y : Nat → Int} (hb : (g, x) ∈ Bs) (hb' : (g', y) ∈ Bs) (h : QS w0 o q Bs Rs W) : W.cell? ⟨g, 0, none⟩ = some (.int .u32 (x 0)) ∧ W.cell? ⟨g, 1, none⟩ = some (.int .u32 (x 1)) ∧ W.cell? ⟨g, 2, none⟩ = some (.int .u32 (x 2)) ∧ W.cell? ⟨g, 3, none⟩ = some (.int .u32 (x 3)) ∧ W.cell? ⟨g, 4, none⟩ = some (.int .u32 (x 4)) ∧ W.cell? ⟨g, 5, none⟩ = some (.int .u32 (x 5)) ∧ W.cell? ⟨g, 6, none⟩ = some (.int .u32 (x 6)) ∧ W.cell? ⟨g, 7, none⟩ = some (.int .u32 (x 7)) ∧ W.cell? ⟨g', 0, none⟩ = some (.int .u32 (y 0)) ∧ W.cell? ⟨g', 1, none⟩ = some (.int .u32 (y 1)) ∧ W.cell? ⟨g', 2, none⟩ = some (.int .u32 (y 2)) ∧ W.cell? ⟨g', 3, none⟩ = some (.int .u32 (y 3)) ∧ W.cell? ⟨g', 4, none⟩ = some (.int .u32 (y 4)) ∧ W.cell? ⟨g', 5, none⟩ = some (.int .u32 (y 5)) ∧ W.cell? ⟨g', 6, none⟩ = some (.int .u32 (y 6)) ∧ W.cell? ⟨g', 7, none⟩ = some (.int .u32 (y 7)) ∧ W.cell? ⟨w0.heap.size + 1, 0, none⟩ = some (.int .i64 o) ∧ W.cell? ⟨w0.heap.size + 1, 1, none⟩ = some (.int .u32 q) ∧ QS w0 o q Bs Rs W :=
  ⟨vec_cell (h.blk hb) 0 (by omega), vec_cell (h.blk hb) 1 (by omega), vec_cell (h.blk hb) 2 (by omega), vec_cell (h.blk hb) 3 (by omega), vec_cell (h.blk hb) 4 (by omega), vec_cell (h.blk hb) 5 (by omega), vec_cell (h.blk hb) 6 (by omega), vec_cell (h.blk hb) 7 (by omega), vec_cell (h.blk hb') 0 (by omega), vec_cell (h.blk hb') 1 (by omega), vec_cell (h.blk hb') 2 (by omega), vec_cell (h.blk hb') 3 (by omega), vec_cell (h.blk hb') 4 (by omega), vec_cell (h.blk hb') 5 (by omega), vec_cell (h.blk hb') 6 (by omega), vec_cell (h.blk hb') 7 (by omega), by rw [Blk.cell h.i]; rfl, by rw [Blk.cell h.i]; rfl, h⟩
theorem QS.held2 {c0 c1 c2 c3 c4 c5 c6 c7 d0 d1 d2 d3 d4 d5 d6 d7 e0 e1 : Prop} (h : c0 ∧ c1 ∧ c2 ∧ c3 ∧ c4 ∧ c5 ∧ c6 ∧ c7 ∧ d0 ∧ d1 ∧ d2 ∧ d3 ∧ d4 ∧ d5 ∧ d6 ∧ d7 ∧ e0 ∧ e1 ∧ QS w0 o q Bs Rs W) : QS w0 o q Bs Rs W := h.2.2.2.2.2.2.2.2.2.2.2.2.2.2.2.2.2.2
theorem own_QS (al : Option Addr) (len cap : Nat) (L : List (Int × Int)) (hr : (al, len, cap, L) ∈ Rs) (hl : len ≤ 1048576) (h : QS w0 o q Bs Rs W) :
    Calls Try.prog 9 #[.slice al len cap] W fun e w' => ∃ al' cap', e = .returned (.slice al' len cap') ∧ Ids w' al' len cap' L ∧ QS w0 o q Bs Rs w' ∧ Kept W w' :=
  (own_any al len cap L W (h.get hr) hl).mono fun _ _ ⟨a, c, h1, h2, _, h4⟩ => ⟨a, c, h1, h2, h.next h4, h4⟩
theorem fold_QS (al : Option Addr) (len cap : Nat) (L : List (Int × Int)) (x u : Nat → Int) (R : List (Int × Int)) (n : Nat) (hx : InB x) (hf : foC x L = 0) (hu : foV x L = u) (hR : foS x L = R) (hn : R.length = n) (hI : Ids W al len cap L) (h : QS w0 o q Bs Rs W) :
    Calls Try.prog 25 #[.agg #[.int .u32 (x 0), .int .u32 (x 1), .int .u32 (x 2), .int .u32 (x 3), .int .u32 (x 4), .int .u32 (x 5), .int .u32 (x 6), .int .u32 (x 7)], .slice al len cap] W fun e w' => ∃ al2 cap2, e = .returned (.tuple #[.agg #[.int .u32 (u 0), .int .u32 (u 1), .int .u32 (u 2), .int .u32 (u 3), .int .u32 (u 4), .int .u32 (u 5), .int .u32 (u 6), .int .u32 (u 7)], .slice al2 n cap2, .int .i64 0]) ∧ Ids w' al2 n cap2 R ∧ QS w0 o q Bs Rs w' ∧ Kept W w' :=
  (fold_any al len cap L x W hI hx).mono fun _ _ ⟨a, c, h1, h2, h3⟩ => ⟨a, c, by rw [h1, hf, hu, hR, hn], by rw [hR, hn] at h2; exact h2, h.next h3, h3⟩
theorem vhas_QS (x : Nat → Int) (a b : Int) (t : Bool) (ht : hasV x a b = t) (h : QS w0 o q Bs Rs W) :
    Calls Try.prog 27 #[.agg #[.int .u32 (x 0), .int .u32 (x 1), .int .u32 (x 2), .int .u32 (x 3), .int .u32 (x 4), .int .u32 (x 5), .int .u32 (x 6), .int .u32 (x 7)], .agg #[.int .i64 a, .int .u32 b]] W fun e w' => e = .returned (.bool t) ∧ QS w0 o q Bs Rs w' :=
  (has_any x a b W).mono fun _ _ ⟨h1, h2⟩ => ⟨by rw [h1, ht], h.next h2⟩
theorem shas_QS (al : Option Addr) (len cap : Nat) (L : List (Int × Int)) (a b : Int) (t : Bool) (hr : (al, len, cap, L) ∈ Rs) (ht : hasS L (a, b) = t) (h : QS w0 o q Bs Rs W) :
    Calls Try.prog 15 #[.slice al len cap, .agg #[.int .i64 a, .int .u32 b]] W fun e w' => e = .returned (.bool t) ∧ QS w0 o q Bs Rs w' :=
  (has_list al len cap L a b W (h.get hr)).mono fun _ _ ⟨h1, h2⟩ => ⟨ht ▸ h1, h.next h2⟩
end

/-- .. within a round: the list's present name. -/
structure QK (w0 : World) (o q : Int) (Bs : List (Nat × (Nat → Int))) (Rs : List Sl) (b p : Nat) (x y : Int) (w : World) : Prop where
  s : QS w0 o q Bs Rs w
  c0 : w.cell? ⟨b, p, none⟩ = some (.int .i64 x)
  c1 : w.cell? ⟨b, p + 1, none⟩ = some (.int .u32 y)
section
variable {w0 W w' : World} {o q x y : Int} {Bs : List (Nat × (Nat → Int))} {Rs : List Sl} {b p : Nat}
theorem QK.next (h : QK w0 o q Bs Rs b p x y W) (k : Below W.heap.size W w') : QK w0 o q Bs Rs b p x y w' := ⟨h.s.next k, (k.cell (p := ⟨b, p, none⟩) (cellLt h.c0)).trans h.c0, (k.cell (p := ⟨b, p + 1, none⟩) (cellLt h.c1)).trans h.c1⟩
theorem QK.drew (h : QK w0 o q Bs Rs b p x y W) : QK w0 o q Bs Rs b p x y W.drew := h.next (Below.refl _ _).drew
theorem QK.alloc (h : QK w0 o q Bs Rs b p x y W) (a : Obj) : QK w0 o q Bs Rs b p x y (W.alloc a) := h.next ((Below.refl _ _).alloc (Nat.le_refl _) a)
theorem QK.set8 {g : Nat} (u : Nat → Int) (h : QK w0 o q Bs Rs b p x y W) (hz : Blk W g #[.int .u32 0, .int .u32 0, .int .u32 0, .int .u32 0, .int .u32 0, .int .u32 0, .int .u32 0, .int .u32 0] 35) (hg : w0.heap.size + 1 < g) (hf : ∀ x, x ∈ Bs → x.1 ≠ g) : QK w0 o q Bs Rs b p x y ((((((((W.setCell ⟨g, 0, none⟩ (.int .u32 (u 0))).setCell ⟨g, 1, none⟩ (.int .u32 (u 1))).setCell ⟨g, 2, none⟩ (.int .u32 (u 2))).setCell ⟨g, 3, none⟩ (.int .u32 (u 3))).setCell ⟨g, 4, none⟩ (.int .u32 (u 4))).setCell ⟨g, 5, none⟩ (.int .u32 (u 5))).setCell ⟨g, 6, none⟩ (.int .u32 (u 6))).setCell ⟨g, 7, none⟩ (.int .u32 (u 7))) :=
  ⟨h.s.set8 u hz hg hf, (cell8 u (int_ne hz h.c0)).trans h.c0, (cell8 u (int_ne hz h.c0)).trans h.c1⟩
theorem QK.all {g : Nat} {v : Nat → Int} (hb : (g, v) ∈ Bs) (h : QK w0 o q Bs Rs b p x y W) : W.cell? ⟨g, 0, none⟩ = some (.int .u32 (v 0)) ∧ W.cell? ⟨g, 1, none⟩ = some (.int .u32 (v 1)) ∧ W.cell? ⟨g, 2, none⟩ = some (.int .u32 (v 2)) ∧ W.cell? ⟨g, 3, none⟩ = some (.int .u32 (v 3)) ∧ W.cell? ⟨g, 4, none⟩ = some (.int .u32 (v 4)) ∧ W.cell? ⟨g, 5, none⟩ = some (.int .u32 (v 5)) ∧ W.cell? ⟨g, 6, none⟩ = some (.int .u32 (v 6)) ∧ W.cell? ⟨g, 7, none⟩ = some (.int .u32 (v 7)) ∧ W.cell? ⟨b, p, none⟩ = some (.int .i64 x) ∧ W.cell? ⟨b, p + 1, none⟩ = some (.int .u32 y) ∧ QK w0 o q Bs Rs b p x y W :=
  ⟨vec_cell (h.s.blk hb) 0 (by omega), vec_cell (h.s.blk hb) 1 (by omega), vec_cell (h.s.blk hb) 2 (by omega), vec_cell (h.s.blk hb) 3 (by omega), vec_cell (h.s.blk hb) 4 (by omega), vec_cell (h.s.blk hb) 5 (by omega), vec_cell (h.s.blk hb) 6 (by omega), vec_cell (h.s.blk hb) 7 (by omega), h.c0, h.c1, h⟩
theorem QK.held {c0 c1 c2 c3 c4 c5 c6 c7 d0 d1 : Prop} (h : c0 ∧ c1 ∧ c2 ∧ c3 ∧ c4 ∧ c5 ∧ c6 ∧ c7 ∧ d0 ∧ d1 ∧ QK w0 o q Bs Rs b p x y W) : QK w0 o q Bs Rs b p x y W := h.2.2.2.2.2.2.2.2.2.2
theorem take_QK (v u : Nat → Int) (a c m : Int) (hv : InB v) (ht : takeV v a c = (u, m)) (h : QK w0 o q Bs Rs b p x y W) :
    Calls Try.prog 28 #[.agg #[.int .u32 (v 0), .int .u32 (v 1), .int .u32 (v 2), .int .u32 (v 3), .int .u32 (v 4), .int .u32 (v 5), .int .u32 (v 6), .int .u32 (v 7)], .agg #[.int .i64 a, .int .u32 c]] W fun e w' => e = .returned (.tuple #[.agg #[.int .u32 (u 0), .int .u32 (u 1), .int .u32 (u 2), .int .u32 (u 3), .int .u32 (u 4), .int .u32 (u 5), .int .u32 (u 6), .int .u32 (u 7)], .int .i64 m]) ∧ QK w0 o q Bs Rs b p x y w' ∧ Kept W w' :=
  (take_any v a c W hv).mono fun _ _ ⟨h1, h2⟩ => ⟨by rw [h1, ht], h.next h2, h2⟩
end
end Go.Proofs.Ytgcmlefalilodaa
