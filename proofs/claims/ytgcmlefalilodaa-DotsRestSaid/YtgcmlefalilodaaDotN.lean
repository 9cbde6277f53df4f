/-
  What package dots' least answers of two lists, of which one may be empty.
  Conditions: none.
-/
import Derived.Test.YtgcmlefalilodaaDotM
namespace Go.Proofs.Ytgcmlefalilodaa
open Go.RowKit Go.Shelf Go.Lib Go.Sort

theorem at_zero {w : World} {al : Option Addr} {len cap : Nat} {o q : Int} {A : List (Int × Int)} (h : Ids w al len cap ((o, q) :: A)) : ∃ b off, al = some ⟨b, off, none⟩ ∧ w.cell? ⟨b, off, none⟩ = some (.int .i64 o) ∧ w.cell? ⟨b, off + 1, none⟩ = some (.int .u32 q) ∧ 0 < len := by
  have hl := h.ln
  have h0 : 0 < len := by rw [hl]; simp
  obtain ⟨b, off, o', q', e, hx, i0, i1⟩ := h.nth 0 h0
  simp at hx
  obtain ⟨rfl, rfl⟩ := hx
  exact ⟨b, off, e, by simpa using i0, by simpa using i1, h0⟩
theorem len_nil {w : World} {al : Option Addr} {len cap : Nat} (h : Ids w al len cap []) : len = 0 := h.ln
/-- The head of two lists gone through: its name and its lists. -/
def LeastPost (w : World) (al al' : Option Addr) (len cap len' cap' : Nat) (p : (Int × Int) × Nat) : Prop :=
  Calls Try.prog 66 #[.slice al len cap, .slice al' len' cap'] w fun e w' => e = .returned (.tuple #[.agg #[.int .i64 p.1.1, .int .u32 p.1.2], .int .u8 (p.2 : Int)]) ∧ Below w.heap.size w w'

/-- Both heads, and the call's own block. -/
structure LS (w0 : World) (b p b' p' : Nat) (o q x y : Int) (w : World) : Prop where
  bel : Below w0.heap.size w0 w
  z : Blk w w0.heap.size #[.int .i64 0, .int .u32 0] 25
  i0 : w0.cell? ⟨b, p, none⟩ = some (.int .i64 o)
  i1 : w0.cell? ⟨b, p + 1, none⟩ = some (.int .u32 q)
  j0 : w0.cell? ⟨b', p', none⟩ = some (.int .i64 x)
  j1 : w0.cell? ⟨b', p' + 1, none⟩ = some (.int .u32 y)
section
variable {w0 w w' : World} {b p b' p' : Nat} {o q x y : Int}
theorem LS.next (h : LS w0 b p b' p' o q x y w) (k : Below w.heap.size w w') : LS w0 b p b' p' o q x y w' := ⟨below_then h.bel k, h.z.below k, h.i0, h.i1, h.j0, h.j1⟩
theorem LS.drew (h : LS w0 b p b' p' o q x y w) : LS w0 b p b' p' o q x y w.drew := h.next (Below.refl _ _).drew
theorem LS.all (h : LS w0 b p b' p' o q x y w) : w.cell? ⟨b, p, none⟩ = some (.int .i64 o) ∧ w.cell? ⟨b, p + 1, none⟩ = some (.int .u32 q) ∧ w.cell? ⟨b', p', none⟩ = some (.int .i64 x) ∧ w.cell? ⟨b', p' + 1, none⟩ = some (.int .u32 y) ∧ LS w0 b p b' p' o q x y w :=
  ⟨(h.bel.cell (p := ⟨b, p, none⟩) (cellLt h.i0)).trans h.i0, (h.bel.cell (p := ⟨b, p + 1, none⟩) (cellLt h.i1)).trans h.i1, (h.bel.cell (p := ⟨b', p', none⟩) (cellLt h.j0)).trans h.j0, (h.bel.cell (p := ⟨b', p' + 1, none⟩) (cellLt h.j1)).trans h.j1, h⟩
theorem LS.held {A B C D : Prop} (h : A ∧ B ∧ C ∧ D ∧ LS w0 b p b' p' o q x y w) : LS w0 b p b' p' o q x y w := h.2.2.2.2
theorem compare_LS (a c a' c' : Int) (r : Int) (hr : cmpI a c a' c' = r) (h : LS w0 b p b' p' o q x y w) :
    Calls Try.prog 37 #[.agg #[.int .i64 a, .int .u32 c], .agg #[.int .i64 a', .int .u32 c']] w fun e w' => e = .returned (.int .i64 r) ∧ LS w0 b p b' p' o q x y w' :=
  (compare_any a c a' c' w).mono fun _ _ ⟨h1, h2⟩ => ⟨hr ▸ h1, h.next h2⟩
end

set_option maxHeartbeats 1000000 in
theorem least_a (al al' : Option Addr) (len cap len' cap' : Nat) (o q : Int) (A : List (Int × Int)) (w : World) (h : Ids w al len cap ((o, q) :: A)) (h' : Ids w al' len' cap' []) : LeastPost w al al' len cap len' cap' ((o, q), 1) := by
  unfold LeastPost
  obtain rfl := len_nil h'
  obtain ⟨b, off, rfl, i0, i1, hl⟩ := at_zero h
  have hcap := h.bd
  have hfit := h.fit
  have hlt := cellLt i0
  clear h h'
  go_enter Try.func66, Try.ntmps66
  go_wp2
  refine bodyPost_ret (v := .tuple #[.agg #[.int .i64 o, .int .u32 q], .int .u8 1]) ?_ rfl ⟨rfl, ?_⟩
  · have r0 : (w.alloc (.cells #[.int .i64 o, .int .u32 q] 25)).cell? ⟨w.heap.size, 0, none⟩ = some (.int .i64 o) := by rw [Blk.cell (Blk.new _ _ _)]; rfl
    have r1 : (w.alloc (.cells #[.int .i64 o, .int .u32 q] 25)).cell? ⟨w.heap.size, 1, none⟩ = some (.int .u32 q) := by rw [Blk.cell (Blk.new _ _ _)]; rfl
    simp [results, Try.results66, go_sem, r0, r1]
  · exact (Below.refl w.heap.size w).alloc (Nat.le_refl _) _
set_option maxHeartbeats 1000000 in
theorem least_b (al al' : Option Addr) (len cap len' cap' : Nat) (o q : Int) (A : List (Int × Int)) (w : World) (h : Ids w al' len' cap' ((o, q) :: A)) (h' : Ids w al len cap []) : LeastPost w al al' len cap len' cap' ((o, q), 2) := by
  unfold LeastPost
  obtain rfl := len_nil h'
  obtain ⟨b, off, rfl, i0, i1, hl⟩ := at_zero h
  have hcap := h.bd
  have hfit := h.fit
  have hlt := cellLt i0
  have hn2 : ¬ len' = 0 := by omega
  clear h h'
  go_enter Try.func66, Try.ntmps66
  go_wp2
  refine bodyPost_ret (v := .tuple #[.agg #[.int .i64 o, .int .u32 q], .int .u8 2]) ?_ rfl ⟨rfl, ?_⟩
  · have r0 : (w.alloc (.cells #[.int .i64 o, .int .u32 q] 25)).cell? ⟨w.heap.size, 0, none⟩ = some (.int .i64 o) := by rw [Blk.cell (Blk.new _ _ _)]; rfl
    have r1 : (w.alloc (.cells #[.int .i64 o, .int .u32 q] 25)).cell? ⟨w.heap.size, 1, none⟩ = some (.int .u32 q) := by rw [Blk.cell (Blk.new _ _ _)]; rfl
    simp [results, Try.results66, go_sem, r0, r1]
  · exact (Below.refl w.heap.size w).alloc (Nat.le_refl _) _
set_option maxHeartbeats 1000000 in
theorem least_lt (al al' : Option Addr) (len cap len' cap' : Nat) (o q x y : Int) (A A' : List (Int × Int)) (w : World) (h : Ids w al len cap ((o, q) :: A)) (h' : Ids w al' len' cap' ((x, y) :: A')) (hc : cf (o, q) (x, y) < 0) : LeastPost w al al' len cap len' cap' ((o, q), 1) := by
  unfold LeastPost
  obtain ⟨b, off, rfl, i0, i1, hl⟩ := at_zero h
  obtain ⟨b', off', rfl, j0, j1, hl'⟩ := at_zero h'
  have hcap := h.bd
  have hfit := h.fit
  have hcap' := h'.bd
  have hfit' := h'.fit
  have hn1 : ¬ len = 0 := by omega
  have hn2 : ¬ len' = 0 := by omega
  have hS : LS w b off b' off' o q x y (w.alloc (.cells #[.int .i64 0, .int .u32 0] 25)) := ⟨(Below.refl w.heap.size w).alloc (Nat.le_refl _) _, Blk.new _ _ _, i0, i1, j0, j1⟩
  obtain ⟨r, hr⟩ : ∃ r, cmpI o q x y = r := ⟨_, rfl⟩
  have hcr : r < 0 := by unfold cf at hc; simp only at hc; omega
  have HR := Lib.hid hr
  have HS := Lib.hid hS
  clear h h' hr hc hS
  go_enter Try.func66, Try.ntmps66
  go_wp2_with fail
  have hS := HS.out
  go_region_held3 (fun w' => w'.cell? ⟨b, off, none⟩ = some (.int .i64 o) ∧ w'.cell? ⟨b, off + 1, none⟩ = some (.int .u32 q) ∧ w'.cell? ⟨b', off', none⟩ = some (.int .i64 x) ∧ w'.cell? ⟨b', off' + 1, none⟩ = some (.int .u32 y) ∧ LS w b off b' off' o q x y w') (first | exact LS.all (by assumption) | exact LS.all (LS.drew (by assumption)) | exact LS.all (LS.drew (LS.held (by assumption)))) ((go_at_call 37; refine (compare_LS (w0 := w) (b := b) (p := off) (b' := b') (p' := off') (o := o) (q := q) (x := x) (y := y) _ _ _ _ r HR.out (by first | assumption | exact LS.held (by assumption))).mono ?_; rintro e w2 ⟨rfl, hJ⟩))
  all_goals
    obtain ⟨c0, c1, d0, d1, _⟩ := LS.all hJ
    have z0 : w2.cell? ⟨w.heap.size, 0, none⟩ = some (.int .i64 0) := by rw [Blk.cell hJ.z]; rfl
    have z1 : w2.cell? ⟨w.heap.size, 1, none⟩ = some (.int .u32 0) := by rw [Blk.cell hJ.z]; rfl
    have f0 := Blk.free hJ.z 0
    have f1 := Blk.free hJ.z 1
    have HJ := Lib.hid hJ
    clear hJ
    go_wp2
    have hB := ((HJ.out.z.set 0 (.int .i64 o)).set 1 (.int .u32 q))
    have r0 : ((w2.setCell ⟨w.heap.size, 0, none⟩ (.int .i64 o)).setCell ⟨w.heap.size, 1, none⟩ (.int .u32 q)).cell? ⟨w.heap.size, 0, none⟩ = some (.int .i64 o) := by rw [Blk.cell hB]; rfl
    have r1 : ((w2.setCell ⟨w.heap.size, 0, none⟩ (.int .i64 o)).setCell ⟨w.heap.size, 1, none⟩ (.int .u32 q)).cell? ⟨w.heap.size, 1, none⟩ = some (.int .u32 q) := by rw [Blk.cell hB]; rfl
    refine bodyPost_ret (v := .tuple #[.agg #[.int .i64 o, .int .u32 q], .int .u8 1]) ?_ rfl ⟨rfl, ?_⟩
    · simp [results, Try.results66, go_sem, r0, r1]
    · exact (HJ.out.bel.setCell (p := ⟨w.heap.size, 0, none⟩) (Nat.le_refl _) _).setCell (p := ⟨w.heap.size, 1, none⟩) (Nat.le_refl _) _
set_option maxHeartbeats 1000000 in
theorem least_gt (al al' : Option Addr) (len cap len' cap' : Nat) (o q x y : Int) (A A' : List (Int × Int)) (w : World) (h : Ids w al len cap ((o, q) :: A)) (h' : Ids w al' len' cap' ((x, y) :: A')) (hc : 0 < cf (o, q) (x, y)) : LeastPost w al al' len cap len' cap' ((x, y), 2) := by
  unfold LeastPost
  obtain ⟨b, off, rfl, i0, i1, hl⟩ := at_zero h
  obtain ⟨b', off', rfl, j0, j1, hl'⟩ := at_zero h'
  have hcap := h.bd
  have hfit := h.fit
  have hcap' := h'.bd
  have hfit' := h'.fit
  have hn1 : ¬ len = 0 := by omega
  have hn2 : ¬ len' = 0 := by omega
  have hS : LS w b off b' off' o q x y (w.alloc (.cells #[.int .i64 0, .int .u32 0] 25)) := ⟨(Below.refl w.heap.size w).alloc (Nat.le_refl _) _, Blk.new _ _ _, i0, i1, j0, j1⟩
  obtain ⟨r, hr⟩ : ∃ r, cmpI o q x y = r := ⟨_, rfl⟩
  have hcr : ¬ r < 0 := by unfold cf at hc; simp only at hc; omega
  have hcr2 : 0 < r := by unfold cf at hc; simp only at hc; omega
  have HR := Lib.hid hr
  have HS := Lib.hid hS
  clear h h' hr hc hS
  go_enter Try.func66, Try.ntmps66
  go_wp2_with fail
  have hS := HS.out
  go_region_held3 (fun w' => w'.cell? ⟨b, off, none⟩ = some (.int .i64 o) ∧ w'.cell? ⟨b, off + 1, none⟩ = some (.int .u32 q) ∧ w'.cell? ⟨b', off', none⟩ = some (.int .i64 x) ∧ w'.cell? ⟨b', off' + 1, none⟩ = some (.int .u32 y) ∧ LS w b off b' off' o q x y w') (first | exact LS.all (by assumption) | exact LS.all (LS.drew (by assumption)) | exact LS.all (LS.drew (LS.held (by assumption)))) ((go_at_call 37; refine (compare_LS (w0 := w) (b := b) (p := off) (b' := b') (p' := off') (o := o) (q := q) (x := x) (y := y) _ _ _ _ r HR.out (by first | assumption | exact LS.held (by assumption))).mono ?_; rintro e w2 ⟨rfl, hJ⟩))
  all_goals
    obtain ⟨c0, c1, d0, d1, _⟩ := LS.all hJ
    have z0 : w2.cell? ⟨w.heap.size, 0, none⟩ = some (.int .i64 0) := by rw [Blk.cell hJ.z]; rfl
    have z1 : w2.cell? ⟨w.heap.size, 1, none⟩ = some (.int .u32 0) := by rw [Blk.cell hJ.z]; rfl
    have f0 := Blk.free hJ.z 0
    have f1 := Blk.free hJ.z 1
    have HJ := Lib.hid hJ
    clear hJ
    go_wp2
    have hB := ((HJ.out.z.set 0 (.int .i64 x)).set 1 (.int .u32 y))
    have r0 : ((w2.setCell ⟨w.heap.size, 0, none⟩ (.int .i64 x)).setCell ⟨w.heap.size, 1, none⟩ (.int .u32 y)).cell? ⟨w.heap.size, 0, none⟩ = some (.int .i64 x) := by rw [Blk.cell hB]; rfl
    have r1 : ((w2.setCell ⟨w.heap.size, 0, none⟩ (.int .i64 x)).setCell ⟨w.heap.size, 1, none⟩ (.int .u32 y)).cell? ⟨w.heap.size, 1, none⟩ = some (.int .u32 y) := by rw [Blk.cell hB]; rfl
    refine bodyPost_ret (v := .tuple #[.agg #[.int .i64 x, .int .u32 y], .int .u8 2]) ?_ rfl ⟨rfl, ?_⟩
    · simp [results, Try.results66, go_sem, r0, r1]
    · exact (HJ.out.bel.setCell (p := ⟨w.heap.size, 0, none⟩) (Nat.le_refl _) _).setCell (p := ⟨w.heap.size, 1, none⟩) (Nat.le_refl _) _
set_option maxHeartbeats 1000000 in
theorem least_eq (al al' : Option Addr) (len cap len' cap' : Nat) (o q x y : Int) (A A' : List (Int × Int)) (w : World) (h : Ids w al len cap ((o, q) :: A)) (h' : Ids w al' len' cap' ((x, y) :: A')) (hc : cf (o, q) (x, y) = 0) : LeastPost w al al' len cap len' cap' ((o, q), 3) := by
  unfold LeastPost
  obtain ⟨b, off, rfl, i0, i1, hl⟩ := at_zero h
  obtain ⟨b', off', rfl, j0, j1, hl'⟩ := at_zero h'
  have hcap := h.bd
  have hfit := h.fit
  have hcap' := h'.bd
  have hfit' := h'.fit
  have hn1 : ¬ len = 0 := by omega
  have hn2 : ¬ len' = 0 := by omega
  have hS : LS w b off b' off' o q x y (w.alloc (.cells #[.int .i64 0, .int .u32 0] 25)) := ⟨(Below.refl w.heap.size w).alloc (Nat.le_refl _) _, Blk.new _ _ _, i0, i1, j0, j1⟩
  obtain ⟨r, hr⟩ : ∃ r, cmpI o q x y = r := ⟨_, rfl⟩
  have hcr : ¬ r < 0 := by unfold cf at hc; simp only at hc; omega
  have hcr2 : ¬ 0 < r := by unfold cf at hc; simp only at hc; omega
  have HR := Lib.hid hr
  have HS := Lib.hid hS
  clear h h' hr hc hS
  go_enter Try.func66, Try.ntmps66
  go_wp2_with fail
  have hS := HS.out
  go_region_held3 (fun w' => w'.cell? ⟨b, off, none⟩ = some (.int .i64 o) ∧ w'.cell? ⟨b, off + 1, none⟩ = some (.int .u32 q) ∧ w'.cell? ⟨b', off', none⟩ = some (.int .i64 x) ∧ w'.cell? ⟨b', off' + 1, none⟩ = some (.int .u32 y) ∧ LS w b off b' off' o q x y w') (first | exact LS.all (by assumption) | exact LS.all (LS.drew (by assumption)) | exact LS.all (LS.drew (LS.held (by assumption)))) ((go_at_call 37; refine (compare_LS (w0 := w) (b := b) (p := off) (b' := b') (p' := off') (o := o) (q := q) (x := x) (y := y) _ _ _ _ r HR.out (by first | assumption | exact LS.held (by assumption))).mono ?_; rintro e w2 ⟨rfl, hJ⟩))
  all_goals
    obtain ⟨c0, c1, d0, d1, _⟩ := LS.all hJ
    have z0 : w2.cell? ⟨w.heap.size, 0, none⟩ = some (.int .i64 0) := by rw [Blk.cell hJ.z]; rfl
    have z1 : w2.cell? ⟨w.heap.size, 1, none⟩ = some (.int .u32 0) := by rw [Blk.cell hJ.z]; rfl
    have f0 := Blk.free hJ.z 0
    have f1 := Blk.free hJ.z 1
    have HJ := Lib.hid hJ
    clear hJ
    go_wp2
    have hB := ((HJ.out.z.set 0 (.int .i64 o)).set 1 (.int .u32 q))
    have r0 : ((w2.setCell ⟨w.heap.size, 0, none⟩ (.int .i64 o)).setCell ⟨w.heap.size, 1, none⟩ (.int .u32 q)).cell? ⟨w.heap.size, 0, none⟩ = some (.int .i64 o) := by rw [Blk.cell hB]; rfl
    have r1 : ((w2.setCell ⟨w.heap.size, 0, none⟩ (.int .i64 o)).setCell ⟨w.heap.size, 1, none⟩ (.int .u32 q)).cell? ⟨w.heap.size, 1, none⟩ = some (.int .u32 q) := by rw [Blk.cell hB]; rfl
    refine bodyPost_ret (v := .tuple #[.agg #[.int .i64 o, .int .u32 q], .int .u8 3]) ?_ rfl ⟨rfl, ?_⟩
    · simp [results, Try.results66, go_sem, r0, r1]
    · exact (HJ.out.bel.setCell (p := ⟨w.heap.size, 0, none⟩) (Nat.le_refl _) _).setCell (p := ⟨w.heap.size, 1, none⟩) (Nat.le_refl _) _
end Go.Proofs.Ytgcmlefalilodaa
