/-
  What package dots' least answers of two lists, of which one may be empty.
  Conditions: none.
-/
import Derived.Test.YthbdjgebpjffgaaDotM
set_option linter.unusedVariables false
set_option linter.unusedSimpArgs false
namespace Go.Proofs.Ythbdjgebpjffgaa
open Go.RowKit Go.Shelf Go.Lib Go.Sort

theorem at_zero {w : World} {al : Option Addr} {len cap : Nat} {o q : Int} {A : List (Int × Int)} (h : Ids w al len cap ((o, q) :: A)) : ∃ b off, al = some ⟨b, off, none⟩ ∧ w.cell? ⟨b, off, none⟩ = some (.int .i64 o) ∧ w.cell? ⟨b, off + 1, none⟩ = some (.int .u32 q) ∧ 0 < len := by
  have hl := h.ln
  have h0 : 0 < len := by rw [hl]; simp
  obtain ⟨b, off, o', q', e, hx, i0, i1⟩ := h.nth 0 h0
  simp at hx
  obtain ⟨rfl, rfl⟩ := hx
  exact ⟨b, off, e, by simpa using i0, by simpa using i1, h0⟩
theorem len_nil {w : World} {al : Option Addr} {len cap : Nat} (h : Ids w al len cap []) : len = 0 := h.ln
/-- Both heads, and the call's own block. -/
structure LS (w0 : World) (b p b' p' : Nat) (o q x y : Int) (w : World) : Prop where
  bel : Below w0.heap.size w0 w
  z : Blk w w0.heap.size #[.int .i64 0, .int .u32 0] 29
  i0 : w0.cell? ⟨b, p, none⟩ = some (.int .i64 o)
  i1 : w0.cell? ⟨b, p + 1, none⟩ = some (.int .u32 q)
  j0 : w0.cell? ⟨b', p', none⟩ = some (.int .i64 x)
  j1 : w0.cell? ⟨b', p' + 1, none⟩ = some (.int .u32 y)
section
variable {w0 w w' : World} {b p b' p' : Nat} {o q x y : Int}
theorem LS.next (h : LS w0 b p b' p' o q x y w) (k : Below w.heap.size w w') : LS w0 b p b' p' o q x y w' := ⟨below_then h.bel k, h.z.below k, h.i0, h.i1, h.j0, h.j1⟩
theorem LS.drew (h : LS w0 b p b' p' o q x y w) : LS w0 b p b' p' o q x y w.drew := h.next (Below.refl _ _).drew
theorem LS.all (h : LS w0 b p b' p' o q x y w) : w.cell? ⟨b, p, none⟩ = some (.int .i64 o) ∧ w.cell? ⟨b, p + 1, none⟩ = some (.int .u32 q) ∧ w.cell? ⟨b', p', none⟩ = some (.int .i64 x) ∧ w.cell? ⟨b', p' + 1, none⟩ = some (.int .u32 y) ∧ LS w0 b p b' p' o q x y w :=
  ⟨(h.bel.cell (p := ⟨b, p, none⟩) (cellLt h.i0)).trans h.i0, (h.bel.cell (p := ⟨b, p + 1, none⟩) (cellLt h.i1)).trans h.i1, (h.bel.cell (p := ⟨b', p', none⟩) (cellLt h.j0)).trans h.j0, (h.bel.cell (p := ⟨b', p' + 1, none⟩) (cellLt h.j1)).trans h.j1, h⟩
theorem LS.held {A B C D : Prop} (h : A ∧ B ∧ C ∧ D ∧ LS w0 b p b' p' o q x y w) : LS w0 b p b' p' o q x y w := h.2.2.2.2
theorem compare_LS (a c a' c' : Int) (r : Int) (hr : cmpI a c a' c' = r) (h : LS w0 b p b' p' o q x y w) :
    Calls Try.prog 61 #[.agg #[.int .i64 a, .int .u32 c], .agg #[.int .i64 a', .int .u32 c']] w fun e w' => e = .returned (.int .i64 r) ∧ LS w0 b p b' p' o q x y w' :=
  (compare_any a c a' c' w).mono fun _ _ ⟨h1, h2⟩ => ⟨hr ▸ h1, h.next h2⟩
end

end Go.Proofs.Ythbdjgebpjffgaa
