/-
  The walk of the law DotsTwo.
  Conditions: none.
-/
import Derived.Test.YthbdjgebpjffgaaGreatDoorDotK
import Derived.Test.YthbdjgebpjffgaaGreatDoorDotS
import Derived.Test.YthbdjgebpjffgaaGreatDoorVecG
set_option linter.unusedVariables false
set_option linter.unusedSimpArgs false
namespace Go.Proofs.YthbdjgebpjffgaaGreatDoor
open Go.RowKit Go.Shelf Go.Lib Go.Sort

/-- A slice and the list that it holds. -/
abbrev Sl := Option Addr × Nat × Nat × List (Int × Int)
/-- What the laws hold: a vector in its block; some slices with their lists. -/
structure ST (w0 : World) (v : Nat → Int) (Rs : List Sl) (w : World) : Prop where
  bel : Below w0.heap.size w0 w
  bv : Blk w w0.heap.size #[.int .u32 (v 0), .int .u32 (v 1), .int .u32 (v 2), .int .u32 (v 3), .int .u32 (v 4), .int .u32 (v 5), .int .u32 (v 6), .int .u32 (v 7)] 24
  rs : ∀ r, r ∈ Rs → Ids w r.1 r.2.1 r.2.2.1 r.2.2.2
section
variable {w0 w w' : World} {v : Nat → Int} {Rs : List Sl}
theorem ST.next (h : ST w0 v Rs w) (k : Below w.heap.size w w') : ST w0 v Rs w' := ⟨below_then h.bel k, h.bv.below k, fun r hr => (h.rs r hr).below k⟩
theorem ST.drew (h : ST w0 v Rs w) : ST w0 v Rs w.drew := h.next (Below.refl _ _).drew
theorem ST.add (h : ST w0 v Rs w) {al : Option Addr} {len cap : Nat} {L : List (Int × Int)} (k : Ids w al len cap L) : ST w0 v ((al, len, cap, L) :: Rs) w := ⟨h.bel, h.bv, fun r hr => by
  rcases List.mem_cons.1 hr with rfl | hr
  · exact k
  · exact h.rs r hr⟩
theorem ST.get (h : ST w0 v Rs w) {al : Option Addr} {len cap : Nat} {L : List (Int × Int)} (hr : (al, len, cap, L) ∈ Rs) : Ids w al len cap L := h.rs _ hr
theorem ST.all (h : ST w0 v Rs w) : w.cell? ⟨w0.heap.size, 0, none⟩ = some (.int .u32 (v 0)) ∧ w.cell? ⟨w0.heap.size, 1, none⟩ = some (.int .u32 (v 1)) ∧ w.cell? ⟨w0.heap.size, 2, none⟩ = some (.int .u32 (v 2)) ∧ w.cell? ⟨w0.heap.size, 3, none⟩ = some (.int .u32 (v 3)) ∧ w.cell? ⟨w0.heap.size, 4, none⟩ = some (.int .u32 (v 4)) ∧ w.cell? ⟨w0.heap.size, 5, none⟩ = some (.int .u32 (v 5)) ∧ w.cell? ⟨w0.heap.size, 6, none⟩ = some (.int .u32 (v 6)) ∧ w.cell? ⟨w0.heap.size, 7, none⟩ = some (.int .u32 (v 7)) ∧ ST w0 v Rs w :=
  ⟨vec_cell h.bv 0 (by omega), vec_cell h.bv 1 (by omega), vec_cell h.bv 2 (by omega), vec_cell h.bv 3 (by omega), vec_cell h.bv 4 (by omega), vec_cell h.bv 5 (by omega), vec_cell h.bv 6 (by omega), vec_cell h.bv 7 (by omega), h⟩
theorem ST.held {c0 c1 c2 c3 c4 c5 c6 c7 : Prop} (h : c0 ∧ c1 ∧ c2 ∧ c3 ∧ c4 ∧ c5 ∧ c6 ∧ c7 ∧ ST w0 v Rs w) : ST w0 v Rs w := h.2.2.2.2.2.2.2.2
theorem beyond_ST (al : Option Addr) (len cap : Nat) (L : List (Int × Int)) (hI : Ids w al len cap L) (h : ST w0 v Rs w) :
    Calls Tryz.prog 55 #[.slice al len cap, .agg #[.int .u32 (v 0), .int .u32 (v 1), .int .u32 (v 2), .int .u32 (v 3), .int .u32 (v 4), .int .u32 (v 5), .int .u32 (v 6), .int .u32 (v 7)]] w fun e w' => ∃ al2 cap2, e = .returned (.tuple #[.slice al2 (byR v L).length cap2, .int .i64 (chkS L)]) ∧ Ids w' al2 (byR v L).length cap2 (byR v L) ∧ ST w0 v Rs w' :=
  (beyond_any al len cap L v w hI).mono fun _ _ ⟨a, c, h1, h2, h3⟩ => ⟨a, c, h1, h2, h.next h3⟩
end

end Go.Proofs.YthbdjgebpjffgaaGreatDoor
