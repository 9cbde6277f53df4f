/-
  A cut that came in by value.
  Conditions: none.
-/
import Derived.Test.YthbdjgebpjffgaaGreatDoorDotK
import Derived.Test.YthbdjgebpjffgaaGreatDoorVecG
set_option linter.unusedVariables false
set_option linter.unusedSimpArgs false
namespace Go.Proofs.YthbdjgebpjffgaaGreatDoor
open Go.ChangeShapes Go.WideShapes Go.ChangeAt Go.RowKit Go.Shelf Go.Lib Go.Sort Go.Deep

theorem cut9Cells : Tryz.prog.cellsOf 27 = 9 := by kernel_rfl
theorem slice1Cells : Tryz.prog.cellsOf 25 = 1 := by kernel_rfl
theorem array9 {α : Type} {cs : Array α} (h : cs.size = 9) : ∃ c0 c1 c2 c3 c4 c5 c6 c7 c8, cs = #[c0, c1, c2, c3, c4, c5, c6, c7, c8] := by
  obtain ⟨l⟩ := cs
  match l, h with
  | [c0, c1, c2, c3, c4, c5, c6, c7, c8], _ => exact ⟨c0, c1, c2, c3, c4, c5, c6, c7, c8, rfl⟩
section
variable {H : Type} {enc : TypeId × Value → H} {w : World} {base : Nat} {sp : Nat → Bool} {hd : Bool}
set_option maxRecDepth 100000 in
theorem vec_trod {fuel : Nat} {c0 c1 c2 c3 c4 c5 c6 c7 : Value} {z : DataW H × List MemPlace} (hf : DataW.trod enc Tryz.prog w base sp hd fuel 24 [c0, c1, c2, c3, c4, c5, c6, c7] = some z) :
    ∃ x : Nat → Int, c0 = .int .u32 (x 0) ∧ c1 = .int .u32 (x 1) ∧ c2 = .int .u32 (x 2) ∧ c3 = .int .u32 (x 3) ∧ c4 = .int .u32 (x 4) ∧ c5 = .int .u32 (x 5) ∧ c6 = .int .u32 (x 6) ∧ c7 = .int .u32 (x 7) ∧ ∀ i, i < 8 → (Lit.int .u32 (x i)).wf = true := by
  obtain ⟨xs, m, _, hx, _, hn, hi⟩ := DataW.trod_array Tryz.underlying24 hf
  obtain ⟨y0, y1, y2, y3, y4, y5, y6, y7, hxs⟩ := array8 (cs := xs.toArray) (by simpa using hn)
  obtain rfl : xs = [y0, y1, y2, y3, y4, y5, y6, y7] := by simpa using congrArg Array.toList hxs
  have g0 := hi 0 (by omega)
  have g1 := hi 1 (by omega)
  have g2 := hi 2 (by omega)
  have g3 := hi 3 (by omega)
  have g4 := hi 4 (by omega)
  have g5 := hi 5 (by omega)
  have g6 := hi 6 (by omega)
  have g7 := hi 7 (by omega)
  simp only [u321Cells, List.drop_zero, List.drop_succ_cons, List.take_succ_cons, List.take_zero, Nat.mul_one, List.getElem?_cons_zero, List.getElem?_cons_succ] at g0 g1 g2 g3 g4 g5 g6 g7
  obtain ⟨z0, e0, k0, w0⟩ := DataW.trod_int Tryz.underlying22 g0
  obtain ⟨z1, e1, k1, w1⟩ := DataW.trod_int Tryz.underlying22 g1
  obtain ⟨z2, e2, k2, w2⟩ := DataW.trod_int Tryz.underlying22 g2
  obtain ⟨z3, e3, k3, w3⟩ := DataW.trod_int Tryz.underlying22 g3
  obtain ⟨z4, e4, k4, w4⟩ := DataW.trod_int Tryz.underlying22 g4
  obtain ⟨z5, e5, k5, w5⟩ := DataW.trod_int Tryz.underlying22 g5
  obtain ⟨z6, e6, k6, w6⟩ := DataW.trod_int Tryz.underlying22 g6
  obtain ⟨z7, e7, k7, w7⟩ := DataW.trod_int Tryz.underlying22 g7
  refine ⟨fun8 z0 z1 z2 z3 z4 z5 z6 z7, (List.cons.inj e0).1, (List.cons.inj e1).1, (List.cons.inj e2).1, (List.cons.inj e3).1, (List.cons.inj e4).1, (List.cons.inj e5).1, (List.cons.inj e6).1, (List.cons.inj e7).1, fun i hi => ?_⟩
  match i, hi with
  | 0, _ => exact w0
  | 1, _ => exact w1
  | 2, _ => exact w2
  | 3, _ => exact w3
  | 4, _ => exact w4
  | 5, _ => exact w5
  | 6, _ => exact w6
  | 7, _ => exact w7
set_option maxRecDepth 100000 in
theorem open_cut {r : Reach} {b0 : Nat} {v : Value} {d : DataW H} {p : List MemPlace} (hv : Value.okWide Tryz.prog w r b0 27 v) (h : DataW.Trod enc Tryz.prog w base sp hd 27 v d p) :
    ∃ (x : Nat → Int) (al : Option Addr) (len cap : Nat) (L : List (Int × Int)), v = .agg #[.int .u32 (x 0), .int .u32 (x 1), .int .u32 (x 2), .int .u32 (x 3), .int .u32 (x 4), .int .u32 (x 5), .int .u32 (x 6), .int .u32 (x 7), .slice al len cap] ∧ (∀ i, i < 8 → (Lit.int .u32 (x i)).wf = true) ∧ Ids w al len cap L := by
  obtain ⟨cs, rfl, hsz⟩ := okWide_struct Tryz.underlying27 hv
  obtain ⟨c0, c1, c2, c3, c4, c5, c6, c7, c8, rfl⟩ := array9 (hsz.trans cut9Cells)
  obtain ⟨fuel, hf⟩ := h
  obtain ⟨z0, z1, m, hz, _, g0, g1⟩ := trod_struct2 Tryz.underlying27 hf
  simp only [Value.cells, vecCells, slice1Cells, List.drop_zero, List.drop_succ_cons, List.take_succ_cons, List.take_zero] at g0 g1
  obtain ⟨x, rfl, rfl, rfl, rfl, rfl, rfl, rfl, rfl, hw⟩ := vec_trod g0
  obtain ⟨al, len, cap, rfl⟩ : ∃ al len cap, c8 = .slice al len cap := by
    rcases open_slice Tryz.underlying25 g1 with ⟨hcs, _⟩ | ⟨y, l, c, _, _, _, _, hcs, _⟩
    · exact ⟨_, _, _, (List.cons.inj hcs).1⟩
    · exact ⟨_, _, _, (List.cons.inj hcs).1⟩
  obtain ⟨L, hL⟩ := open_list (d := z1.1) (ps := z1.2) ⟨m, g1⟩
  exact ⟨x, al, len, cap, L, rfl, hw, hL⟩
end
end Go.Proofs.YthbdjgebpjffgaaGreatDoor
