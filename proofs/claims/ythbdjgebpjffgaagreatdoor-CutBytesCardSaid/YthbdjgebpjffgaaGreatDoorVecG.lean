/-
  A vector, and a name, by value: opened into their numbers, and shut again: plain lemmas.
  Conditions: none.
-/
import Derived.Test.YthbdjgebpjffgaaGreatDoorIdE
import Derived.Test.YthbdjgebpjffgaaGreatDoorVecA
import Derived.OpenShut
set_option linter.unusedVariables false
set_option linter.unusedSimpArgs false
namespace Go.Proofs.YthbdjgebpjffgaaGreatDoor
open Go.ChangeShapes Go.WideShapes Go.RowKit Go.ChangeMaps Go.Joins
section
variable {H : Type} {enc : TypeId × Value → H} {w : World} {base b0 : Nat} {sp : Nat → Bool} {hd : Bool} {r : Reach}

theorem vecCells : Tryz.prog.cellsOf 24 = 8 := by kernel_rfl
theorem array8 {α : Type} {cs : Array α} (h : cs.size = 8) : ∃ c0 c1 c2 c3 c4 c5 c6 c7, cs = #[c0, c1, c2, c3, c4, c5, c6, c7] := by
  obtain ⟨l⟩ := cs
  match l, h with
  | [c0, c1, c2, c3, c4, c5, c6, c7], _ => exact ⟨c0, c1, c2, c3, c4, c5, c6, c7, rfl⟩
/-- Eight numbers as a function. -/
def fun8 (z0 z1 z2 z3 z4 z5 z6 z7 : Int) : Nat → Int
  | 0 => z0 | 1 => z1 | 2 => z2 | 3 => z3 | 4 => z4 | 5 => z5 | 6 => z6 | 7 => z7 | _ => 0

set_option maxRecDepth 100000 in
theorem okWide_vec {v : Value} (hv : Value.okWide Tryz.prog w r b0 24 v) : ∃ cs, v = .agg cs ∧ cs.size = 8 := by
  simp only [Value.okWide, Tryz.underlying24] at hv
  obtain ⟨cs, h1, h2, _⟩ := hv
  exact ⟨cs, h1, h2.trans vecCells⟩

set_option maxRecDepth 100000 in
theorem open_vec {v : Value} {d : DataW H} {p : List MemPlace} (hv : Value.okWide Tryz.prog w r b0 24 v) (h : DataW.Trod enc Tryz.prog w base sp hd 24 v d p) :
    ∃ x : Nat → Int, v = .agg #[.int .u32 (x 0), .int .u32 (x 1), .int .u32 (x 2), .int .u32 (x 3), .int .u32 (x 4), .int .u32 (x 5), .int .u32 (x 6), .int .u32 (x 7)] ∧ d = .agg [.lit (.int .u32 (x 0)), .lit (.int .u32 (x 1)), .lit (.int .u32 (x 2)), .lit (.int .u32 (x 3)), .lit (.int .u32 (x 4)), .lit (.int .u32 (x 5)), .lit (.int .u32 (x 6)), .lit (.int .u32 (x 7))] ∧ p = [] ∧ ∀ i, i < 8 → (Lit.int .u32 (x i)).wf = true := by
  obtain ⟨cs, rfl, hsz⟩ := okWide_vec hv
  obtain ⟨c0, c1, c2, c3, c4, c5, c6, c7, rfl⟩ := array8 hsz
  obtain ⟨fuel, hf⟩ := h
  obtain ⟨xs, m, _, hx, _, hn, hi⟩ := DataW.trod_array Tryz.underlying24 hf
  obtain ⟨y0, y1, y2, y3, y4, y5, y6, y7, hxs⟩ := array8 (cs := xs.toArray) (by simpa using hn)
  obtain rfl : xs = [y0, y1, y2, y3, y4, y5, y6, y7] := by simpa using congrArg Array.toList hxs
  have g0 := hi 0 (by omega)
  have g1 := hi 1 (by omega)
  have g2 := hi 2 (by omega)
  have g3 := hi 3 (by omega)
  have g4 := hi 4 (by omega)
  have g5 := hi 5 (by omega)
  have g6 := hi 6 (by omega)
  have g7 := hi 7 (by omega)
  simp only [Value.cells, u32Cells, List.drop_zero, List.drop_succ_cons, List.take_succ_cons, List.take_zero, Nat.mul_one, List.getElem?_cons_zero, List.getElem?_cons_succ] at g0 g1 g2 g3 g4 g5 g6 g7
  obtain ⟨z0, e0, k0, w0⟩ := DataW.trod_int Tryz.underlying22 g0
  obtain ⟨z1, e1, k1, w1⟩ := DataW.trod_int Tryz.underlying22 g1
  obtain ⟨z2, e2, k2, w2⟩ := DataW.trod_int Tryz.underlying22 g2
  obtain ⟨z3, e3, k3, w3⟩ := DataW.trod_int Tryz.underlying22 g3
  obtain ⟨z4, e4, k4, w4⟩ := DataW.trod_int Tryz.underlying22 g4
  obtain ⟨z5, e5, k5, w5⟩ := DataW.trod_int Tryz.underlying22 g5
  obtain ⟨z6, e6, k6, w6⟩ := DataW.trod_int Tryz.underlying22 g6
  obtain ⟨z7, e7, k7, w7⟩ := DataW.trod_int Tryz.underlying22 g7
  subst k0; subst k1; subst k2; subst k3; subst k4; subst k5; subst k6; subst k7
  obtain rfl := (List.cons.inj e0).1
  obtain rfl := (List.cons.inj e1).1
  obtain rfl := (List.cons.inj e2).1
  obtain rfl := (List.cons.inj e3).1
  obtain rfl := (List.cons.inj e4).1
  obtain rfl := (List.cons.inj e5).1
  obtain rfl := (List.cons.inj e6).1
  obtain rfl := (List.cons.inj e7).1
  have hx1 := congrArg Prod.fst hx
  have hx2 := congrArg Prod.snd hx
  refine ⟨fun8 z0 z1 z2 z3 z4 z5 z6 z7, rfl, hx1, hx2, fun i hi => ?_⟩
  match i, hi with
  | 0, _ => exact w0
  | 1, _ => exact w1
  | 2, _ => exact w2
  | 3, _ => exact w3
  | 4, _ => exact w4
  | 5, _ => exact w5
  | 6, _ => exact w6
  | 7, _ => exact w7

set_option maxRecDepth 100000 in
theorem trod_array_mk {t e : TypeId} {k n : Nat} {cs : List Value} {xs : List (DataW H × List MemPlace)} (ht : Tryz.prog.underlying t = some (.array k e)) (hl : cs.length = Tryz.prog.cellsOf t)
    (hp : (List.range k).mapM (fun i => DataW.trod enc Tryz.prog w base sp hd n e ((cs.drop (i * Tryz.prog.cellsOf e)).take (Tryz.prog.cellsOf e))) = some xs) :
    DataW.trod enc Tryz.prog w base sp hd (n + 1) t cs = some (.agg (xs.map (·.1)), xs.flatMap (·.2)) := by
  unfold DataW.trod
  rw [ht]
  split <;> simp_all

set_option maxRecDepth 100000 in
theorem shut_vec {x : Nat → Int} (hw : ∀ i, i < 8 → (Lit.int .u32 (x i)).wf = true) :
    DataW.Trod enc Tryz.prog w base sp hd 24 (.agg #[.int .u32 (x 0), .int .u32 (x 1), .int .u32 (x 2), .int .u32 (x 3), .int .u32 (x 4), .int .u32 (x 5), .int .u32 (x 6), .int .u32 (x 7)]) (.agg [.lit (.int .u32 (x 0)), .lit (.int .u32 (x 1)), .lit (.int .u32 (x 2)), .lit (.int .u32 (x 3)), .lit (.int .u32 (x 4)), .lit (.int .u32 (x 5)), .lit (.int .u32 (x 6)), .lit (.int .u32 (x 7))]) [] := by
  have g : ∀ i, i < 8 → DataW.trod enc Tryz.prog w base sp hd 1 22 [.int .u32 (x i)] = some (.lit (.int .u32 (x i)), []) := fun i hi => trod_int_mk 0 Tryz.underlying22 (hw i hi)
  have t := trod_array_mk (enc := enc) (w := w) (base := base) (sp := sp) (hd := hd) (n := 1) (cs := [.int .u32 (x 0), .int .u32 (x 1), .int .u32 (x 2), .int .u32 (x 3), .int .u32 (x 4), .int .u32 (x 5), .int .u32 (x 6), .int .u32 (x 7)]) (xs := [(.lit (.int .u32 (x 0)), []), (.lit (.int .u32 (x 1)), []), (.lit (.int .u32 (x 2)), []), (.lit (.int .u32 (x 3)), []), (.lit (.int .u32 (x 4)), []), (.lit (.int .u32 (x 5)), []), (.lit (.int .u32 (x 6)), []), (.lit (.int .u32 (x 7)), [])]) Tryz.underlying24 (by rw [vecCells]; rfl)
    (by
      rw [show List.range 8 = [0, 1, 2, 3, 4, 5, 6, 7] from rfl]
      simp [u32Cells, g])
  exact ⟨_, t⟩

set_option maxRecDepth 100000 in
theorem open_id {v : Value} {d : DataW H} {p : List MemPlace} (hv : Value.okWide Tryz.prog w r b0 83 v) (h : DataW.Trod enc Tryz.prog w base sp hd 83 v d p) :
    ∃ o q, v = .agg #[.int .i64 o, .int .u32 q] ∧ d = .agg [.lit (.int .i64 o), .lit (.int .u32 q)] ∧ p = [] ∧ (Lit.int .i64 o).wf = true ∧ (Lit.int .u32 q).wf = true := by
  obtain ⟨cs, rfl, hsz⟩ := okWide_struct Tryz.underlying83 hv
  obtain ⟨c0, c1, rfl⟩ : ∃ c0 c1, cs = #[c0, c1] := by
    have hs := hsz.trans idCells
    obtain ⟨l⟩ := cs
    match l, hs with
    | [c0, c1], _ => exact ⟨c0, c1, rfl⟩
  obtain ⟨fuel, hf⟩ := h
  obtain ⟨z0, z1, m, hz, _, g0, g1⟩ := trod_struct2 Tryz.underlying83 hf
  simp only [Value.cells, u32Cells, intCells, List.drop_zero, List.drop_succ_cons, List.take_succ_cons, List.take_zero] at g0 g1
  obtain ⟨o, e0, k0, w0⟩ := DataW.trod_int Tryz.underlying3 g0
  obtain ⟨q, e1, k1, w1⟩ := DataW.trod_int Tryz.underlying22 g1
  subst k0; subst k1
  obtain rfl := (List.cons.inj e0).1
  obtain rfl := (List.cons.inj e1).1
  exact ⟨o, q, rfl, congrArg Prod.fst hz, congrArg Prod.snd hz, w0, w1⟩

set_option maxRecDepth 100000 in
theorem shut_id {o q : Int} (w0 : (Lit.int .i64 o).wf = true) (w1 : (Lit.int .u32 q).wf = true) :
    DataW.Trod enc Tryz.prog w base sp hd 83 (.agg #[.int .i64 o, .int .u32 q]) (.agg [.lit (.int .i64 o), .lit (.int .u32 q)]) [] := by
  have g := trod_struct2_mk (enc := enc) (w := w) (base := base) (spare := sp) (held := hd) (n := 1) (cs := [.int .i64 o, .int .u32 q]) Tryz.underlying83 (by rw [idCells]; rfl)
    (by simpa [intCells] using trod_int_mk 0 Tryz.underlying3 w0) (by simpa [u32Cells] using trod_int_mk 0 Tryz.underlying22 w1)
  exact ⟨_, g⟩
end
end Go.Proofs.YthbdjgebpjffgaaGreatDoor
