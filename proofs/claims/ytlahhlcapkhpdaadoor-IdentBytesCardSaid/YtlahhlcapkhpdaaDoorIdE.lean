/-
  An operation's name, by value: opened into its three numbers, and shut again: plain lemmas.
  Conditions: none.
-/
import Derived.Test.YtlahhlcapkhpdaaDoorRows
import Derived.Lib.SmallJoins
import Derived.ShutString
import Derived.OpenShut
namespace Go.Proofs.YtlahhlcapkhpdaaDoor
open Go.ChangeShapes Go.WideShapes Go.RowKit Go.ChangeMaps Go.Joins
section
variable {H : Type} {enc : TypeId × Value → H} {w : World} {base b0 : Nat} {sp : Nat → Bool} {hd : Bool} {r : Reach}

theorem tagCells : Tryd.prog.cellsOf 26 = 3 := by kernel_rfl
theorem idCells : Tryd.prog.cellsOf 24 = 2 := by kernel_rfl
theorem intCells : Tryd.prog.cellsOf 3 = 1 := by kernel_rfl
theorem u32Cells : Tryd.prog.cellsOf 22 = 1 := by kernel_rfl

set_option maxRecDepth 100000 in
theorem open_tag {v : Value} {d : DataW H} {p : List MemPlace} (hv : Value.okWide Tryd.prog w r b0 26 v) (h : DataW.Trod enc Tryd.prog w base sp hd 26 v d p) :
    ∃ o q n, v = .agg #[.int .i64 o, .int .u32 q, .int .i64 n] ∧ d = .agg [.agg [.lit (.int .i64 o), .lit (.int .u32 q)], .lit (.int .i64 n)] ∧ p = [] ∧ (Lit.int .i64 o).wf = true ∧ (Lit.int .u32 q).wf = true ∧ (Lit.int .i64 n).wf = true := by
  obtain ⟨cs, rfl, hsz⟩ := okWide_struct Tryd.underlying26 hv
  obtain ⟨c0, c1, c2, rfl⟩ := array3 (hsz.trans tagCells)
  obtain ⟨fuel, hf⟩ := h
  obtain ⟨y0, y1, n, hx, _, h0, h1⟩ := trod_struct2 Tryd.underlying26 hf
  simp only [Value.cells, idCells, intCells, List.drop_zero, List.drop_succ_cons, List.take_succ_cons, List.take_zero, Prod.mk.injEq] at h0 h1 hx
  obtain ⟨z0, z1, m, hz, _, g0, g1⟩ := trod_struct2 Tryd.underlying24 h0
  simp only [u32Cells, intCells, List.drop_zero, List.drop_succ_cons, List.take_succ_cons, List.take_zero] at g0 g1
  obtain ⟨o, e0, k0, w0⟩ := DataW.trod_int Tryd.underlying3 g0
  obtain ⟨q, e1, k1, w1⟩ := DataW.trod_int Tryd.underlying22 g1
  obtain ⟨t, e2, k2, w2⟩ := DataW.trod_int Tryd.underlying3 h1
  subst k0; subst k1; subst k2; subst hz
  obtain rfl := (List.cons.inj e0).1
  obtain rfl := (List.cons.inj e1).1
  obtain rfl := (List.cons.inj e2).1
  exact ⟨o, q, t, rfl, hx.1, hx.2, w0, w1, w2⟩

set_option maxRecDepth 100000 in
theorem shut_tag {o q n : Int} (w0 : (Lit.int .i64 o).wf = true) (w1 : (Lit.int .u32 q).wf = true) (w2 : (Lit.int .i64 n).wf = true) :
    DataW.Trod enc Tryd.prog w base sp hd 26 (.agg #[.int .i64 o, .int .u32 q, .int .i64 n]) (.agg [.agg [.lit (.int .i64 o), .lit (.int .u32 q)], .lit (.int .i64 n)]) [] := by
  have g := trod_struct2_mk (enc := enc) (w := w) (base := base) (spare := sp) (held := hd) (n := 1) (cs := [.int .i64 o, .int .u32 q]) Tryd.underlying24 (by rw [idCells]; rfl)
    (by simpa [intCells] using trod_int_mk 0 Tryd.underlying3 w0) (by simpa [u32Cells] using trod_int_mk 0 Tryd.underlying22 w1)
  have t := trod_struct2_mk (enc := enc) (w := w) (base := base) (spare := sp) (held := hd) (n := 2) (cs := [.int .i64 o, .int .u32 q, .int .i64 n]) Tryd.underlying26 (by rw [tagCells]; rfl)
    (by simpa [idCells] using g) (by simpa [intCells] using trod_int_mk 1 Tryd.underlying3 w2)
  exact ⟨_, t⟩
end
end Go.Proofs.YtlahhlcapkhpdaaDoor
