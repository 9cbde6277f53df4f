/-
  What is told of a list of wishes that came in: each wish's two numbers lie in two cells.
  Conditions: none.
-/
import Derived.Test.YtpofgibolcmmlaaDoorOctG
import Derived.Deep.Slices
import Derived.OpenShut
namespace Go.Proofs.YtpofgibolcmmlaaDoor
open Go.RowKit Go.Deep

/-- Wish number i of the list at this address. -/
def WantAt (w : World) (al : Option Addr) (i : Nat) : Prop :=
  ∃ (lb lo : Nat) (k n : Int), al = some ⟨lb, lo, none⟩ ∧ w.cell? ⟨lb, lo + i * 2, none⟩ = some (.int .i64 k) ∧ w.cell? ⟨lb, lo + i * 2 + 1, none⟩ = some (.int .i64 n) ∧ (-9223372036854775808 ≤ n ∧ n ≤ 9223372036854775807)
/-- The whole list. -/
def WantsAt (w : World) (al : Option Addr) (len : Nat) : Prop := len ≤ 9223372036854775807 ∧ ∀ i, i < len → WantAt w al i

theorem add_plain (b off j : Nat) : (⟨b, off, none⟩ : Addr).add j = ⟨b, off + j, none⟩ := by
  by_cases h : j = 0
  · subst h; simp [Addr.add]
  · simp [Addr.add, h]

theorem Tryd.cellsWant : Tryd.prog.cellsOf 32 = 2 := by kernel_rfl
theorem Tryd.cellsInt : Tryd.prog.cellsOf 3 = 1 := by kernel_rfl

section
variable {H : Type} {enc : TypeId × Value → H} {w : World} {b0 : Nat} {sp : Nat → Bool} {hd : Bool}

set_option maxRecDepth 100000 in
/-- A struct of two integers, by its cells. -/
theorem want_cells {fuel : Nat} {cs : List Value} {x : DataW H × List MemPlace} (h : DataW.trod enc Tryd.prog w b0 sp hd fuel 32 cs = some x) :
    ∃ k n : Int, cs = [.int .i64 k, .int .i64 n] ∧ (Lit.int .i64 n).wf = true := by
  obtain ⟨xs, m, _, _, hlen, hxl, hg⟩ := DataW.trod_struct Tryd.underlying32 h
  rw [Tryd.cellsWant] at hlen
  match cs, hlen with
  | [u, v], _ =>
    match xs, hxl with
    | [y, z], _ =>
      have g0 : DataW.trod enc Tryd.prog w b0 sp hd m 3 (([u, v].drop 0).take (Tryd.prog.cellsOf 3)) = some y := hg 0 _ rfl
      have g1 : DataW.trod enc Tryd.prog w b0 sp hd m 3 (([u, v].drop 1).take (Tryd.prog.cellsOf 3)) = some z := hg 1 _ rfl
      rw [Tryd.cellsInt] at g0 g1
      obtain ⟨k, e0, _, _⟩ := DataW.trod_int Tryd.underlying3 g0
      obtain ⟨n, e1, _, hw⟩ := DataW.trod_int Tryd.underlying3 g1
      simp at e0 e1
      exact ⟨k, n, by rw [e0, e1], hw⟩

set_option maxRecDepth 100000 in
theorem open_wants {al : Option Addr} {len cap : Nat} {d : DataW H} {ps : List MemPlace} (h : DataW.Trod enc Tryd.prog w b0 sp hd 22 (.slice al len cap) d ps) : WantsAt w al len := by
  obtain ⟨fuel, hf⟩ := h
  rcases open_slice Tryd.underlying22 hf with ⟨hcs, _⟩ | ⟨x, l, c, m, n, D, Pl, hcs, _, hl, hm, hmm, _, hi⟩
  · simp [Value.cells] at hcs
    obtain ⟨rfl, rfl, rfl⟩ := hcs
    exact ⟨by omega, fun i hi => by omega⟩
  · simp [Value.cells] at hcs
    obtain ⟨rfl, rfl, rfl⟩ := hcs
    unfold maxLen at hm
    refine ⟨by omega, fun i hil => ?_⟩
    have him : len ≤ m := by rw [hmm]; split <;> omega
    have key : ∀ j, j < len → ∃ k n : Int, w.cell? ((x.add (j * 2)).add 0) = some (.int .i64 k) ∧ w.cell? ((x.add (j * 2)).add 1) = some (.int .i64 n) ∧ (Lit.int .i64 n).wf = true := by
      intro j hj
      obtain ⟨cs, hc, ht⟩ := hi j (by omega)
      rw [Tryd.cellsWant] at hc
      obtain ⟨k, n, rfl, hw⟩ := want_cells ht
      obtain ⟨_, _, hat⟩ := World.cells?_some hc
      exact ⟨k, n, hat 0 (by omega), hat 1 (by omega), hw⟩
    obtain ⟨b, off, spot⟩ := x
    have hspot : spot = none := by
      obtain ⟨k, n, h0, _, _⟩ := key 0 (by omega)
      simpa [Addr.add] using World.cell?_spot h0
    subst hspot
    obtain ⟨k, n, h0, h1, hw⟩ := key i hil
    rw [add_plain, add_plain] at h0 h1
    exact ⟨b, off, k, n, rfl, h0, h1, bounds_i64 hw⟩
end
end Go.Proofs.YtpofgibolcmmlaaDoor
