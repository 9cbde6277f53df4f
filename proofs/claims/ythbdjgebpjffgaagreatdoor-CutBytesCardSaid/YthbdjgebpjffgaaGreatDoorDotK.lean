/-
  A list of names that came in; Great; and the walk of the law DotsMakes.
  Conditions: none.
-/
import Derived.Test.YthbdjgebpjffgaaGreatDoorDotJ
import Derived.Deep.Slices
import Derived.OpenShut
set_option linter.unusedVariables false
set_option linter.unusedSimpArgs false
namespace Go.Proofs.YthbdjgebpjffgaaGreatDoor
open Go.RowKit Go.Shelf Go.Lib Go.Sort Go.Deep

theorem id2Cells : Tryz.prog.cellsOf 83 = 2 := by kernel_rfl
theorem int1Cells : Tryz.prog.cellsOf 3 = 1 := by kernel_rfl
theorem u321Cells : Tryz.prog.cellsOf 22 = 1 := by kernel_rfl
section
variable {H : Type} {enc : TypeId × Value → H} {w : World} {b0 : Nat} {sp : Nat → Bool} {hd : Bool}
set_option maxRecDepth 100000 in
theorem id2_cells {fuel : Nat} {cs : List Value} {x : DataW H × List MemPlace} (h : DataW.trod enc Tryz.prog w b0 sp hd fuel 83 cs = some x) :
    ∃ o q : Int, cs = [.int .i64 o, .int .u32 q] := by
  obtain ⟨xs, m, _, _, hlen, hxl, hg⟩ := DataW.trod_struct Tryz.underlying83 h
  rw [id2Cells] at hlen
  match cs, hlen with
  | [u, v], _ =>
    match xs, hxl with
    | [y, z], _ =>
      have g0 : DataW.trod enc Tryz.prog w b0 sp hd m 3 (([u, v].drop 0).take (Tryz.prog.cellsOf 3)) = some y := hg 0 _ rfl
      have g1 : DataW.trod enc Tryz.prog w b0 sp hd m 22 (([u, v].drop 1).take (Tryz.prog.cellsOf 22)) = some z := hg 1 _ rfl
      rw [int1Cells] at g0
      rw [u321Cells] at g1
      obtain ⟨k, e0, _, _⟩ := DataW.trod_int Tryz.underlying3 g0
      obtain ⟨n, e1, _, _⟩ := DataW.trod_int Tryz.underlying22 g1
      simp at e0 e1
      exact ⟨k, n, by rw [e0, e1]⟩
theorem list_of {P : Nat → Int × Int → Prop} : ∀ n, (∀ k, k < n → ∃ x, P k x) → ∃ L : List (Int × Int), L.length = n ∧ ∀ k, k < n → ∃ x, L[k]? = some x ∧ P k x
  | 0, _ => ⟨[], rfl, fun k hk => by omega⟩
  | n + 1, h => by
    obtain ⟨L, h1, h2⟩ := list_of n fun k hk => h k (by omega)
    obtain ⟨x, hx⟩ := h n (by omega)
    refine ⟨L ++ [x], by simp [h1], fun k hk => ?_⟩
    by_cases e : k = n
    · subst e; exact ⟨x, by rw [List.getElem?_append_right (by omega), h1]; simp, hx⟩
    · obtain ⟨y, hy, hp⟩ := h2 k (by omega)
      exact ⟨y, by rw [List.getElem?_append_left (by omega)]; exact hy, hp⟩
set_option maxRecDepth 100000 in
theorem open_list {al : Option Addr} {len cap : Nat} {d : DataW H} {ps : List MemPlace} (h : DataW.Trod enc Tryz.prog w b0 sp hd 25 (.slice al len cap) d ps) : ∃ L, Ids w al len cap L := by
  obtain ⟨fuel, hf⟩ := h
  rcases open_slice Tryz.underlying25 hf with ⟨hcs, _⟩ | ⟨x, l, c, m, n, D, Pl, hcs, _, hl, hm, hmm, _, hi⟩
  · simp [Value.cells] at hcs
    obtain ⟨rfl, rfl, rfl⟩ := hcs
    exact ⟨[], Ids.nil w⟩
  · simp [Value.cells] at hcs
    obtain ⟨rfl, rfl, rfl⟩ := hcs
    unfold maxLen at hm
    have him : len ≤ m := by rw [hmm]; split <;> omega
    have key : ∀ j, j < len → ∃ p : Int × Int, w.cell? ((x.add (j * 2)).add 0) = some (.int .i64 p.1) ∧ w.cell? ((x.add (j * 2)).add 1) = some (.int .u32 p.2) := by
      intro j hj
      obtain ⟨cs, hc, ht⟩ := hi j (by omega)
      rw [id2Cells] at hc
      obtain ⟨k, n, rfl⟩ := id2_cells ht
      obtain ⟨_, _, hat⟩ := World.cells?_some hc
      exact ⟨(k, n), hat 0 (by omega), hat 1 (by omega)⟩
    obtain ⟨L, hL, hat⟩ := list_of len key
    refine ⟨L, hL.symm, hl, by omega, nofun, fun k hk => ?_⟩
    obtain ⟨⟨o, q⟩, hx, h0, h1⟩ := hat k hk
    obtain ⟨b, off, spot⟩ := x
    have hspot : spot = none := by
      obtain ⟨p, c0, _⟩ := key 0 (by omega)
      simpa [Addr.add] using World.cell?_spot c0
    subst hspot
    rw [addPlain, addPlain] at h0 h1
    exact ⟨b, off, o, q, rfl, hx, h0, h1⟩
end

/-- More than may be asked. -/
def greatB (n : Nat) : Bool := decide (400 < n) && decide (n ≠ 1024) && decide (n ≠ 1025)
theorem great_le {n : Nat} (h : greatB n = false) : n ≤ 1025 := by
  unfold greatB at h
  simp only [Bool.and_eq_false_iff, decide_eq_false_iff_not] at h
  omega
theorem great_any (al : Option Addr) (len cap : Nat) (w : World) (hl : len ≤ cap) (hc : cap ≤ 9223372036854775807) :
    Calls Tryz.prog 4 #[.slice al len cap] w fun e w' => e = .returned (.bool (greatB len)) ∧ Below w.heap.size w w' := by
  by_cases h1 : 400 < len
  · by_cases h2 : len = 1024
    · subst h2
      go_enter Tryz.func4, Tryz.ntmps4
      go_wp2
      go_ret
      exact ⟨rfl, Below.refl _ _⟩
    · by_cases h3 : len = 1025
      · subst h3
        go_enter Tryz.func4, Tryz.ntmps4
        go_wp2
        go_ret
        exact ⟨rfl, Below.refl _ _⟩
      · have HG : Hid (greatB len = true) := Lib.hid (by unfold greatB; simp [h1, h2, h3])
        have t1 : (400 : Int) < len := by omega
        have t2 : ((len : Int) != 1024) = true := by simp; omega
        have t3 : ((len : Int) != 1025) = true := by simp; omega
        clear h2 h3
        go_enter Tryz.func4, Tryz.ntmps4
        go_wp2
        go_ret
        exact ⟨by rw [HG.out]; rfl, Below.refl _ _⟩
  · have HG : Hid (greatB len = false) := Lib.hid (by unfold greatB; simp [h1])
    have t1 : ¬ (400 : Int) < len := by omega
    go_enter Tryz.func4, Tryz.ntmps4
    go_wp2
    go_ret
    exact ⟨by rw [HG.out]; rfl, Below.refl _ _⟩
end Go.Proofs.YthbdjgebpjffgaaGreatDoor
