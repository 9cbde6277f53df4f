/-
  What is told of a list of names that came in: each name's two numbers lie in two cells. And what a vector's step does: plain lemmas.
  Conditions: none.
-/
import Derived.Test.YtfmdmifpgmkohaaDoorVecK
import Derived.Test.YtfmdmifpgmkohaaDoorIdE
import Derived.Deep.Slices
import Derived.OpenShut
namespace Go.Proofs.YtfmdmifpgmkohaaDoor
open Go.RowKit Go.Deep

/-- Name number i of the list at this address. -/
def IdAt (w : World) (al : Option Addr) (i : Nat) : Prop :=
  ∃ (lb lo : Nat) (o q : Int), al = some ⟨lb, lo, none⟩ ∧ w.cell? ⟨lb, lo + i * 2, none⟩ = some (.int .i64 o) ∧ w.cell? ⟨lb, lo + i * 2 + 1, none⟩ = some (.int .u32 q)
/-- The whole list. -/
def IdsAt (w : World) (al : Option Addr) (len : Nat) : Prop := len ≤ 9223372036854775807 ∧ ∀ i, i < len → IdAt w al i

theorem add_plainN (b off j : Nat) : (⟨b, off, none⟩ : Addr).add j = ⟨b, off + j, none⟩ := by
  by_cases h : j = 0
  · subst h; simp [Addr.add]
  · simp [Addr.add, h]

section
variable {H : Type} {enc : TypeId × Value → H} {w : World} {b0 : Nat} {sp : Nat → Bool} {hd : Bool}

set_option maxRecDepth 100000 in
theorem id_cells {fuel : Nat} {cs : List Value} {x : DataW H × List MemPlace} (h : DataW.trod enc Tryd.prog w b0 sp hd fuel 52 cs = some x) :
    ∃ o q : Int, cs = [.int .i64 o, .int .u32 q] := by
  obtain ⟨xs, m, _, _, hlen, hxl, hg⟩ := DataW.trod_struct Tryd.underlying52 h
  rw [idCells] at hlen
  match cs, hlen with
  | [u, v], _ =>
    match xs, hxl with
    | [y, z], _ =>
      have g0 : DataW.trod enc Tryd.prog w b0 sp hd m 3 (([u, v].drop 0).take (Tryd.prog.cellsOf 3)) = some y := hg 0 _ rfl
      have g1 : DataW.trod enc Tryd.prog w b0 sp hd m 22 (([u, v].drop 1).take (Tryd.prog.cellsOf 22)) = some z := hg 1 _ rfl
      rw [intCells] at g0
      rw [u32Cells] at g1
      obtain ⟨k, e0, _, _⟩ := DataW.trod_int Tryd.underlying3 g0
      obtain ⟨n, e1, _, _⟩ := DataW.trod_int Tryd.underlying22 g1
      simp at e0 e1
      exact ⟨k, n, by rw [e0, e1]⟩

set_option maxRecDepth 100000 in
theorem open_ids {al : Option Addr} {len cap : Nat} {d : DataW H} {ps : List MemPlace} (h : DataW.Trod enc Tryd.prog w b0 sp hd 46 (.slice al len cap) d ps) : IdsAt w al len := by
  obtain ⟨fuel, hf⟩ := h
  rcases open_slice Tryd.underlying46 hf with ⟨hcs, _⟩ | ⟨x, l, c, m, n, D, Pl, hcs, _, hl, hm, hmm, _, hi⟩
  · simp [Value.cells] at hcs
    obtain ⟨rfl, rfl, rfl⟩ := hcs
    exact ⟨by omega, fun i hi => by omega⟩
  · simp [Value.cells] at hcs
    obtain ⟨rfl, rfl, rfl⟩ := hcs
    unfold maxLen at hm
    refine ⟨by omega, fun i hil => ?_⟩
    have him : len ≤ m := by rw [hmm]; split <;> omega
    have key : ∀ j, j < len → ∃ k n : Int, w.cell? ((x.add (j * 2)).add 0) = some (.int .i64 k) ∧ w.cell? ((x.add (j * 2)).add 1) = some (.int .u32 n) := by
      intro j hj
      obtain ⟨cs, hc, ht⟩ := hi j (by omega)
      rw [idCells] at hc
      obtain ⟨k, n, rfl⟩ := id_cells ht
      obtain ⟨_, _, hat⟩ := World.cells?_some hc
      exact ⟨k, n, hat 0 (by omega), hat 1 (by omega)⟩
    obtain ⟨b, off, spot⟩ := x
    have hspot : spot = none := by
      obtain ⟨k, n, h0, _⟩ := key 0 (by omega)
      simpa [Addr.add] using World.cell?_spot h0
    subst hspot
    obtain ⟨k, n, h0, h1⟩ := key i hil
    rw [add_plainN, add_plainN] at h0 h1
    exact ⟨b, off, k, n, rfl, h0, h1⟩
end

/-! ### A step -/
theorem tot_setV (v : Nat → Int) (k : Nat) (x : Int) : ∀ n, totV (setV v k x) n = totV v n + (if k < n then x - v k else 0)
  | 0 => by simp [totV]
  | n + 1 => by
    rw [totV, totV, tot_setV v k x n]
    by_cases h1 : k < n
    · rw [if_pos h1, if_pos (by omega)]; unfold setV; rw [if_neg (by omega)]; omega
    · rw [if_neg h1]
      by_cases h2 : n = k
      · subst h2; rw [if_pos (by omega)]; unfold setV; rw [if_pos rfl]; omega
      · rw [if_neg (by omega)]; unfold setV; rw [if_neg h2]; omega
theorem tot_step {v : Nat → Int} {k : Nat} (hk : k < 8) : totV (setV v k (v k + 1)) 8 = totV v 8 + 1 := by
  rw [tot_setV, if_pos hk]; omega
theorem le_step (v : Nat → Int) (k : Nat) : leV v (setV v k (v k + 1)) = true := leV_iff.2 fun i _ => by
  unfold setV; split
  · rename_i h; subst h; omega
  · exact Int.le_refl _
theorem ok_step {v : Nat → Int} {k : Nat} (h : okV v = true) (hq : v k + 1 ≤ 1048576) : okV (setV v k (v k + 1)) = true := okV_iff.2 fun i hi => by
  have := okV_iff.1 h i hi
  unfold setV; split <;> omega
theorem has_iff {v : Nat → Int} {o q : Int} : hasV v o q = true ↔ chk o q = 0 ∧ q ≤ v o.toNat := by
  unfold hasV; rw [Bool.and_eq_true, decide_eq_true_iff, decide_eq_true_iff]
theorem has_step {v : Nat → Int} {k : Nat} (h0 : chk k (v k + 1) = 0) (o q : Int) : hasV (setV v k (v k + 1)) o q = true ↔ (hasV v o q = true ∨ (o, q) = ((k : Int), v k + 1)) := by
  rw [has_iff, has_iff, Prod.mk.injEq]
  constructor
  · rintro ⟨hc, hq⟩
    unfold setV at hq
    split at hq
    · rename_i h
      have := (chk_zero hc).1
      by_cases e : q = v k + 1
      · exact .inr ⟨by omega, e⟩
      · refine .inl ⟨hc, ?_⟩; rw [h]; omega
    · exact .inl ⟨hc, hq⟩
  · rintro (⟨hc, hq⟩ | ⟨rfl, rfl⟩)
    · refine ⟨hc, ?_⟩
      unfold setV; split
      · rename_i h; rw [h] at hq; omega
      · exact hq
    · refine ⟨h0, ?_⟩
      rw [Int.toNat_natCast]; unfold setV; rw [if_pos rfl]; exact Int.le_refl _

/-- The three ways of a step. -/
theorem take_ways {v : Nat → Int} {o q : Int} (h : okV v = true) :
    (hasV v o q = true ∧ takeV v o q = (zV, 11)) ∨ (hasV v o q = false ∧ ∃ c, takeV v o q = (zV, c) ∧ (c = 2 ∨ c = 17)) ∨
    (hasV v o q = false ∧ ∃ k : Nat, k < 8 ∧ o = (k : Int) ∧ q = v k + 1 ∧ chk o q = 0 ∧ takeV v o q = (setV v k (v k + 1), 0)) := by
  by_cases h1 : chk o q = 0
  · cases h2 : hasV v o q
    · obtain ⟨k, hk, rfl⟩ := nat_of (chk_zero h1).1
      by_cases h3 : q = v k + 1
      · subst h3
        exact .inr (.inr ⟨rfl, k, hk, rfl, rfl, h1, takeV_yes h h1 h2 rfl⟩)
      · exact .inr (.inl ⟨rfl, 17, takeV_gap h h1 h2 h3, .inr rfl⟩)
    · exact .inl ⟨rfl, takeV_has h h1 h2⟩
  · exact .inr (.inl ⟨hasV_no h1, 2, takeV_no h h1, .inl rfl⟩)
end Go.Proofs.YtfmdmifpgmkohaaDoor
