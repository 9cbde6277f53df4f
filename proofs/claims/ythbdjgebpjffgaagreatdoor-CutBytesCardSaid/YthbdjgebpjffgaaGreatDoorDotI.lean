/-
  The document's Make: the list's names in order, each once.
  Conditions: none.
-/
import Derived.Test.YthbdjgebpjffgaaGreatDoorDotE
import Derived.Shelf.GgSortFunc.RowK
set_option linter.unusedVariables false
set_option linter.unusedSimpArgs false
namespace Go.Proofs.YthbdjgebpjffgaaGreatDoor
open Go.RowKit Go.Shelf Go.Lib Go.Sort

/-- A name put behind the first p names. -/
def putN (M : List (Int × Int)) (p : Nat) (x : Int × Int) : List (Int × Int) := M.take p ++ x :: M.drop p
theorem putN_len (M : List (Int × Int)) {p : Nat} (x : Int × Int) (h : p ≤ M.length) : (putN M p x).length = M.length + 1 := by
  unfold putN; simp; omega
theorem putN_end (M : List (Int × Int)) (x : Int × Int) : putN M M.length x = M ++ [x] := by unfold putN; simp
theorem putN_at {M : List (Int × Int)} {p : Nat} {x : Int × Int} (h : p ≤ M.length) : (putN M p x)[p]? = some x := by
  unfold putN; rw [List.getElem?_append_right (by simp; omega)]; simp [Nat.min_eq_left h]
theorem putN_prev {M : List (Int × Int)} {m : Nat} {x y : Int × Int} (hy : M[m]? = some y) : (putN M (m + 1) x)[m]? = some y := by
  have := (List.getElem?_eq_some_iff.1 hy).1
  unfold putN; rw [List.getElem?_append_left (by simp; omega), List.getElem?_take_of_lt (by omega)]; exact hy
theorem putN_swap {M : List (Int × Int)} {m : Nat} {x y : Int × Int} (hy : M[m]? = some y) : ((putN M (m + 1) x).set (m + 1) y).set m x = putN M m x := by
  have hm := (List.getElem?_eq_some_iff.1 hy).1
  apply List.ext_getElem?
  intro j
  have hl : (putN M (m + 1) x).length = M.length + 1 := putN_len M x (by omega)
  rcases Nat.lt_trichotomy j m with h | h | h
  · rw [List.getElem?_set_ne (by omega), List.getElem?_set_ne (by omega)]
    unfold putN
    rw [List.getElem?_append_left (by simp; omega), List.getElem?_append_left (by simp; omega), List.getElem?_take_of_lt (by omega), List.getElem?_take_of_lt (by omega)]
  · subst h
    rw [List.getElem?_set_self (by simp; omega), putN_at (by omega)]
  · rw [List.getElem?_set_ne (by omega)]
    by_cases h1 : j = m + 1
    · subst h1
      rw [List.getElem?_set_self (by omega)]
      unfold putN
      rw [List.getElem?_append_right (by simp; omega)]
      rw [show m + 1 - (M.take m).length = 1 by simp; omega]
      simp [hy]
    · rw [List.getElem?_set_ne (by omega)]
      unfold putN
      rw [List.getElem?_append_right (by simp; omega), List.getElem?_append_right (by simp; omega)]
      rw [show j - (M.take (m + 1)).length = (j - (m + 2)) + 1 by simp; omega, show j - (M.take m).length = (j - (m + 1)) + 1 by simp; omega]
      simp only [List.getElem?_cons_succ, List.getElem?_drop]
      congr 1
      omega
theorem putN_mem {M : List (Int × Int)} {p : Nat} {x z : Int × Int} : z ∈ putN M p x ↔ z = x ∨ z ∈ M := by
  unfold putN
  have : z ∈ M ↔ z ∈ M.take p ∨ z ∈ M.drop p := by rw [← List.mem_append, List.take_append_drop]
  rw [this, List.mem_append, List.mem_cons]
  constructor
  · rintro (h | h | h)
    · exact .inr (.inl h)
    · exact .inl h
    · exact .inr (.inr h)
  · rintro (h | h | h)
    · exact .inr (.inl h)
    · exact .inl h
    · exact .inr (.inr h)
/-- Where the name belongs. -/
theorem putN_asc {M : List (Int × Int)} {p : Nat} {x : Int × Int} (hM : Asc M) (h1 : ∀ y, y ∈ M.drop p → cf x y < 0) (h2 : p = 0 ∨ ∃ m y, p = m + 1 ∧ M[m]? = some y ∧ cf y x < 0) : Asc (putN M p x) := by
  unfold putN
  have hs : Asc (M.take p ++ M.drop p) := by rw [List.take_append_drop]; exact hM
  obtain ⟨a1, a2, a3⟩ := List.pairwise_append.1 hs
  have hlow : ∀ z, z ∈ M.take p → cf z x < 0 := by
    intro z hz
    rcases h2 with rfl | ⟨m, y, rfl, hy, hyx⟩
    · simp at hz
    · obtain ⟨j, hj, e⟩ := List.mem_iff_getElem.1 hz
      have hj' : j < m + 1 := by simp at hj; omega
      have hz' : M[j]? = some z := by
        rw [← e, List.getElem_take, List.getElem?_eq_getElem]
      by_cases ej : j = m
      · subst ej; rw [hz'] at hy; cases hy; exact hyx
      · exact cf_trans (asc_at hM (i := j) (j := m) (by omega) hz' hy) hyx
  refine List.pairwise_append.2 ⟨a1, List.pairwise_cons.2 ⟨h1, a2⟩, fun z hz y hy => ?_⟩
  rcases List.mem_cons.1 hy with rfl | hy
  · exact hlow z hz
  · exact a3 z hz y hy
theorem drop_succ_mem {M : List (Int × Int)} {m : Nat} {x y : Int × Int} (hy : M[m]? = some y) (hxy : cf x y < 0) (h : ∀ z, z ∈ M.drop (m + 1) → cf x z < 0) : ∀ z, z ∈ M.drop m → cf x z < 0 := by
  have hm := (List.getElem?_eq_some_iff.1 hy).1
  have e := (List.getElem?_eq_some_iff.1 hy).2
  rw [List.drop_eq_getElem_cons hm, e]
  intro z hz
  rcases List.mem_cons.1 hz with rfl | hz
  · exact hxy
  · exact h z hz

/-! ### The row's cells turned -/
theorem idCs_set {N : List (Int × Int)} {p : Nat} (hp : p < N.length) (o q : Int) : ((idCs N).set (p * 2) (.int .i64 o)).set (p * 2 + 1) (.int .u32 q) = idCs (N.set p (o, q)) := by
  induction N generalizing p with
  | nil => simp at hp
  | cons x r ih =>
    have e : ∀ (y : Int × Int) (s : List (Int × Int)), idCs (y :: s) = Value.int .i64 y.1 :: Value.int .u32 y.2 :: idCs s := fun y s => by simp [idCs, encId]
    cases p with
    | zero => simp [e]
    | succ j =>
      rw [e, show (j + 1) * 2 = (j * 2 + 1) + 1 by omega, show j * 2 + 1 + 1 + 1 = (j * 2 + 1 + 1) + 1 by omega]
      simp only [List.set_cons_succ, e]
      rw [ih (by simpa using hp)]
theorem own_put {w : World} {B e g n cap : Nat} {N : List (Int × Int)} (h : w.ownsRow B e 2 (.slice (some ⟨g, 0, none⟩) n cap) n (idCs N)) {p : Nat} (hp : p < N.length) (o q : Int) :
    ((w.setCell ⟨g, p * 2, none⟩ (.int .i64 o)).setCell ⟨g, p * 2 + 1, none⟩ (.int .u32 q)).ownsRow B e 2 (.slice (some ⟨g, 0, none⟩) n cap) n (idCs (N.set p (o, q))) := by
  rw [← idCs_set hp]
  exact ((h.stored (p * 2) (.int .i64 o)).1.stored (p * 2 + 1) (.int .u32 q)).1
theorem own_cell {w : World} {B e g n cap : Nat} {N : List (Int × Int)} (h : w.ownsRow B e 2 (.slice (some ⟨g, 0, none⟩) n cap) n (idCs N)) {k : Nat} {a b : Int} (hx : N[k]? = some (a, b)) :
    w.cell? ⟨g, k * 2, none⟩ = some (.int .i64 a) ∧ w.cell? ⟨g, k * 2 + 1, none⟩ = some (.int .u32 b) ∧ w.frozen? ⟨g, k * 2, none⟩ = false ∧ w.frozen? ⟨g, k * 2 + 1, none⟩ = false := by
  have hn : n * 2 = N.length * 2 := by rw [← h.1, idCs_len]
  have hk := (List.getElem?_eq_some_iff.1 hx).1
  obtain ⟨g0, g1⟩ := idCs_get hx
  exact ⟨by rw [h.cellAt (k * 2) (by omega), g0], by rw [h.cellAt (k * 2 + 1) (by omega), g1], h.frozenAt _, h.frozenAt _⟩
theorem own_blt {w : World} {B e g n cap : Nat} {xs : List Value} (h : w.ownsRow B e 2 (.slice (some ⟨g, 0, none⟩) n cap) n xs) : g < w.heap.size ∧ B ≤ g ∧ n ≤ cap ∧ cap ≤ 9223372036854775807 := by
  rcases h.2 with ⟨h1, _⟩ | ⟨g', cap', cur, h1, h2, h3, h4, h5, _⟩
  · cases h1
  · cases h1; exact ⟨Blk.lt h3, h2, h4, by unfold maxLen at h5; omega⟩
end Go.Proofs.YthbdjgebpjffgaaGreatDoor
