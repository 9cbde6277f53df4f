/-
  The document's Make: the list's names in order, each once.
  Conditions: none.
-/
import Derived.Test.YthbdjgebpjffgaaDotE
import Derived.Test.YthbdjgebpjffgaaDotH
set_option linter.unusedVariables false
set_option linter.unusedSimpArgs false
namespace Go.Proofs.Ythbdjgebpjffgaa
open Go.RowKit Go.Shelf Go.Lib Go.Sort

/-- A name put behind the first p names. -/
def putN (M : List (Int × Int)) (p : Nat) (x : Int × Int) : List (Int × Int) := M.take p ++ x :: M.drop p
theorem putN_len (M : List (Int × Int)) {p : Nat} (x : Int × Int) (h : p ≤ M.length) : (putN M p x).length = M.length + 1 := by
  unfold putN; simp; omega
theorem putN_end (M : List (Int × Int)) (x : Int × Int) : putN M M.length x = M ++ [x] := by unfold putN; simp
theorem putN_at {M : List (Int × Int)} {p : Nat} {x : Int × Int} (h : p ≤ M.length) : (putN M p x)[p]? = some x := by
  unfold putN; rw [List.getElem?_append_right (by simp; omega)]; simp [Nat.min_eq_left h]
theorem putN_prev {M : List (Int × Int)} {m : Nat} {x y : Int × Int} (hy : M[m]? = some y) : (putN M (m + 1) x)[m]? = some y := by
  have := (List.getElem?_eq_some_iff.1 hy).1
  unfold putN; rw [List.getElem?_append_left (by simp; omega), List.getElem?_take_of_lt (by omega)]; exact hy
theorem putN_swap {M : List (Int × Int)} {m : Nat} {x y : Int × Int} (hy : M[m]? = some y) : ((putN M (m + 1) x).set (m + 1) y).set m x = putN M m x := by
  have hm := (List.getElem?_eq_some_iff.1 hy).1
  apply List.ext_getElem?
  intro j
  have hl : (putN M (m + 1) x).length = M.length + 1 := putN_len M x (by omega)
  rcases Nat.lt_trichotomy j m with h | h | h
  · rw [List.getElem?_set_ne (by omega), List.getElem?_set_ne (by omega)]
    unfold putN
    rw [List.getElem?_append_left (by simp; omega), List.getElem?_append_left (by simp; omega), List.getElem?_take_of_lt (by omega), List.getElem?_take_of_lt (by omega)]
  · subst h
    rw [List.getElem?_set_self (by simp; omega), putN_at (by omega)]
  · rw [List.getElem?_set_ne (by omega)]
    by_cases h1 : j = m + 1
    · subst h1
      rw [List.getElem?_set_self (by omega)]
      unfold putN
      rw [List.getElem?_append_right (by simp; omega)]
      rw [show m + 1 - (M.take m).length = 1 by simp; omega]
      simp [hy]
    · rw [List.getElem?_set_ne (by omega)]
      unfold putN
      rw [List.getElem?_append_right (by simp; omega), List.getElem?_append_right (by simp; omega)]
      rw [show j - (M.take (m + 1)).length = (j - (m + 2)) + 1 by simp; omega, show j - (M.take m).length = (j - (m + 1)) + 1 by simp; omega]
      simp only [List.getElem?_cons_succ, List.getElem?_drop]
      congr 1
      omega
theorem putN_mem {M : List (Int × Int)} {p : Nat} {x z : Int × Int} : z ∈ putN M p x ↔ z = x ∨ z ∈ M := by
  unfold putN
  have : z ∈ M ↔ z ∈ M.take p ∨ z ∈ M.drop p := by rw [← List.mem_append, List.take_append_drop]
  rw [this, List.mem_append, List.mem_cons]
  constructor
  · rintro (h | h | h)
    · exact .inr (.inl h)
    · exact .inl h
    · exact .inr (.inr h)
  · rintro (h | h | h)
    · exact .inr (.inl h)
    · exact .inl h
    · exact .inr (.inr h)
/-- Where the name belongs. -/
theorem putN_asc {M : List (Int × Int)} {p : Nat} {x : Int × Int} (hM : Asc M) (h1 : ∀ y, y ∈ M.drop p → cf x y < 0) (h2 : p = 0 ∨ ∃ m y, p = m + 1 ∧ M[m]? = some y ∧ cf y x < 0) : Asc (putN M p x) := by
  unfold putN
  have hs : Asc (M.take p ++ M.drop p) := by rw [List.take_append_drop]; exact hM
  obtain ⟨a1, a2, a3⟩ := List.pairwise_append.1 hs
  have hlow : ∀ z, z ∈ M.take p → cf z x < 0 := by
    intro z hz
    rcases h2 with rfl | ⟨m, y, rfl, hy, hyx⟩
    · simp at hz
    · obtain ⟨j, hj, e⟩ := List.mem_iff_getElem.1 hz
      have hj' : j < m + 1 := by simp at hj; omega
      have hz' : M[j]? = some z := by
        rw [← e, List.getElem_take, List.getElem?_eq_getElem]
      by_cases ej : j = m
      · subst ej; rw [hz'] at hy; cases hy; exact hyx
      · exact cf_trans (asc_at hM (i := j) (j := m) (by omega) hz' hy) hyx
  refine List.pairwise_append.2 ⟨a1, List.pairwise_cons.2 ⟨h1, a2⟩, fun z hz y hy => ?_⟩
  rcases List.mem_cons.1 hy with rfl | hy
  · exact hlow z hz
  · exact a3 z hz y hy
theorem drop_succ_mem {M : List (Int × Int)} {m : Nat} {x y : Int × Int} (hy : M[m]? = some y) (hxy : cf x y < 0) (h : ∀ z, z ∈ M.drop (m + 1) → cf x z < 0) : ∀ z, z ∈ M.drop m → cf x z < 0 := by
  have hm := (List.getElem?_eq_some_iff.1 hy).1
  have e := (List.getElem?_eq_some_iff.1 hy).2
  rw [List.drop_eq_getElem_cons hm, e]
  intro z hz
  rcases List.mem_cons.1 hz with rfl | hz
  · exact hxy
  · exact h z hz

/-! ### The row's cells turned -/
theorem idCs_set {N : List (Int × Int)} {p : Nat} (hp : p < N.length) (o q : Int) : ((idCs N).set (p * 2) (.int .i64 o)).set (p * 2 + 1) (.int .u32 q) = idCs (N.set p (o, q)) := by
  induction N generalizing p with
  | nil => simp at hp
  | cons x r ih =>
    have e : ∀ (y : Int × Int) (s : List (Int × Int)), idCs (y :: s) = Value.int .i64 y.1 :: Value.int .u32 y.2 :: idCs s := fun y s => by simp [idCs, encId]
    cases p with
    | zero => simp [e]
    | succ j =>
      rw [e, show (j + 1) * 2 = (j * 2 + 1) + 1 by omega, show j * 2 + 1 + 1 + 1 = (j * 2 + 1 + 1) + 1 by omega]
      simp only [List.set_cons_succ, e]
      rw [ih (by simpa using hp)]
theorem own_put {w : World} {B e g n cap : Nat} {N : List (Int × Int)} (h : w.ownsRow B e 2 (.slice (some ⟨g, 0, none⟩) n cap) n (idCs N)) {p : Nat} (hp : p < N.length) (o q : Int) :
    ((w.setCell ⟨g, p * 2, none⟩ (.int .i64 o)).setCell ⟨g, p * 2 + 1, none⟩ (.int .u32 q)).ownsRow B e 2 (.slice (some ⟨g, 0, none⟩) n cap) n (idCs (N.set p (o, q))) := by
  rw [← idCs_set hp]
  exact ((h.stored (p * 2) (.int .i64 o)).1.stored (p * 2 + 1) (.int .u32 q)).1
theorem own_cell {w : World} {B e g n cap : Nat} {N : List (Int × Int)} (h : w.ownsRow B e 2 (.slice (some ⟨g, 0, none⟩) n cap) n (idCs N)) {k : Nat} {a b : Int} (hx : N[k]? = some (a, b)) :
    w.cell? ⟨g, k * 2, none⟩ = some (.int .i64 a) ∧ w.cell? ⟨g, k * 2 + 1, none⟩ = some (.int .u32 b) ∧ w.frozen? ⟨g, k * 2, none⟩ = false ∧ w.frozen? ⟨g, k * 2 + 1, none⟩ = false := by
  have hn : n * 2 = N.length * 2 := by rw [← h.1, idCs_len]
  have hk := (List.getElem?_eq_some_iff.1 hx).1
  obtain ⟨g0, g1⟩ := idCs_get hx
  exact ⟨by rw [h.cellAt (k * 2) (by omega), g0], by rw [h.cellAt (k * 2 + 1) (by omega), g1], h.frozenAt _, h.frozenAt _⟩
theorem own_blt {w : World} {B e g n cap : Nat} {xs : List Value} (h : w.ownsRow B e 2 (.slice (some ⟨g, 0, none⟩) n cap) n xs) : g < w.heap.size ∧ B ≤ g ∧ n ≤ cap ∧ cap ≤ 9223372036854775807 := by
  rcases h.2 with ⟨h1, _⟩ | ⟨g', cap', cur, h1, h2, h3, h4, h5, _⟩
  · cases h1
  · cases h1; exact ⟨Blk.lt h3, h2, h4, by unfold maxLen at h5; omega⟩
end Go.Proofs.Ythbdjgebpjffgaa

/-
  Two lists of names gone through in order, in plain mathematics; and what package dots' least answers.
  Conditions: none.
-/

namespace Go.Proofs.Ythbdjgebpjffgaa
open Go.RowKit Go.Shelf Go.Lib Go.Sort

/-- Each name of two lists, in order, with the lists that have it: 1, 2, or 3 for both. -/
def mrg : List (Int × Int) → List (Int × Int) → List ((Int × Int) × Nat)
  | [], b => b.map fun y => (y, 2)
  | x :: a, [] => (x :: a).map fun x => (x, 1)
  | x :: a, y :: b => if cf x y < 0 then (x, 1) :: mrg a (y :: b) else if 0 < cf x y then (y, 2) :: mrg (x :: a) b else (x, 3) :: mrg a b
termination_by a b => a.length + b.length
theorem mrg_none (a : List (Int × Int)) : mrg a [] = a.map fun x => (x, 1) := by cases a <;> simp [mrg]
theorem mrg_lt {x y : Int × Int} {a b : List (Int × Int)} (h : cf x y < 0) : mrg (x :: a) (y :: b) = (x, 1) :: mrg a (y :: b) := by rw [mrg, if_pos h]
theorem mrg_gt {x y : Int × Int} {a b : List (Int × Int)} (h : 0 < cf x y) : mrg (x :: a) (y :: b) = (y, 2) :: mrg (x :: a) b := by rw [mrg, if_neg (by omega), if_pos h]
theorem mrg_eq {x y : Int × Int} {a b : List (Int × Int)} (h : cf x y = 0) : mrg (x :: a) (y :: b) = (x, 3) :: mrg a b := by rw [mrg, if_neg (by omega), if_neg (by omega)]
theorem mrg_len : ∀ (a b : List (Int × Int)), (mrg a b).length ≤ a.length + b.length
  | [], b => by simp [mrg]
  | x :: a, [] => by simp [mrg]
  | x :: a, y :: b => by
    by_cases h : cf x y < 0
    · have := mrg_len a (y :: b); rw [mrg_lt h]; simp at this ⊢; omega
    · by_cases h1 : 0 < cf x y
      · have := mrg_len (x :: a) b; rw [mrg_gt h1]; simp at this ⊢; omega
      · have := mrg_len a b; rw [mrg_eq (by omega)]; simp at this ⊢; omega
termination_by a b => a.length + b.length
theorem mrg_mem (z : Int × Int) : ∀ (a b : List (Int × Int)), z ∈ (mrg a b).map Prod.fst ↔ z ∈ a ∨ z ∈ b
  | [], b => by simp [mrg]
  | x :: a, [] => by simp [mrg]
  | x :: a, y :: b => by
    by_cases h : cf x y < 0
    · have := mrg_mem z a (y :: b); rw [mrg_lt h, List.map_cons, List.mem_cons, this, List.mem_cons (a := z) (b := x) (l := a), or_assoc]
    · by_cases h1 : 0 < cf x y
      · have := mrg_mem z (x :: a) b; rw [mrg_gt h1, List.map_cons, List.mem_cons, this, List.mem_cons, List.mem_cons]
        constructor
        · rintro (k | (k | k) | k)
          · exact .inr (.inl k)
          · exact .inl (.inl k)
          · exact .inl (.inr k)
          · exact .inr (.inr k)
        · rintro ((k | k) | (k | k))
          · exact .inr (.inl (.inl k))
          · exact .inr (.inl (.inr k))
          · exact .inl k
          · exact .inr (.inr k)
      · have e : x = y := cf_zero.1 (by omega)
        have := mrg_mem z a b; rw [mrg_eq (by omega), List.map_cons, List.mem_cons, this, List.mem_cons, List.mem_cons, ← e]
        constructor
        · rintro (k | k | k)
          · exact .inl (.inl k)
          · exact .inl (.inr k)
          · exact .inr (.inr k)
        · rintro ((k | k) | (k | k))
          · exact .inl k
          · exact .inr (.inl k)
          · exact .inl k
          · exact .inr (.inr k)
termination_by a b => a.length + b.length
theorem asc_tail {x : Int × Int} {a : List (Int × Int)} (h : Asc (x :: a)) : Asc a ∧ ∀ z, z ∈ a → cf x z < 0 := ⟨(List.pairwise_cons.1 h).2, (List.pairwise_cons.1 h).1⟩
theorem mrg_asc : ∀ {a b : List (Int × Int)}, Asc a → Asc b → Asc ((mrg a b).map Prod.fst)
  | [], b, _, hb => by simpa [mrg, Function.comp_def] using hb
  | x :: a, [], ha, _ => by simpa [mrg, Function.comp_def] using ha
  | x :: a, y :: b, ha, hb => by
    obtain ⟨ha1, ha2⟩ := asc_tail ha
    obtain ⟨hb1, hb2⟩ := asc_tail hb
    by_cases h : cf x y < 0
    · rw [mrg_lt h, List.map_cons]
      refine List.pairwise_cons.2 ⟨fun z hz => ?_, mrg_asc ha1 hb⟩
      rcases (mrg_mem z a (y :: b)).1 hz with k | k
      · exact ha2 z k
      · rcases List.mem_cons.1 k with rfl | k
        · exact h
        · exact cf_trans h (hb2 z k)
    · by_cases h1 : 0 < cf x y
      · have h' := cf_gt.1 h1
        rw [mrg_gt h1, List.map_cons]
        refine List.pairwise_cons.2 ⟨fun z hz => ?_, mrg_asc ha hb1⟩
        rcases (mrg_mem z (x :: a) b).1 hz with k | k
        · rcases List.mem_cons.1 k with rfl | k
          · exact h'
          · exact cf_trans h' (ha2 z k)
        · exact hb2 z k
      · have e : x = y := cf_zero.1 (by omega)
        rw [mrg_eq (by omega), List.map_cons]
        refine List.pairwise_cons.2 ⟨fun z hz => ?_, mrg_asc ha1 hb1⟩
        rcases (mrg_mem z a b).1 hz with k | k
        · exact ha2 z k
        · rw [e]; exact hb2 z k
termination_by a b => a.length + b.length
/-- The names of both. -/
theorem mrg_set {a b : List (Int × Int)} (ha : Asc a) (hb : Asc b) : (mrg a b).map Prod.fst = setS (a ++ b) := setS_is (mrg_asc ha hb) fun z => by rw [mrg_mem, List.mem_append]
/-- The names of the first alone. -/
def onlyA (l : List ((Int × Int) × Nat)) : List (Int × Int) := (l.filter fun p => decide (p.2 = 1)).map Prod.fst
theorem onlyA_hit (pre : List ((Int × Int) × Nat)) {p : (Int × Int) × Nat} (h : p.2 = 1) : onlyA (pre ++ [p]) = onlyA pre ++ [p.1] := by simp [onlyA, h]
theorem onlyA_miss (pre : List ((Int × Int) × Nat)) {p : (Int × Int) × Nat} (h : ¬ p.2 = 1) : onlyA (pre ++ [p]) = onlyA pre := by simp [onlyA, h]
theorem mrg_minus : ∀ {a b : List (Int × Int)}, Asc a → Asc b → onlyA (mrg a b) = a.filter fun x => decide (x ∉ b)
  | [], b, _, hb => by
    rw [mrg, onlyA, List.filter_eq_nil_iff.2 (fun p hp => by obtain ⟨y, _, rfl⟩ := List.mem_map.1 hp; simp)]; rfl
  | x :: a, [], ha, _ => by
    have : ∀ l : List (Int × Int), onlyA (l.map fun x => (x, 1)) = l := fun l => by
      induction l with
      | nil => rfl
      | cons y r ih => simp [onlyA] at ih ⊢; exact ih
    rw [mrg_none, this]; symm; exact List.filter_eq_self.2 fun z _ => by simp
  | x :: a, y :: b, ha, hb => by
    obtain ⟨ha1, ha2⟩ := asc_tail ha
    obtain ⟨hb1, hb2⟩ := asc_tail hb
    by_cases h : cf x y < 0
    · have hx : x ∉ y :: b := by
        intro hx
        rcases List.mem_cons.1 hx with rfl | k
        · exact cf_irr _ h
        · exact cf_irr _ (cf_trans h (hb2 x k))
      rw [mrg_lt h, show onlyA ((x, 1) :: mrg a (y :: b)) = x :: onlyA (mrg a (y :: b)) by simp [onlyA], mrg_minus ha1 hb, List.filter_cons_of_pos (by simpa using hx)]
    · by_cases h1 : 0 < cf x y
      · have h' := cf_gt.1 h1
        rw [mrg_gt h1, show onlyA ((y, 2) :: mrg (x :: a) b) = onlyA (mrg (x :: a) b) by simp [onlyA], mrg_minus ha hb1]
        apply List.filter_congr
        intro z hz
        have hzy : cf y z < 0 := by
          rcases List.mem_cons.1 hz with rfl | k
          · exact h'
          · exact cf_trans h' (ha2 z k)
        have hne : z ≠ y := fun e => by subst e; exact cf_irr _ hzy
        simp [hne]
      · have e : x = y := cf_zero.1 (by omega)
        subst e
        rw [mrg_eq (by omega), show onlyA ((x, 3) :: mrg a b) = onlyA (mrg a b) by simp [onlyA], mrg_minus ha1 hb1, List.filter_cons_of_neg (by simp)]
        apply List.filter_congr
        intro z hz
        have hne : z ≠ x := fun e => by subst e; exact cf_irr _ (ha2 z hz)
        simp [hne]
termination_by a b => a.length + b.length
end Go.Proofs.Ythbdjgebpjffgaa

/-
  What package dots' least answers of two lists, of which one may be empty.
  Conditions: none.
-/

namespace Go.Proofs.Ythbdjgebpjffgaa
open Go.RowKit Go.Shelf Go.Lib Go.Sort

theorem at_zero {w : World} {al : Option Addr} {len cap : Nat} {o q : Int} {A : List (Int × Int)} (h : Ids w al len cap ((o, q) :: A)) : ∃ b off, al = some ⟨b, off, none⟩ ∧ w.cell? ⟨b, off, none⟩ = some (.int .i64 o) ∧ w.cell? ⟨b, off + 1, none⟩ = some (.int .u32 q) ∧ 0 < len := by
  have hl := h.ln
  have h0 : 0 < len := by rw [hl]; simp
  obtain ⟨b, off, o', q', e, hx, i0, i1⟩ := h.nth 0 h0
  simp at hx
  obtain ⟨rfl, rfl⟩ := hx
  exact ⟨b, off, e, by simpa using i0, by simpa using i1, h0⟩
theorem len_nil {w : World} {al : Option Addr} {len cap : Nat} (h : Ids w al len cap []) : len = 0 := h.ln
/-- Both heads, and the call's own block. -/
structure LS (w0 : World) (b p b' p' : Nat) (o q x y : Int) (w : World) : Prop where
  bel : Below w0.heap.size w0 w
  z : Blk w w0.heap.size #[.int .i64 0, .int .u32 0] 29
  i0 : w0.cell? ⟨b, p, none⟩ = some (.int .i64 o)
  i1 : w0.cell? ⟨b, p + 1, none⟩ = some (.int .u32 q)
  j0 : w0.cell? ⟨b', p', none⟩ = some (.int .i64 x)
  j1 : w0.cell? ⟨b', p' + 1, none⟩ = some (.int .u32 y)
section
variable {w0 w w' : World} {b p b' p' : Nat} {o q x y : Int}
theorem LS.next (h : LS w0 b p b' p' o q x y w) (k : Below w.heap.size w w') : LS w0 b p b' p' o q x y w' := ⟨below_then h.bel k, h.z.below k, h.i0, h.i1, h.j0, h.j1⟩
theorem LS.drew (h : LS w0 b p b' p' o q x y w) : LS w0 b p b' p' o q x y w.drew := h.next (Below.refl _ _).drew
theorem LS.all (h : LS w0 b p b' p' o q x y w) : w.cell? ⟨b, p, none⟩ = some (.int .i64 o) ∧ w.cell? ⟨b, p + 1, none⟩ = some (.int .u32 q) ∧ w.cell? ⟨b', p', none⟩ = some (.int .i64 x) ∧ w.cell? ⟨b', p' + 1, none⟩ = some (.int .u32 y) ∧ LS w0 b p b' p' o q x y w :=
  ⟨(h.bel.cell (p := ⟨b, p, none⟩) (cellLt h.i0)).trans h.i0, (h.bel.cell (p := ⟨b, p + 1, none⟩) (cellLt h.i1)).trans h.i1, (h.bel.cell (p := ⟨b', p', none⟩) (cellLt h.j0)).trans h.j0, (h.bel.cell (p := ⟨b', p' + 1, none⟩) (cellLt h.j1)).trans h.j1, h⟩
theorem LS.held {A B C D : Prop} (h : A ∧ B ∧ C ∧ D ∧ LS w0 b p b' p' o q x y w) : LS w0 b p b' p' o q x y w := h.2.2.2.2
theorem compare_LS (a c a' c' : Int) (r : Int) (hr : cmpI a c a' c' = r) (h : LS w0 b p b' p' o q x y w) :
    Calls Try.prog 61 #[.agg #[.int .i64 a, .int .u32 c], .agg #[.int .i64 a', .int .u32 c']] w fun e w' => e = .returned (.int .i64 r) ∧ LS w0 b p b' p' o q x y w' :=
  (compare_any a c a' c' w).mono fun _ _ ⟨h1, h2⟩ => ⟨hr ▸ h1, h.next h2⟩
end

end Go.Proofs.Ythbdjgebpjffgaa
