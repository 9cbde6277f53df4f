/-
  Two lists of names gone through in order, in plain mathematics; and what package dots' least answers.
  Conditions: none.
-/
import Derived.Test.YthbdjgebpjffgaaGreatDoorDotE
import Derived.Test.YthbdjgebpjffgaaGreatDoorDotI
set_option linter.unusedVariables false
set_option linter.unusedSimpArgs false
namespace Go.Proofs.YthbdjgebpjffgaaGreatDoor
open Go.RowKit Go.Shelf Go.Lib Go.Sort

/-- Each name of two lists, in order, with the lists that have it: 1, 2, or 3 for both. -/
def mrg : List (Int × Int) → List (Int × Int) → List ((Int × Int) × Nat)
  | [], b => b.map fun y => (y, 2)
  | x :: a, [] => (x :: a).map fun x => (x, 1)
  | x :: a, y :: b => if cf x y < 0 then (x, 1) :: mrg a (y :: b) else if 0 < cf x y then (y, 2) :: mrg (x :: a) b else (x, 3) :: mrg a b
termination_by a b => a.length + b.length
theorem mrg_none (a : List (Int × Int)) : mrg a [] = a.map fun x => (x, 1) := by cases a <;> simp [mrg]
theorem mrg_lt {x y : Int × Int} {a b : List (Int × Int)} (h : cf x y < 0) : mrg (x :: a) (y :: b) = (x, 1) :: mrg a (y :: b) := by rw [mrg, if_pos h]
theorem mrg_gt {x y : Int × Int} {a b : List (Int × Int)} (h : 0 < cf x y) : mrg (x :: a) (y :: b) = (y, 2) :: mrg (x :: a) b := by rw [mrg, if_neg (by omega), if_pos h]
theorem mrg_eq {x y : Int × Int} {a b : List (Int × Int)} (h : cf x y = 0) : mrg (x :: a) (y :: b) = (x, 3) :: mrg a b := by rw [mrg, if_neg (by omega), if_neg (by omega)]
theorem mrg_len : ∀ (a b : List (Int × Int)), (mrg a b).length ≤ a.length + b.length
  | [], b => by simp [mrg]
  | x :: a, [] => by simp [mrg]
  | x :: a, y :: b => by
    by_cases h : cf x y < 0
    · have := mrg_len a (y :: b); rw [mrg_lt h]; simp at this ⊢; omega
    · by_cases h1 : 0 < cf x y
      · have := mrg_len (x :: a) b; rw [mrg_gt h1]; simp at this ⊢; omega
      · have := mrg_len a b; rw [mrg_eq (by omega)]; simp at this ⊢; omega
termination_by a b => a.length + b.length
theorem mrg_mem (z : Int × Int) : ∀ (a b : List (Int × Int)), z ∈ (mrg a b).map Prod.fst ↔ z ∈ a ∨ z ∈ b
  | [], b => by simp [mrg]
  | x :: a, [] => by simp [mrg]
  | x :: a, y :: b => by
    by_cases h : cf x y < 0
    · have := mrg_mem z a (y :: b); rw [mrg_lt h, List.map_cons, List.mem_cons, this, List.mem_cons (a := z) (b := x) (l := a), or_assoc]
    · by_cases h1 : 0 < cf x y
      · have := mrg_mem z (x :: a) b; rw [mrg_gt h1, List.map_cons, List.mem_cons, this, List.mem_cons, List.mem_cons]
        constructor
        · rintro (k | (k | k) | k)
          · exact .inr (.inl k)
          · exact .inl (.inl k)
          · exact .inl (.inr k)
          · exact .inr (.inr k)
        · rintro ((k | k) | (k | k))
          · exact .inr (.inl (.inl k))
          · exact .inr (.inl (.inr k))
          · exact .inl k
          · exact .inr (.inr k)
      · have e : x = y := cf_zero.1 (by omega)
        have := mrg_mem z a b; rw [mrg_eq (by omega), List.map_cons, List.mem_cons, this, List.mem_cons, List.mem_cons, ← e]
        constructor
        · rintro (k | k | k)
          · exact .inl (.inl k)
          · exact .inl (.inr k)
          · exact .inr (.inr k)
        · rintro ((k | k) | (k | k))
          · exact .inl k
          · exact .inr (.inl k)
          · exact .inl k
          · exact .inr (.inr k)
termination_by a b => a.length + b.length
theorem asc_tail {x : Int × Int} {a : List (Int × Int)} (h : Asc (x :: a)) : Asc a ∧ ∀ z, z ∈ a → cf x z < 0 := ⟨(List.pairwise_cons.1 h).2, (List.pairwise_cons.1 h).1⟩
theorem mrg_asc : ∀ {a b : List (Int × Int)}, Asc a → Asc b → Asc ((mrg a b).map Prod.fst)
  | [], b, _, hb => by simpa [mrg, Function.comp_def] using hb
  | x :: a, [], ha, _ => by simpa [mrg, Function.comp_def] using ha
  | x :: a, y :: b, ha, hb => by
    obtain ⟨ha1, ha2⟩ := asc_tail ha
    obtain ⟨hb1, hb2⟩ := asc_tail hb
    by_cases h : cf x y < 0
    · rw [mrg_lt h, List.map_cons]
      refine List.pairwise_cons.2 ⟨fun z hz => ?_, mrg_asc ha1 hb⟩
      rcases (mrg_mem z a (y :: b)).1 hz with k | k
      · exact ha2 z k
      · rcases List.mem_cons.1 k with rfl | k
        · exact h
        · exact cf_trans h (hb2 z k)
    · by_cases h1 : 0 < cf x y
      · have h' := cf_gt.1 h1
        rw [mrg_gt h1, List.map_cons]
        refine List.pairwise_cons.2 ⟨fun z hz => ?_, mrg_asc ha hb1⟩
        rcases (mrg_mem z (x :: a) b).1 hz with k | k
        · rcases List.mem_cons.1 k with rfl | k
          · exact h'
          · exact cf_trans h' (ha2 z k)
        · exact hb2 z k
      · have e : x = y := cf_zero.1 (by omega)
        rw [mrg_eq (by omega), List.map_cons]
        refine List.pairwise_cons.2 ⟨fun z hz => ?_, mrg_asc ha1 hb1⟩
        rcases (mrg_mem z a b).1 hz with k | k
        · exact ha2 z k
        · rw [e]; exact hb2 z k
termination_by a b => a.length + b.length
/-- The names of both. -/
theorem mrg_set {a b : List (Int × Int)} (ha : Asc a) (hb : Asc b) : (mrg a b).map Prod.fst = setS (a ++ b) := setS_is (mrg_asc ha hb) fun z => by rw [mrg_mem, List.mem_append]
/-- The names of the first alone. -/
def onlyA (l : List ((Int × Int) × Nat)) : List (Int × Int) := (l.filter fun p => decide (p.2 = 1)).map Prod.fst
theorem onlyA_hit (pre : List ((Int × Int) × Nat)) {p : (Int × Int) × Nat} (h : p.2 = 1) : onlyA (pre ++ [p]) = onlyA pre ++ [p.1] := by simp [onlyA, h]
theorem onlyA_miss (pre : List ((Int × Int) × Nat)) {p : (Int × Int) × Nat} (h : ¬ p.2 = 1) : onlyA (pre ++ [p]) = onlyA pre := by simp [onlyA, h]
theorem mrg_minus : ∀ {a b : List (Int × Int)}, Asc a → Asc b → onlyA (mrg a b) = a.filter fun x => decide (x ∉ b)
  | [], b, _, hb => by
    rw [mrg, onlyA, List.filter_eq_nil_iff.2 (fun p hp => by obtain ⟨y, _, rfl⟩ := List.mem_map.1 hp; simp)]; rfl
  | x :: a, [], ha, _ => by
    have : ∀ l : List (Int × Int), onlyA (l.map fun x => (x, 1)) = l := fun l => by
      induction l with
      | nil => rfl
      | cons y r ih => simp [onlyA] at ih ⊢; exact ih
    rw [mrg_none, this]; symm; exact List.filter_eq_self.2 fun z _ => by simp
  | x :: a, y :: b, ha, hb => by
    obtain ⟨ha1, ha2⟩ := asc_tail ha
    obtain ⟨hb1, hb2⟩ := asc_tail hb
    by_cases h : cf x y < 0
    · have hx : x ∉ y :: b := by
        intro hx
        rcases List.mem_cons.1 hx with rfl | k
        · exact cf_irr _ h
        · exact cf_irr _ (cf_trans h (hb2 x k))
      rw [mrg_lt h, show onlyA ((x, 1) :: mrg a (y :: b)) = x :: onlyA (mrg a (y :: b)) by simp [onlyA], mrg_minus ha1 hb, List.filter_cons_of_pos (by simpa using hx)]
    · by_cases h1 : 0 < cf x y
      · have h' := cf_gt.1 h1
        rw [mrg_gt h1, show onlyA ((y, 2) :: mrg (x :: a) b) = onlyA (mrg (x :: a) b) by simp [onlyA], mrg_minus ha hb1]
        apply List.filter_congr
        intro z hz
        have hzy : cf y z < 0 := by
          rcases List.mem_cons.1 hz with rfl | k
          · exact h'
          · exact cf_trans h' (ha2 z k)
        have hne : z ≠ y := fun e => by subst e; exact cf_irr _ hzy
        simp [hne]
      · have e : x = y := cf_zero.1 (by omega)
        subst e
        rw [mrg_eq (by omega), show onlyA ((x, 3) :: mrg a b) = onlyA (mrg a b) by simp [onlyA], mrg_minus ha1 hb1, List.filter_cons_of_neg (by simp)]
        apply List.filter_congr
        intro z hz
        have hne : z ≠ x := fun e => by subst e; exact cf_irr _ (ha2 z hz)
        simp [hne]
termination_by a b => a.length + b.length
end Go.Proofs.YthbdjgebpjffgaaGreatDoor

/-
  What package dots' least answers of two lists, of which one may be empty.
  Conditions: none.
-/

namespace Go.Proofs.YthbdjgebpjffgaaGreatDoor
open Go.RowKit Go.Shelf Go.Lib Go.Sort

theorem at_zero {w : World} {al : Option Addr} {len cap : Nat} {o q : Int} {A : List (Int × Int)} (h : Ids w al len cap ((o, q) :: A)) : ∃ b off, al = some ⟨b, off, none⟩ ∧ w.cell? ⟨b, off, none⟩ = some (.int .i64 o) ∧ w.cell? ⟨b, off + 1, none⟩ = some (.int .u32 q) ∧ 0 < len := by
  have hl := h.ln
  have h0 : 0 < len := by rw [hl]; simp
  obtain ⟨b, off, o', q', e, hx, i0, i1⟩ := h.nth 0 h0
  simp at hx
  obtain ⟨rfl, rfl⟩ := hx
  exact ⟨b, off, e, by simpa using i0, by simpa using i1, h0⟩
theorem len_nil {w : World} {al : Option Addr} {len cap : Nat} (h : Ids w al len cap []) : len = 0 := h.ln
/-- Both heads, and the call's own block. -/
structure LS (w0 : World) (b p b' p' : Nat) (o q x y : Int) (w : World) : Prop where
  bel : Below w0.heap.size w0 w
  z : Blk w w0.heap.size #[.int .i64 0, .int .u32 0] 83
  i0 : w0.cell? ⟨b, p, none⟩ = some (.int .i64 o)
  i1 : w0.cell? ⟨b, p + 1, none⟩ = some (.int .u32 q)
  j0 : w0.cell? ⟨b', p', none⟩ = some (.int .i64 x)
  j1 : w0.cell? ⟨b', p' + 1, none⟩ = some (.int .u32 y)
section
variable {w0 w w' : World} {b p b' p' : Nat} {o q x y : Int}
theorem LS.next (h : LS w0 b p b' p' o q x y w) (k : Below w.heap.size w w') : LS w0 b p b' p' o q x y w' := ⟨below_then h.bel k, h.z.below k, h.i0, h.i1, h.j0, h.j1⟩
theorem LS.drew (h : LS w0 b p b' p' o q x y w) : LS w0 b p b' p' o q x y w.drew := h.next (Below.refl _ _).drew
theorem LS.all (h : LS w0 b p b' p' o q x y w) : w.cell? ⟨b, p, none⟩ = some (.int .i64 o) ∧ w.cell? ⟨b, p + 1, none⟩ = some (.int .u32 q) ∧ w.cell? ⟨b', p', none⟩ = some (.int .i64 x) ∧ w.cell? ⟨b', p' + 1, none⟩ = some (.int .u32 y) ∧ LS w0 b p b' p' o q x y w :=
  ⟨(h.bel.cell (p := ⟨b, p, none⟩) (cellLt h.i0)).trans h.i0, (h.bel.cell (p := ⟨b, p + 1, none⟩) (cellLt h.i1)).trans h.i1, (h.bel.cell (p := ⟨b', p', none⟩) (cellLt h.j0)).trans h.j0, (h.bel.cell (p := ⟨b', p' + 1, none⟩) (cellLt h.j1)).trans h.j1, h⟩
theorem LS.held {A B C D : Prop} (h : A ∧ B ∧ C ∧ D ∧ LS w0 b p b' p' o q x y w) : LS w0 b p b' p' o q x y w := h.2.2.2.2
theorem compare_LS (a c a' c' : Int) (r : Int) (hr : cmpI a c a' c' = r) (h : LS w0 b p b' p' o q x y w) :
    Calls Tryz.prog 58 #[.agg #[.int .i64 a, .int .u32 c], .agg #[.int .i64 a', .int .u32 c']] w fun e w' => e = .returned (.int .i64 r) ∧ LS w0 b p b' p' o q x y w' :=
  (compare_any a c a' c' w).mono fun _ _ ⟨h1, h2⟩ => ⟨hr ▸ h1, h.next h2⟩
end

end Go.Proofs.YthbdjgebpjffgaaGreatDoor
