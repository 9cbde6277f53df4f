/-
  Vectors of eight numbers: what of two of them is the greater one, the bounds, the sum; a vector's eight cells in memory. Plain lemmas; of the program they name the vectors' type alone.
  Conditions: none.
-/
import Derived.Test.YthbdjgebpjffgaaGreatDoorOctK
import Derived.Test.YthbdjgebpjffgaaGreatDoorRows
import Derived.Laws.IdiomArrays
import Derived.Laws.StructEq
set_option linter.unusedVariables false
set_option linter.unusedSimpArgs false
namespace Go.Proofs.YthbdjgebpjffgaaGreatDoor
open Go.RowKit

/-- Are all eight counts? -/
def okV (v : Nat → Int) : Bool := (List.range 8).all fun i => decide (v i ≤ 1048576)
/-- What is wrong with a vector: 2, or nothing. -/
def chkV (v : Nat → Int) : Int := if okV v = true then 0 else 2
/-- Is no element of a greater than that of b? -/
def leV (a b : Nat → Int) : Bool := (List.range 8).all fun i => decide (a i ≤ b i)
/-- Are they the same? -/
def eqV (a b : Nat → Int) : Bool := (List.range 8).all fun i => decide (a i = b i)
def joinV (a b : Nat → Int) (i : Nat) : Int := if b i > a i then b i else a i
def meetV (a b : Nat → Int) (i : Nat) : Int := if b i < a i then b i else a i
/-- The first k elements of a, the rest of b. -/
def mixV (k : Nat) (a b : Nat → Int) (i : Nat) : Int := if i < k then a i else b i
def setV (v : Nat → Int) (k : Nat) (x : Int) (i : Nat) : Int := if i = k then x else v i
/-- The sum of the first k elements. -/
def totV (v : Nat → Int) : Nat → Int
  | 0 => 0
  | k + 1 => totV v k + v k

theorem okV_iff {v : Nat → Int} : okV v = true ↔ ∀ i, i < 8 → v i ≤ 1048576 := by simp [okV]
theorem leV_iff {a b : Nat → Int} : leV a b = true ↔ ∀ i, i < 8 → a i ≤ b i := by simp [leV]
theorem eqV_iff {a b : Nat → Int} : eqV a b = true ↔ ∀ i, i < 8 → a i = b i := by simp [eqV]
theorem okV_no {v : Nat → Int} {k : Nat} (hk : k < 8) (h : 1048576 < v k) : okV v = false := by
  cases e : okV v
  · rfl
  · exact absurd (okV_iff.1 e k hk) (by omega)
theorem leV_no {a b : Nat → Int} {k : Nat} (hk : k < 8) (h : b k < a k) : leV a b = false := by
  cases e : leV a b
  · rfl
  · exact absurd (leV_iff.1 e k hk) (by omega)
theorem eqV_no {a b : Nat → Int} {k : Nat} (hk : k < 8) (h : ¬ a k = b k) : eqV a b = false := by
  cases e : eqV a b
  · rfl
  · exact absurd (eqV_iff.1 e k hk) h
theorem chkV_yes {v : Nat → Int} (h : okV v = true) : chkV v = 0 := by unfold chkV; rw [if_pos h]
theorem chkV_no {v : Nat → Int} (h : okV v = false) : chkV v = 2 := by unfold chkV; rw [h]; rfl
theorem join_le {a b : Nat → Int} : eqV (joinV a b) b = leV a b := by
  rw [Bool.eq_iff_iff, eqV_iff, leV_iff]
  constructor
  · intro h i hi; have := h i hi; unfold joinV at this; split at this <;> omega
  · intro h i hi; have := h i hi; unfold joinV; split <;> omega
theorem totV_bd {v : Nat → Int} (h : ∀ i, i < 8 → 0 ≤ v i ∧ v i ≤ 4294967295) : ∀ k, k ≤ 8 → 0 ≤ totV v k ∧ totV v k ≤ k * 4294967295
  | 0, _ => by simp [totV]
  | k + 1, hk => by
    have := totV_bd h k (by omega)
    have := h k (by omega)
    simp only [totV]
    omega

/-- Eight cells: as far as they go, of the vector. -/
theorem vec_get (v : Nat → Int) (k : Nat) (hk : k < 8) : (#[.int .u32 (v 0), .int .u32 (v 1), .int .u32 (v 2), .int .u32 (v 3), .int .u32 (v 4), .int .u32 (v 5), .int .u32 (v 6), .int .u32 (v 7)] : Array Value)[k]? = some (.int .u32 (v k)) := by
  match k, hk with
  | 0, _ => rfl
  | 1, _ => rfl
  | 2, _ => rfl
  | 3, _ => rfl
  | 4, _ => rfl
  | 5, _ => rfl
  | 6, _ => rfl
  | 7, _ => rfl
theorem vec_set (v : Nat → Int) (k : Nat) (hk : k < 8) (x : Int) : (#[.int .u32 (v 0), .int .u32 (v 1), .int .u32 (v 2), .int .u32 (v 3), .int .u32 (v 4), .int .u32 (v 5), .int .u32 (v 6), .int .u32 (v 7)] : Array Value).setIfInBounds k (.int .u32 x) = #[.int .u32 (setV v k x 0), .int .u32 (setV v k x 1), .int .u32 (setV v k x 2), .int .u32 (setV v k x 3), .int .u32 (setV v k x 4), .int .u32 (setV v k x 5), .int .u32 (setV v k x 6), .int .u32 (setV v k x 7)] := by
  match k, hk with
  | 0, _ => rfl
  | 1, _ => rfl
  | 2, _ => rfl
  | 3, _ => rfl
  | 4, _ => rfl
  | 5, _ => rfl
  | 6, _ => rfl
  | 7, _ => rfl
theorem vec_congr {a b : Nat → Int} (h : ∀ i, i < 8 → a i = b i) : (#[.int .u32 (a 0), .int .u32 (a 1), .int .u32 (a 2), .int .u32 (a 3), .int .u32 (a 4), .int .u32 (a 5), .int .u32 (a 6), .int .u32 (a 7)] : Array Value) = #[.int .u32 (b 0), .int .u32 (b 1), .int .u32 (b 2), .int .u32 (b 3), .int .u32 (b 4), .int .u32 (b 5), .int .u32 (b 6), .int .u32 (b 7)] := by
  rw [h 0 (by omega), h 1 (by omega), h 2 (by omega), h 3 (by omega), h 4 (by omega), h 5 (by omega), h 6 (by omega), h 7 (by omega)]
theorem mix_step {a b : Nat → Int} {k : Nat} (hk : k < 8) : (#[.int .u32 (setV (mixV k a b) k (a k) 0), .int .u32 (setV (mixV k a b) k (a k) 1), .int .u32 (setV (mixV k a b) k (a k) 2), .int .u32 (setV (mixV k a b) k (a k) 3), .int .u32 (setV (mixV k a b) k (a k) 4), .int .u32 (setV (mixV k a b) k (a k) 5), .int .u32 (setV (mixV k a b) k (a k) 6), .int .u32 (setV (mixV k a b) k (a k) 7)] : Array Value) = #[.int .u32 (mixV (k + 1) a b 0), .int .u32 (mixV (k + 1) a b 1), .int .u32 (mixV (k + 1) a b 2), .int .u32 (mixV (k + 1) a b 3), .int .u32 (mixV (k + 1) a b 4), .int .u32 (mixV (k + 1) a b 5), .int .u32 (mixV (k + 1) a b 6), .int .u32 (mixV (k + 1) a b 7)] :=
  vec_congr fun i _ => by
    unfold setV mixV
    by_cases h : i = k
    · subst h; rw [if_pos rfl, if_pos (by omega)]
    · rw [if_neg h]
      by_cases h2 : i < k
      · rw [if_pos h2, if_pos (by omega)]
      · rw [if_neg h2, if_neg (by omega)]
theorem mix_none {a b : Nat → Int} : (#[.int .u32 (b 0), .int .u32 (b 1), .int .u32 (b 2), .int .u32 (b 3), .int .u32 (b 4), .int .u32 (b 5), .int .u32 (b 6), .int .u32 (b 7)] : Array Value) = #[.int .u32 (mixV 0 a b 0), .int .u32 (mixV 0 a b 1), .int .u32 (mixV 0 a b 2), .int .u32 (mixV 0 a b 3), .int .u32 (mixV 0 a b 4), .int .u32 (mixV 0 a b 5), .int .u32 (mixV 0 a b 6), .int .u32 (mixV 0 a b 7)] := vec_congr fun i _ => by unfold mixV; rw [if_neg (by omega)]
theorem mix_all {a b : Nat → Int} : (#[.int .u32 (mixV 8 a b 0), .int .u32 (mixV 8 a b 1), .int .u32 (mixV 8 a b 2), .int .u32 (mixV 8 a b 3), .int .u32 (mixV 8 a b 4), .int .u32 (mixV 8 a b 5), .int .u32 (mixV 8 a b 6), .int .u32 (mixV 8 a b 7)] : Array Value) = #[.int .u32 (a 0), .int .u32 (a 1), .int .u32 (a 2), .int .u32 (a 3), .int .u32 (a 4), .int .u32 (a 5), .int .u32 (a 6), .int .u32 (a 7)] := vec_congr fun i h => by unfold mixV; rw [if_pos h]
theorem mix_at {a b : Nat → Int} {k : Nat} : mixV k a b k = b k := by unfold mixV; rw [if_neg (by omega)]

theorem vec_one (v : Nat → Int) : (#[.int .u32 (v 0), .int .u32 (v 1), .int .u32 (v 2), .int .u32 (v 3), .int .u32 (v 4), .int .u32 (v 5), .int .u32 (v 6), .int .u32 (v 7)] : Array Value).all (·.oneCell') = true := by kernel_rfl

theorem vec_index (v : Nat → Int) (k : Nat) (hk : k < 8) (w : World) : (Instr.index 24 (.agg #[.int .u32 (v 0), .int .u32 (v 1), .int .u32 (v 2), .int .u32 (v 3), .int .u32 (v 4), .int .u32 (v 5), .int .u32 (v 6), .int .u32 (v 7)]) (.int .i64 (k : Int))).run Tryz.prog w = .ok (.int .u32 (v k)) w := by
  have i0 : (Instr.index 24 (.agg #[.int .u32 (v 0), .int .u32 (v 1), .int .u32 (v 2), .int .u32 (v 3), .int .u32 (v 4), .int .u32 (v 5), .int .u32 (v 6), .int .u32 (v 7)]) (.int .i64 ((0 : Nat) : Int))).run Tryz.prog w = .ok (.int .u32 (v 0)) w := by kernel_rfl
  have i1 : (Instr.index 24 (.agg #[.int .u32 (v 0), .int .u32 (v 1), .int .u32 (v 2), .int .u32 (v 3), .int .u32 (v 4), .int .u32 (v 5), .int .u32 (v 6), .int .u32 (v 7)]) (.int .i64 ((1 : Nat) : Int))).run Tryz.prog w = .ok (.int .u32 (v 1)) w := by kernel_rfl
  have i2 : (Instr.index 24 (.agg #[.int .u32 (v 0), .int .u32 (v 1), .int .u32 (v 2), .int .u32 (v 3), .int .u32 (v 4), .int .u32 (v 5), .int .u32 (v 6), .int .u32 (v 7)]) (.int .i64 ((2 : Nat) : Int))).run Tryz.prog w = .ok (.int .u32 (v 2)) w := by kernel_rfl
  have i3 : (Instr.index 24 (.agg #[.int .u32 (v 0), .int .u32 (v 1), .int .u32 (v 2), .int .u32 (v 3), .int .u32 (v 4), .int .u32 (v 5), .int .u32 (v 6), .int .u32 (v 7)]) (.int .i64 ((3 : Nat) : Int))).run Tryz.prog w = .ok (.int .u32 (v 3)) w := by kernel_rfl
  have i4 : (Instr.index 24 (.agg #[.int .u32 (v 0), .int .u32 (v 1), .int .u32 (v 2), .int .u32 (v 3), .int .u32 (v 4), .int .u32 (v 5), .int .u32 (v 6), .int .u32 (v 7)]) (.int .i64 ((4 : Nat) : Int))).run Tryz.prog w = .ok (.int .u32 (v 4)) w := by kernel_rfl
  have i5 : (Instr.index 24 (.agg #[.int .u32 (v 0), .int .u32 (v 1), .int .u32 (v 2), .int .u32 (v 3), .int .u32 (v 4), .int .u32 (v 5), .int .u32 (v 6), .int .u32 (v 7)]) (.int .i64 ((5 : Nat) : Int))).run Tryz.prog w = .ok (.int .u32 (v 5)) w := by kernel_rfl
  have i6 : (Instr.index 24 (.agg #[.int .u32 (v 0), .int .u32 (v 1), .int .u32 (v 2), .int .u32 (v 3), .int .u32 (v 4), .int .u32 (v 5), .int .u32 (v 6), .int .u32 (v 7)]) (.int .i64 ((6 : Nat) : Int))).run Tryz.prog w = .ok (.int .u32 (v 6)) w := by kernel_rfl
  have i7 : (Instr.index 24 (.agg #[.int .u32 (v 0), .int .u32 (v 1), .int .u32 (v 2), .int .u32 (v 3), .int .u32 (v 4), .int .u32 (v 5), .int .u32 (v 6), .int .u32 (v 7)]) (.int .i64 ((7 : Nat) : Int))).run Tryz.prog w = .ok (.int .u32 (v 7)) w := by kernel_rfl
  match k, hk with
  | 0, _ => exact i0
  | 1, _ => exact i1
  | 2, _ => exact i2
  | 3, _ => exact i3
  | 4, _ => exact i4
  | 5, _ => exact i5
  | 6, _ => exact i6
  | 7, _ => exact i7
theorem vec_cell {w : World} {g : Nat} {v : Nat → Int} {T : TypeId} (h : Blk w g #[.int .u32 (v 0), .int .u32 (v 1), .int .u32 (v 2), .int .u32 (v 3), .int .u32 (v 4), .int .u32 (v 5), .int .u32 (v 6), .int .u32 (v 7)] T) (k : Nat) (hk : k < 8) : w.cell? ⟨g, k, none⟩ = some (.int .u32 (v k)) := by
  rw [Blk.cell h]; exact vec_get v k hk
/-- All eight cells at once. -/
def Cells8 (w : World) (g : Nat) (v : Nat → Int) : Prop :=
  w.cell? ⟨g, 0, none⟩ = some (.int .u32 (v 0)) ∧ w.cell? ⟨g, 1, none⟩ = some (.int .u32 (v 1)) ∧ w.cell? ⟨g, 2, none⟩ = some (.int .u32 (v 2)) ∧ w.cell? ⟨g, 3, none⟩ = some (.int .u32 (v 3)) ∧ w.cell? ⟨g, 4, none⟩ = some (.int .u32 (v 4)) ∧ w.cell? ⟨g, 5, none⟩ = some (.int .u32 (v 5)) ∧ w.cell? ⟨g, 6, none⟩ = some (.int .u32 (v 6)) ∧ w.cell? ⟨g, 7, none⟩ = some (.int .u32 (v 7))
theorem vec_cells {w : World} {g : Nat} {v : Nat → Int} {T : TypeId} (h : Blk w g #[.int .u32 (v 0), .int .u32 (v 1), .int .u32 (v 2), .int .u32 (v 3), .int .u32 (v 4), .int .u32 (v 5), .int .u32 (v 6), .int .u32 (v 7)] T) : Cells8 w g v :=
  ⟨vec_cell h 0 (by omega), vec_cell h 1 (by omega), vec_cell h 2 (by omega), vec_cell h 3 (by omega), vec_cell h 4 (by omega), vec_cell h 5 (by omega), vec_cell h 6 (by omega), vec_cell h 7 (by omega)⟩

end Go.Proofs.YthbdjgebpjffgaaGreatDoor
