/-
  Lists of names in plain mathematics: valid ones, ascending ones, the set of a list's names in order, and what folding a set into a vector gives. They speak of no program.
  Conditions: none.
-/
import Derived.Test.YthbdjgebpjffgaaGreatDoorIdC
import Derived.Sort.Statements
set_option linter.unusedVariables false
set_option linter.unusedSimpArgs false
namespace Go.Proofs.YthbdjgebpjffgaaGreatDoor
open Go.RowKit

/-- How two names stand. -/
def cf (x y : Int × Int) : Int := cmpI x.1 x.2 y.1 y.2
theorem cmpZ_val (a b : Int) : (a < b ∧ cmpZ a b = -1) ∨ (b < a ∧ cmpZ a b = 1) ∨ (a = b ∧ cmpZ a b = 0) := by
  unfold cmpZ
  by_cases h1 : a < b
  · exact .inl ⟨h1, by rw [if_pos h1]⟩
  · by_cases h2 : b < a
    · exact .inr (.inl ⟨h2, by rw [if_neg h1, if_pos h2]⟩)
    · exact .inr (.inr ⟨by omega, by rw [if_neg h1, if_neg h2]⟩)
theorem cf_val (x y : Int × Int) : ((x.1 < y.1 ∨ x.1 = y.1 ∧ x.2 < y.2) ∧ cf x y = -1) ∨ ((y.1 < x.1 ∨ y.1 = x.1 ∧ y.2 < x.2) ∧ cf x y = 1) ∨ (x = y ∧ cf x y = 0) := by
  unfold cf cmpI
  rcases cmpZ_val x.1 y.1 with ⟨h, e⟩ | ⟨h, e⟩ | ⟨h, e⟩
  · rw [e, if_neg (by decide)]; exact .inl ⟨.inl h, rfl⟩
  · rw [e, if_neg (by decide)]; exact .inr (.inl ⟨.inl h, rfl⟩)
  · rw [e, if_pos rfl]
    rcases cmpZ_val x.2 y.2 with ⟨h', e'⟩ | ⟨h', e'⟩ | ⟨h', e'⟩
    · exact .inl ⟨.inr ⟨h, h'⟩, e'⟩
    · exact .inr (.inl ⟨.inr ⟨h.symm, h'⟩, e'⟩)
    · exact .inr (.inr ⟨Prod.ext h h', e'⟩)
theorem cf_lt {x y : Int × Int} : cf x y < 0 ↔ (x.1 < y.1 ∨ x.1 = y.1 ∧ x.2 < y.2) := by
  rcases cf_val x y with ⟨h, e⟩ | ⟨h, e⟩ | ⟨h, e⟩
  · rw [e]; exact ⟨fun _ => h, fun _ => by decide⟩
  · rw [e]; exact ⟨fun k => absurd k (by decide), fun k => by omega⟩
  · rw [e]; subst h; exact ⟨fun k => absurd k (by decide), fun k => by omega⟩
theorem cf_gt {x y : Int × Int} : 0 < cf x y ↔ cf y x < 0 := by
  rw [cf_lt]
  rcases cf_val x y with ⟨h, e⟩ | ⟨h, e⟩ | ⟨h, e⟩
  · rw [e]; exact ⟨fun k => absurd k (by decide), fun k => by omega⟩
  · rw [e]; exact ⟨fun _ => h, fun _ => by decide⟩
  · rw [e]; subst h; exact ⟨fun k => absurd k (by decide), fun k => by omega⟩
theorem cf_zero {x y : Int × Int} : cf x y = 0 ↔ x = y := by
  rcases cf_val x y with ⟨h, e⟩ | ⟨h, e⟩ | ⟨h, e⟩
  · rw [e]; exact ⟨fun k => absurd k (by decide), fun k => by subst k; omega⟩
  · rw [e]; exact ⟨fun k => absurd k (by decide), fun k => by subst k; omega⟩
  · rw [e]; exact ⟨fun _ => h, fun _ => rfl⟩
theorem cf_trans {x y z : Int × Int} (h : cf x y < 0) (k : cf y z < 0) : cf x z < 0 := by rw [cf_lt] at *; omega
theorem cf_irr (x : Int × Int) : ¬ cf x x < 0 := by rw [cf_lt]; omega
theorem cf_anti {x y : Int × Int} (h : cf x y < 0) : ¬ cf y x < 0 := by rw [cf_lt] at *; omega
theorem cf_tri {x y : Int × Int} (h : ¬ cf x y < 0) (k : ¬ x = y) : cf y x < 0 := by
  rcases cf_val x y with ⟨h1, e⟩ | ⟨h1, e⟩ | ⟨h1, e⟩
  · rw [e] at h; exact absurd (by decide) h
  · rw [cf_lt]; exact h1
  · exact absurd h1 k

/-! ### Valid, ascending -/
def okI (x : Int × Int) : Bool := decide (chk x.1 x.2 = 0)
def valS (L : List (Int × Int)) : Bool := L.all okI
def Asc (L : List (Int × Int)) : Prop := L.Pairwise fun x y => cf x y < 0
instance (L : List (Int × Int)) : Decidable (Asc L) := inferInstanceAs (Decidable (L.Pairwise _))
/-- What is wrong with a list that is to be a set. -/
def chkS (L : List (Int × Int)) : Int := if 64 < L.length then 8 else if valS L = true then (if Asc L then 0 else 3) else 2

theorem valS_no {L : List (Int × Int)} {k : Nat} {o q : Int} (h : L[k]? = some (o, q)) (hc : ¬ chk o q = 0) : valS L = false := by
  unfold valS; rw [List.all_eq_false]
  exact ⟨(o, q), List.mem_of_getElem? h, by simpa [okI] using hc⟩
theorem valS_yes {L : List (Int × Int)} (h : ∀ j x, j < L.length → L[j]? = some x → chk x.1 x.2 = 0) : valS L = true := by
  unfold valS; rw [List.all_eq_true]
  intro x hx
  obtain ⟨j, hj, e⟩ := List.mem_iff_getElem.1 hx
  simpa [okI] using h j x hj (by rw [List.getElem?_eq_getElem hj, e])
theorem valS_mem {L : List (Int × Int)} (h : valS L = true) {x : Int × Int} (hx : x ∈ L) : chk x.1 x.2 = 0 := by
  unfold valS at h; rw [List.all_eq_true] at h
  simpa [okI] using h x hx
theorem valS_at {L : List (Int × Int)} (h : valS L = true) {k : Nat} {o q : Int} (hx : L[k]? = some (o, q)) : chk o q = 0 := valS_mem h (List.mem_of_getElem? hx)

theorem asc_at {L : List (Int × Int)} (h : Asc L) {i j : Nat} {x y : Int × Int} (hij : i < j) (hx : L[i]? = some x) (hy : L[j]? = some y) : cf x y < 0 := by
  obtain ⟨hi, rfl⟩ := List.getElem?_eq_some_iff.1 hx
  obtain ⟨hj, rfl⟩ := List.getElem?_eq_some_iff.1 hy
  exact List.pairwise_iff_getElem.1 h i j hi hj hij
theorem asc_no {L : List (Int × Int)} {k : Nat} {o q o' q' : Int} (hx : L[k]? = some (o, q)) (hy : L[k + 1]? = some (o', q')) (h : ¬ cmpI o q o' q' < 0) : ¬ Asc L :=
  fun ha => h (asc_at (i := k) (j := k + 1) ha (by omega) hx hy)
theorem asc_yes : ∀ {L : List (Int × Int)}, (∀ j x y, L[j]? = some x → L[j + 1]? = some y → cf x y < 0) → Asc L
  | [], _ => List.Pairwise.nil
  | [x], _ => List.pairwise_singleton _ _
  | x :: y :: r, h => by
    have ih : Asc (y :: r) := asc_yes (L := y :: r) fun j a b ha hb => h (j + 1) a b (by simpa using ha) (by simpa using hb)
    have hxy : cf x y < 0 := h 0 x y rfl rfl
    refine List.pairwise_cons.2 ⟨fun z hz => ?_, ih⟩
    rcases List.mem_cons.1 hz with rfl | hz
    · exact hxy
    · exact cf_trans hxy ((List.pairwise_cons.1 ih).1 z hz)
theorem chkS_long {L : List (Int × Int)} (h : 64 < L.length) : chkS L = 8 := by unfold chkS; rw [if_pos h]
theorem chkS_range {L : List (Int × Int)} (h : ¬ 64 < L.length) (h1 : valS L = false) : chkS L = 2 := by unfold chkS; rw [if_neg h, if_neg (by rw [h1]; decide)]
theorem chkS_field {L : List (Int × Int)} (h : ¬ 64 < L.length) (h1 : valS L = true) (h2 : ¬ Asc L) : chkS L = 3 := by unfold chkS; rw [if_neg h, if_pos h1, if_neg h2]
theorem chkS_ok {L : List (Int × Int)} (h : ¬ 64 < L.length) (h1 : valS L = true) (h2 : Asc L) : chkS L = 0 := by unfold chkS; rw [if_neg h, if_pos h1, if_pos h2]
theorem chkS_zero {L : List (Int × Int)} (h : chkS L = 0) : L.length ≤ 64 ∧ valS L = true ∧ Asc L := by
  unfold chkS at h
  by_cases h1 : 64 < L.length
  · rw [if_pos h1] at h; exact absurd h (by decide)
  · rw [if_neg h1] at h
    by_cases h2 : valS L = true
    · rw [if_pos h2] at h
      by_cases h3 : Asc L
      · exact ⟨by omega, h2, h3⟩
      · rw [if_neg h3] at h; exact absurd h (by decide)
    · rw [if_neg h2] at h; exact absurd h (by decide)

/-! ### The names of a list, in order, each once -/
theorem asc_unique : ∀ {a b : List (Int × Int)}, Asc a → Asc b → (∀ x, x ∈ a ↔ x ∈ b) → a = b
  | [], [], _, _, _ => rfl
  | [], y :: s, _, _, h => absurd ((h y).2 (by simp)) (by simp)
  | x :: r, [], _, _, h => absurd ((h x).1 (by simp)) (by simp)
  | x :: r, y :: s, ha, hb, h => by
    obtain ⟨ha1, ha2⟩ := List.pairwise_cons.1 ha
    obtain ⟨hb1, hb2⟩ := List.pairwise_cons.1 hb
    have hxy : x = y := by
      rcases List.mem_cons.1 ((h x).1 (by simp)) with e | e
      · exact e
      · rcases List.mem_cons.1 ((h y).2 (by simp)) with e' | e'
        · exact e'.symm
        · exact absurd (ha1 y e') (cf_anti (hb1 x e))
    subst hxy
    have ht : r = s := asc_unique ha2 hb2 fun z => by
      constructor
      · intro hz
        rcases List.mem_cons.1 ((h z).1 (List.mem_cons_of_mem _ hz)) with e | e
        · subst e; exact absurd (ha1 z hz) (cf_irr z)
        · exact e
      · intro hz
        rcases List.mem_cons.1 ((h z).2 (List.mem_cons_of_mem _ hz)) with e | e
        · subst e; exact absurd (hb1 z hz) (cf_irr z)
        · exact e
    rw [ht]
/-- A name put where it belongs, unless it is there. -/
def insS (x : Int × Int) : List (Int × Int) → List (Int × Int)
  | [] => [x]
  | y :: r => if cf x y < 0 then x :: y :: r else if x = y then y :: r else y :: insS x r
def setS (L : List (Int × Int)) : List (Int × Int) := L.foldr insS []
theorem insS_mem (x z : Int × Int) : ∀ l, z ∈ insS x l ↔ z = x ∨ z ∈ l
  | [] => by simp [insS]
  | y :: r => by
    unfold insS
    split
    · simp
    · split
      · rename_i h; subst h; simp
      · rw [List.mem_cons, insS_mem x z r, List.mem_cons]
        constructor
        · rintro (h | h | h)
          · exact .inr (.inl h)
          · exact .inl h
          · exact .inr (.inr h)
        · rintro (h | h | h)
          · exact .inr (.inl h)
          · exact .inl h
          · exact .inr (.inr h)
theorem insS_asc (x : Int × Int) : ∀ {l}, Asc l → Asc (insS x l)
  | [], _ => List.pairwise_singleton _ _
  | y :: r, h => by
    obtain ⟨h1, h2⟩ := List.pairwise_cons.1 h
    unfold insS
    split
    · rename_i hx
      refine List.pairwise_cons.2 ⟨fun z hz => ?_, h⟩
      rcases List.mem_cons.1 hz with rfl | hz
      · exact hx
      · exact cf_trans hx (h1 z hz)
    · rename_i hx
      split
      · exact h
      · rename_i hn
        refine List.pairwise_cons.2 ⟨fun z hz => ?_, insS_asc x h2⟩
        rcases (insS_mem x z r).1 hz with rfl | hz
        · exact cf_tri hx hn
        · exact h1 z hz
theorem setS_mem (z : Int × Int) : ∀ L, z ∈ setS L ↔ z ∈ L
  | [] => by simp [setS]
  | x :: r => by rw [show setS (x :: r) = insS x (setS r) from rfl, insS_mem, setS_mem z r, List.mem_cons]
theorem setS_asc : ∀ L, Asc (setS L)
  | [] => List.Pairwise.nil
  | x :: r => insS_asc x (setS_asc r)
theorem setS_is {L M : List (Int × Int)} (ha : Asc M) (hm : ∀ x, x ∈ M ↔ x ∈ L) : M = setS L := asc_unique ha (setS_asc L) fun x => by rw [hm, setS_mem]
theorem setS_same {L : List (Int × Int)} (h : Asc L) : setS L = L := (setS_is h fun _ => Iff.rfl).symm
theorem insS_len (x : Int × Int) : ∀ l, (insS x l).length ≤ l.length + 1
  | [] => by simp [insS]
  | y :: r => by
    unfold insS
    split
    · simp
    · split
      · simp
      · have := insS_len x r; simp; omega
theorem setS_len : ∀ L, (setS L).length ≤ L.length
  | [] => by simp [setS]
  | x :: r => by
    have := insS_len x (setS r)
    have := setS_len r
    rw [show setS (x :: r) = insS x (setS r) from rfl, List.length_cons]; omega
theorem setS_val {L : List (Int × Int)} (h : valS L = true) : valS (setS L) = true := by
  unfold valS at *; rw [List.all_eq_true] at *
  exact fun x hx => h x ((setS_mem x L).1 hx)

/-- What Make tells: what is wrong; the set. -/
def mkC (L : List (Int × Int)) : Int := if 1024 < L.length then 8 else if valS L = true then (if 64 < (setS L).length then 8 else 0) else 2
def mkR (L : List (Int × Int)) : List (Int × Int) := if mkC L = 0 then setS L else []
theorem mkC_long {L : List (Int × Int)} (h : 1024 < L.length) : mkC L = 8 ∧ mkR L = [] := by
  have : mkC L = 8 := by unfold mkC; rw [if_pos h]
  exact ⟨this, by unfold mkR; rw [this]; rfl⟩
theorem mkC_range {L : List (Int × Int)} (h : ¬ 1024 < L.length) (h1 : valS L = false) : mkC L = 2 ∧ mkR L = [] := by
  have : mkC L = 2 := by unfold mkC; rw [if_neg h, if_neg (by rw [h1]; decide)]
  exact ⟨this, by unfold mkR; rw [this]; rfl⟩
theorem mkC_many {L : List (Int × Int)} (h : ¬ 1024 < L.length) (h1 : valS L = true) (h2 : 64 < (setS L).length) : mkC L = 8 ∧ mkR L = [] := by
  have : mkC L = 8 := by unfold mkC; rw [if_neg h, if_pos h1, if_pos h2]
  exact ⟨this, by unfold mkR; rw [this]; rfl⟩
theorem mkC_ok {L : List (Int × Int)} (h : ¬ 1024 < L.length) (h1 : valS L = true) (h2 : ¬ 64 < (setS L).length) : mkC L = 0 ∧ mkR L = setS L := by
  have : mkC L = 0 := by unfold mkC; rw [if_neg h, if_pos h1, if_neg h2]
  exact ⟨this, by unfold mkR; rw [if_pos this]⟩
theorem mkC_zero {L : List (Int × Int)} (h : mkC L = 0) : valS L = true ∧ (setS L).length ≤ 64 ∧ mkR L = setS L ∧ chkS (setS L) = 0 := by
  have hr : mkR L = setS L := by unfold mkR; rw [if_pos h]
  unfold mkC at h
  by_cases h1 : 1024 < L.length
  · rw [if_pos h1] at h; exact absurd h (by decide)
  · rw [if_neg h1] at h
    by_cases h2 : valS L = true
    · rw [if_pos h2] at h
      by_cases h3 : 64 < (setS L).length
      · rw [if_pos h3] at h; exact absurd h (by decide)
      · exact ⟨h2, by omega, hr, chkS_ok h3 (setS_val h2) (setS_asc L)⟩
    · rw [if_neg h2] at h; exact absurd h (by decide)

/-! ### Whether a name is in a list -/
def hasS (L : List (Int × Int)) (x : Int × Int) : Bool := decide (x ∈ L)
theorem hasS_no {L : List (Int × Int)} {x : Int × Int} (h : ∀ j y, j < L.length → L[j]? = some y → ¬ y = x) : hasS L x = false := by
  unfold hasS; rw [decide_eq_false_iff_not]
  intro hx
  obtain ⟨j, hj, e⟩ := List.mem_iff_getElem.1 hx
  exact h j x hj (by rw [List.getElem?_eq_getElem hj, e]) rfl
theorem hasS_yes {L : List (Int × Int)} {x : Int × Int} {k : Nat} (h : L[k]? = some x) : hasS L x = true := by
  unfold hasS; rw [decide_eq_true_iff]; exact List.mem_of_getElem? h
/-- Whether two lists are the same, name by name. -/
theorem list_ne {A B : List (Int × Int)} {k : Nat} {x y : Int × Int} (hx : A[k]? = some x) (hy : B[k]? = some y) (h : ¬ x = y) : ¬ A = B := by
  rintro rfl; rw [hx] at hy; exact h (Option.some.inj hy)
theorem list_eq {A B : List (Int × Int)} (hl : A.length = B.length) (h : ∀ j x y, j < A.length → A[j]? = some x → B[j]? = some y → x = y) : A = B := by
  apply List.ext_getElem? 
  intro j
  by_cases hj : j < A.length
  · have h1 := List.getElem?_eq_getElem hj
    have h2 := List.getElem?_eq_getElem (l := B) (i := j) (by omega)
    rw [h1, h2, h j _ _ hj h1 h2]
  · rw [List.getElem?_eq_none (by omega), List.getElem?_eq_none (by omega)]
end Go.Proofs.YthbdjgebpjffgaaGreatDoor
