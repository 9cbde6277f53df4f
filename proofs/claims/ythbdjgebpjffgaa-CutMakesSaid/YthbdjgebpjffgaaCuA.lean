/-
  Cuts in plain mathematics: what Make makes of a vector and a list, what a cut is, what it knows, and how two stand. They speak of no program.
  Conditions: none.
-/
import Derived.Test.YthbdjgebpjffgaaDtE
set_option linter.unusedVariables false
set_option linter.unusedSimpArgs false
namespace Go.Proofs.Ythbdjgebpjffgaa
open Go.RowKit

/-- What Make tells of a vector and a list: what is wrong; the vector; the list. -/
def cmC (v : Nat → Int) (L : List (Int × Int)) : Int := orZ (chkV v) (mkC L)
def cmV (v : Nat → Int) (L : List (Int × Int)) : Nat → Int := if cmC v L = 0 then foV v (mkR L) else zV
def cmS (v : Nat → Int) (L : List (Int × Int)) : List (Int × Int) := if cmC v L = 0 then foS v (mkR L) else []
/-- Are two the same? -/
def eqC (a : Nat → Int) (A : List (Int × Int)) (b : Nat → Int) (B : List (Int × Int)) : Bool := eqV a b && decide (A = B)
/-- Is a name known? -/
def hasC (v : Nat → Int) (L : List (Int × Int)) (o q : Int) : Bool := hasV v o q || hasS L (o, q)
/-- Is all that the one knows known by the other? -/
def leC (a : Nat → Int) (A : List (Int × Int)) (b : Nat → Int) (B : List (Int × Int)) : Bool := leV a b && A.all fun x => hasC b B x.1 x.2
/-- A cut. -/
structure IsC (v : Nat → Int) (L : List (Int × Int)) : Prop where
  v0 : chkV v = 0
  s0 : chkS L = 0
  fv : eqV (foV v L) v = true
  fs : foS v L = L

theorem eqV_refl (a : Nat → Int) : eqV a a = true := eqV_iff.2 fun _ _ => rfl
theorem orZ_zero {a b : Int} (h : orZ a b = 0) : a = 0 ∧ b = 0 := by
  unfold orZ at h
  by_cases h1 : a = 0
  · rw [if_pos h1] at h; exact ⟨h1, h⟩
  · rw [if_neg h1] at h; exact absurd h h1
theorem orZ_both {a b : Int} (h : a = 0) (k : b = 0) : orZ a b = 0 := by unfold orZ; rw [if_pos h]; exact k
theorem okV_of {v : Nat → Int} (h : chkV v = 0) : okV v = true := by
  unfold chkV at h
  by_cases h1 : okV v = true
  · exact h1
  · rw [if_neg h1] at h; exact absurd h (by decide)
theorem cm_zero {v : Nat → Int} {L : List (Int × Int)} (h : cmC v L = 0) : chkV v = 0 ∧ mkC L = 0 := orZ_zero h
theorem cm_parts {v : Nat → Int} {L : List (Int × Int)} (h : cmC v L = 0) : cmV v L = foV v (setS L) ∧ cmS v L = foS v (setS L) := by
  have hm := (mkC_zero (cm_zero h).2).2.2.1
  unfold cmV cmS
  rw [if_pos h, if_pos h, hm]; exact ⟨rfl, rfl⟩
theorem cm_left {v : Nat → Int} {L : List (Int × Int)} (hin : InB v) (h : cmC v L = 0) : Remn v (setS L) := left_of (cm_zero h).1 hin (mkC_zero (cm_zero h).2).2.2.2
theorem cm_in {v : Nat → Int} (L : List (Int × Int)) (hin : InB v) : InB (cmV v L) := by
  by_cases h : cmC v L = 0
  · rw [(cm_parts h).1]; exact (cm_left hin h).inb
  · unfold cmV; rw [if_neg h]; intro i _; unfold zV; omega
theorem cm_len {v : Nat → Int} (L : List (Int × Int)) (hin : InB v) : (cmS v L).length ≤ 64 := by
  by_cases h : cmC v L = 0
  · rw [(cm_parts h).2]; exact (cm_left hin h).len
  · unfold cmS; rw [if_neg h]; simp
theorem cm_is {v : Nat → Int} {L : List (Int × Int)} (hin : InB v) (h : cmC v L = 0) : IsC (cmV v L) (cmS v L) := by
  obtain ⟨e1, e2⟩ := cm_parts h
  have hR := cm_left hin h
  obtain ⟨c1, c2⟩ := fo_zero hR.c2
  rw [e1, e2]
  exact ⟨c1, c2, by rw [hR.v2]; exact eqV_refl _, hR.s2⟩
theorem cm_has {v : Nat → Int} {L : List (Int × Int)} (hin : InB v) (h : cmC v L = 0) (o q : Int) : hasC (cmV v L) (cmS v L) o q = hasC v L o q := by
  obtain ⟨e1, e2⟩ := cm_parts h
  unfold hasC
  rw [e1, e2, ← (cm_left hin h).has o q]
  congr 1
  unfold hasS
  rw [Bool.eq_iff_iff, decide_eq_true_iff, decide_eq_true_iff, setS_mem]
theorem cm_le {v : Nat → Int} {L : List (Int × Int)} (hin : InB v) (h : cmC v L = 0) : leV v (cmV v L) = true := by
  rw [(cm_parts h).1]; exact (cm_left hin h).le
theorem is_set {L : List (Int × Int)} (h : chkS L = 0) : mkC L = 0 ∧ mkR L = L ∧ setS L = L := by
  obtain ⟨h1, h2, h3⟩ := chkS_zero h
  have e := setS_same h3
  obtain ⟨m1, m2⟩ := mkC_ok (L := L) (by omega) h2 (by rw [e]; omega)
  exact ⟨m1, by rw [m2, e], e⟩
theorem is_self {v : Nat → Int} {L : List (Int × Int)} (h : IsC v L) : cmC v L = 0 ∧ eqC (cmV v L) (cmS v L) v L = true := by
  obtain ⟨m1, m2, m3⟩ := is_set h.s0
  have hc : cmC v L = 0 := orZ_both h.v0 m1
  obtain ⟨e1, e2⟩ := cm_parts hc
  refine ⟨hc, ?_⟩
  unfold eqC
  rw [e1, e2, m3, h.fv, h.fs, decide_eq_true rfl]; rfl
theorem eqC_iff {a b : Nat → Int} {A B : List (Int × Int)} : eqC a A b B = true ↔ eqV a b = true ∧ A = B := by
  unfold eqC; rw [Bool.and_eq_true, decide_eq_true_iff]
theorem is_of {v : Nat → Int} {L : List (Int × Int)} (hin : InB v) (h : cmC v L = 0) (k : eqC (cmV v L) (cmS v L) v L = true) : IsC v L := by
  obtain ⟨k1, k2⟩ := eqC_iff.1 k
  have hI := cm_is hin h
  have hs : chkS L = 0 := by rw [← k2]; exact hI.s0
  obtain ⟨_, _, m3⟩ := is_set hs
  obtain ⟨e1, e2⟩ := cm_parts h
  rw [m3] at e1 e2
  exact ⟨(cm_zero h).1, hs, by rw [← e1]; exact k1, by rw [← e2]; exact k2⟩

/-! ### What is known -/
theorem is_beyond {v : Nat → Int} {L : List (Int × Int)} (h : IsC v L) {o q : Int} (hx : (o, q) ∈ L) : hasV v o q = false := by
  have hc : foC v L = 0 := by unfold foC; rw [h.v0]; exact h.s0
  have hf := h.fs
  unfold foS at hf; rw [if_pos hc] at hf
  rw [← hf] at hx
  unfold byS at hx
  have hn := (List.mem_filter.1 hx).2
  cases e : hasV v o q
  · rfl
  · have := has_mono (foldV_le L v) e
    simp only [this] at hn
    exact absurd hn (by decide)
theorem is_gap {v : Nat → Int} {L : List (Int × Int)} (h : IsC v L) {k : Nat} (hk : k < 8) : hasC v L (k : Int) (v k + 1) = false := by
  unfold hasC
  rw [Bool.or_eq_false_iff]
  have h1 : hasV v (k : Int) (v k + 1) = false := by
    unfold hasV
    rw [Int.toNat_natCast, decide_eq_false (p := v k + 1 ≤ v k) (by omega), Bool.and_false]
  refine ⟨h1, ?_⟩
  unfold hasS; rw [decide_eq_false_iff_not]
  intro hx
  have hc : foC v L = 0 := by unfold foC; rw [h.v0]; exact h.s0
  obtain ⟨_, a2, a3⟩ := chkS_zero h.s0
  have hv := h.fv
  have hf := h.fs
  unfold foV at hv; rw [if_pos hc] at hv
  unfold foS at hf; rw [if_pos hc] at hf
  have hn : hasV (foldV v L) (k : Int) (v k + 1) = false := by
    rw [← hf] at hx
    unfold byS at hx
    simpa using (List.mem_filter.1 hx).2
  refine foldV_left L (okV_of h.v0) a2 a3 _ hx hn ?_
  show v k + 1 = foldV v L ((k : Int)).toNat + 1
  rw [Int.toNat_natCast, eqV_iff.1 hv k hk]
theorem hasC_set {v : Nat → Int} {L : List (Int × Int)} {o q : Int} (h : (o, q) ∈ L) : hasC v L o q = true := by
  unfold hasC hasS; rw [decide_eq_true h, Bool.or_true]
theorem hasC_vec {v : Nat → Int} {L : List (Int × Int)} {o q : Int} (h : hasV v o q = true) : hasC v L o q = true := by unfold hasC; rw [h]; rfl
theorem leC_iff {a b : Nat → Int} {A B : List (Int × Int)} : leC a A b B = true ↔ leV a b = true ∧ ∀ o q, (o, q) ∈ A → hasC b B o q = true := by
  unfold leC
  rw [Bool.and_eq_true, List.all_eq_true]
  exact ⟨fun ⟨h1, h2⟩ => ⟨h1, fun o q hx => h2 (o, q) hx⟩, fun ⟨h1, h2⟩ => ⟨h1, fun x hx => h2 x.1 x.2 hx⟩⟩
theorem le_knows {a b : Nat → Int} {A B : List (Int × Int)} (h : leC a A b B = true) {o q : Int} (k : hasC a A o q = true) : hasC b B o q = true := by
  obtain ⟨h1, h2⟩ := leC_iff.1 h
  unfold hasC at k
  rw [Bool.or_eq_true] at k
  rcases k with k | k
  · exact hasC_vec (has_mono h1 k)
  · unfold hasS at k; exact h2 o q (decide_eq_true_iff.1 k)
theorem le_self (a : Nat → Int) (A : List (Int × Int)) : leC a A a A = true := leC_iff.2 ⟨leV_iff.2 fun _ _ => Int.le_refl _, fun _ _ h => hasC_set h⟩
theorem le_tra {a b c : Nat → Int} {A B C : List (Int × Int)} (h : leC a A b B = true) (k : leC b B c C = true) : leC a A c C = true :=
  leC_iff.2 ⟨le_chain (leC_iff.1 h).1 (leC_iff.1 k).1, fun o q hx => le_knows k ((leC_iff.1 h).2 o q hx)⟩
theorem le_anti {a b : Nat → Int} {A B : List (Int × Int)} (hA : IsC a A) (hB : IsC b B) (h : leC a A b B = true) (k : leC b B a A = true) : eqC a A b B = true := by
  obtain ⟨h1, h2⟩ := leC_iff.1 h
  obtain ⟨k1, k2⟩ := leC_iff.1 k
  refine eqC_iff.2 ⟨eqV_iff.2 fun i hi => Int.le_antisymm (leV_iff.1 h1 i hi) (leV_iff.1 k1 i hi), ?_⟩
  refine asc_unique (chkS_zero hA.s0).2.2 (chkS_zero hB.s0).2.2 fun x => ⟨fun hx => ?_, fun hx => ?_⟩
  · have := h2 x.1 x.2 hx
    unfold hasC at this
    rw [Bool.or_eq_true] at this
    rcases this with t | t
    · have := has_mono k1 t
      rw [is_beyond hA (o := x.1) (q := x.2) hx] at this; exact absurd this (by decide)
    · unfold hasS at t; exact decide_eq_true_iff.1 t
  · have := k2 x.1 x.2 hx
    unfold hasC at this
    rw [Bool.or_eq_true] at this
    rcases this with t | t
    · have := has_mono h1 t
      rw [is_beyond hB (o := x.1) (q := x.2) hx] at this; exact absurd this (by decide)
    · unfold hasS at t; exact decide_eq_true_iff.1 t
theorem le_eq {a b : Nat → Int} {A B : List (Int × Int)} (h : eqC a A b B = true) : leC a A b B = true ∧ leC b B a A = true := by
  obtain ⟨h1, rfl⟩ := eqC_iff.1 h
  have e := eqV_iff.1 h1
  exact ⟨leC_iff.2 ⟨leV_iff.2 fun i hi => Int.le_of_eq (e i hi), fun _ _ h => hasC_set h⟩, leC_iff.2 ⟨leV_iff.2 fun i hi => Int.le_of_eq (e i hi).symm, fun _ _ h => hasC_set h⟩⟩
theorem le_both {a b : Nat → Int} {A B : List (Int × Int)} (hA : IsC a A) (hB : IsC b B) : (leC a A b B && leC b B a A) = eqC a A b B := by
  rw [Bool.eq_iff_iff, Bool.and_eq_true]
  exact ⟨fun ⟨h, k⟩ => le_anti hA hB h k, fun h => le_eq h⟩

/-! ### Two together; one with one more -/
theorem join_in {a b : Nat → Int} (ha : InB a) (hb : InB b) : InB (joinV a b) := fun i hi => by
  have := ha i hi
  have := hb i hi
  unfold joinV; split <;> omega
theorem join_left (a b : Nat → Int) : leV a (joinV a b) = true := leV_iff.2 fun i _ => by unfold joinV; split <;> omega
theorem join_right (a b : Nat → Int) : leV b (joinV a b) = true := leV_iff.2 fun i _ => by unfold joinV; split <;> omega
theorem join_has (a b : Nat → Int) (o q : Int) : hasV (joinV a b) o q = (hasV a o q || hasV b o q) := by
  unfold hasV joinV
  rw [Bool.eq_iff_iff, Bool.or_eq_true, Bool.and_eq_true, Bool.and_eq_true, Bool.and_eq_true, decide_eq_true_iff, decide_eq_true_iff, decide_eq_true_iff, decide_eq_true_iff]
  split
  · constructor
    · rintro ⟨h1, h2⟩; exact .inr ⟨h1, h2⟩
    · rintro (⟨h1, h2⟩ | ⟨h1, h2⟩) <;> exact ⟨h1, by omega⟩
  · constructor
    · rintro ⟨h1, h2⟩; exact .inl ⟨h1, h2⟩
    · rintro (⟨h1, h2⟩ | ⟨h1, h2⟩) <;> exact ⟨h1, by omega⟩
theorem hasS_app (A B : List (Int × Int)) (x : Int × Int) : hasS (A ++ B) x = (hasS A x || hasS B x) := by
  unfold hasS
  rw [Bool.eq_iff_iff, Bool.or_eq_true, decide_eq_true_iff, decide_eq_true_iff, decide_eq_true_iff, List.mem_append]
/-- What Join makes. -/
theorem jo_facts {a b : Nat → Int} {A B : List (Int × Int)} (ha : InB a) (hb : InB b) (h : cmC (joinV a b) (A ++ B) = 0) :
    IsC (cmV (joinV a b) (A ++ B)) (cmS (joinV a b) (A ++ B)) ∧ (∀ o q, hasC (cmV (joinV a b) (A ++ B)) (cmS (joinV a b) (A ++ B)) o q = (hasC a A o q || hasC b B o q)) ∧
    leC a A (cmV (joinV a b) (A ++ B)) (cmS (joinV a b) (A ++ B)) = true ∧ leC b B (cmV (joinV a b) (A ++ B)) (cmS (joinV a b) (A ++ B)) = true := by
  have hin := join_in ha hb
  have hh : ∀ o q, hasC (cmV (joinV a b) (A ++ B)) (cmS (joinV a b) (A ++ B)) o q = (hasC a A o q || hasC b B o q) := fun o q => by
    rw [cm_has hin h]
    unfold hasC
    rw [join_has, hasS_app]
    cases hasV a o q <;> cases hasV b o q <;> cases hasS A (o, q) <;> cases hasS B (o, q) <;> rfl
  refine ⟨cm_is hin h, hh, leC_iff.2 ⟨le_chain (join_left a b) (cm_le hin h), fun o q hx => ?_⟩, leC_iff.2 ⟨le_chain (join_right a b) (cm_le hin h), fun o q hx => ?_⟩⟩
  · rw [hh, hasC_set hx]; rfl
  · rw [hh, hasC_set hx, Bool.or_true]
/-- What Add makes. -/
theorem ad_facts {a : Nat → Int} {A : List (Int × Int)} {o q : Int} (ha : InB a) (hn : hasC a A o q = false) (h : cmC a (A ++ [(o, q)]) = 0) :
    IsC (cmV a (A ++ [(o, q)])) (cmS a (A ++ [(o, q)])) ∧ hasC (cmV a (A ++ [(o, q)])) (cmS a (A ++ [(o, q)])) o q = true ∧
    leC a A (cmV a (A ++ [(o, q)])) (cmS a (A ++ [(o, q)])) = true ∧ leC (cmV a (A ++ [(o, q)])) (cmS a (A ++ [(o, q)])) a A = false := by
  have hh : hasC (cmV a (A ++ [(o, q)])) (cmS a (A ++ [(o, q)])) o q = true := by
    rw [cm_has ha h]; exact hasC_set (by simp)
  refine ⟨cm_is ha h, hh, leC_iff.2 ⟨cm_le ha h, fun x y hx => ?_⟩, ?_⟩
  · rw [cm_has ha h]; exact hasC_set (by simp [hx])
  · cases e : leC (cmV a (A ++ [(o, q)])) (cmS a (A ++ [(o, q)])) a A
    · rfl
    · rw [le_knows e hh] at hn; exact absurd hn (by decide)
end Go.Proofs.Ythbdjgebpjffgaa
