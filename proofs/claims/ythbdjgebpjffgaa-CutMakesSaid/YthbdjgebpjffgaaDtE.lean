/-
  What is left of a set folded into a vector: plain mathematics.
  Conditions: none.
-/
import Derived.Test.YthbdjgebpjffgaaDotV
set_option linter.unusedVariables false
set_option linter.unusedSimpArgs false
namespace Go.Proofs.Ythbdjgebpjffgaa
open Go.RowKit

theorem le_grow (v : Nat → Int) (k : Nat) : leV v (setV v k (v k + 1)) = true := leV_iff.2 fun i _ => by
  unfold setV; split
  · rename_i h; subst h; omega
  · exact Int.le_refl _
theorem le_chain {a b c : Nat → Int} (h : leV a b = true) (k : leV b c = true) : leV a c = true := leV_iff.2 fun i hi => Int.le_trans (leV_iff.1 h i hi) (leV_iff.1 k i hi)
theorem has_mono {a b : Nat → Int} (h : leV a b = true) {o q : Int} (k : hasV a o q = true) : hasV b o q = true := by
  unfold hasV at *
  rw [Bool.and_eq_true, decide_eq_true_iff, decide_eq_true_iff] at *
  have := (chk_zero k.1).1
  exact ⟨k.1, Int.le_trans k.2 (leV_iff.1 h o.toNat (by omega))⟩
/-- One step. -/
theorem step_cases (v : Nat → Int) (x : Int × Int) :
    (∃ k : Nat, k < 8 ∧ x = ((k : Int), v k + 1) ∧ okV v = true ∧ chk x.1 x.2 = 0 ∧ (takeV v x.1 x.2).2 = 0 ∧ stepV v x = setV v k (v k + 1)) ∨ (¬ (takeV v x.1 x.2).2 = 0 ∧ stepV v x = v) := by
  by_cases h : (takeV v x.1 x.2).2 = 0
  · obtain ⟨h1, h2, _, h4, h5⟩ := takeV_zero h
    obtain ⟨k, hk, e⟩ := nat_of (chk_zero h2).1
    refine .inl ⟨k, hk, ?_, h1, h2, h, ?_⟩
    · rw [e, Int.toNat_natCast] at h4; exact Prod.ext e h4
    · unfold stepV; rw [if_pos h, h5, h4, e, Int.toNat_natCast]
  · exact .inr ⟨h, by unfold stepV; rw [if_neg h]⟩
theorem step_ok {v : Nat → Int} (h : okV v = true) (x : Int × Int) : okV (stepV v x) = true := by
  rcases step_cases v x with ⟨k, hk, hx, _, hc, _, e⟩ | ⟨_, e⟩
  · rw [e]
    have := chk_zero hc
    refine okV_iff.2 fun i hi => ?_
    have := okV_iff.1 h i hi
    rw [hx] at hc
    have := (chk_zero hc).2
    unfold setV; split <;> omega
  · rw [e]; exact h
theorem step_le (v : Nat → Int) (x : Int × Int) : leV v (stepV v x) = true := by
  rcases step_cases v x with ⟨k, hk, hx, _, _, _, e⟩ | ⟨_, e⟩
  · rw [e]; exact le_grow v k
  · rw [e]; exact leV_iff.2 fun _ _ => Int.le_refl _
theorem step_has {v : Nat → Int} {x : Int × Int} {o q : Int} (h : hasV (stepV v x) o q = true) : hasV v o q = true ∨ (o, q) = x := by
  rcases step_cases v x with ⟨k, hk, hx, _, _, _, e⟩ | ⟨_, e⟩
  · rw [e] at h
    unfold hasV at *
    rw [Bool.and_eq_true, decide_eq_true_iff, decide_eq_true_iff] at *
    obtain ⟨hc, hq⟩ := h
    unfold setV at hq
    split at hq
    · rename_i ho
      have := (chk_zero hc).1
      by_cases eq : q = v k + 1
      · exact .inr (by rw [hx]; exact Prod.ext (by show o = _; omega) eq)
      · refine .inl ⟨hc, ?_⟩; rw [ho]; omega
    · exact .inl ⟨hc, hq⟩
  · rw [e] at h; exact .inl h
theorem step_mine {v : Nat → Int} {x : Int × Int} (h : (takeV v x.1 x.2).2 = 0) : hasV (stepV v x) x.1 x.2 = true := by
  rcases step_cases v x with ⟨k, hk, hx, _, hc, _, e⟩ | ⟨h', _⟩
  · rw [e]; unfold hasV
    rw [Bool.and_eq_true, decide_eq_true_iff, decide_eq_true_iff]
    refine ⟨hc, ?_⟩
    rw [hx]; show v k + 1 ≤ setV v k (v k + 1) ((k : Int)).toNat
    rw [Int.toNat_natCast]; unfold setV; rw [if_pos rfl]; exact Int.le_refl _
  · exact absurd h h'
theorem foldV_cons (v : Nat → Int) (x : Int × Int) (L : List (Int × Int)) : foldV v (x :: L) = foldV (stepV v x) L := rfl
theorem foldV_ok : ∀ (L : List (Int × Int)) {v : Nat → Int}, okV v = true → okV (foldV v L) = true
  | [], _, h => h
  | x :: L, _, h => foldV_ok L (step_ok h x)
theorem foldV_in : ∀ (L : List (Int × Int)) {v : Nat → Int}, InB v → InB (foldV v L)
  | [], _, h => h
  | x :: L, _, h => foldV_in L (stepV_in h x)
theorem foldV_le : ∀ (L : List (Int × Int)) (v : Nat → Int), leV v (foldV v L) = true
  | [], _ => leV_iff.2 fun _ _ => Int.le_refl _
  | x :: L, v => le_chain (step_le v x) (foldV_le L (stepV v x))
theorem foldV_has : ∀ (L : List (Int × Int)) {v : Nat → Int} {o q : Int}, hasV (foldV v L) o q = true → hasV v o q = true ∨ (o, q) ∈ L
  | [], _, _, _, h => .inl h
  | x :: L, v, o, q, h => by
    rcases foldV_has L (v := stepV v x) h with h | h
    · rcases step_has h with h | h
      · exact .inl h
      · exact .inr (by rw [h]; exact List.mem_cons_self ..)
    · exact .inr (List.mem_cons_of_mem _ h)
/-- Nothing that comes later of an origin fills a gap before it. -/
theorem foldV_gap {o q : Int} (ho : 0 ≤ o) : ∀ (L : List (Int × Int)) {v : Nat → Int}, v o.toNat + 1 < q → (∀ z ∈ L, z.1 = o → q < z.2) → foldV v L o.toNat = v o.toNat
  | [], _, _, _ => rfl
  | x :: L, v, h, hz => by
    have hs : stepV v x o.toNat = v o.toNat := by
      rcases step_cases v x with ⟨k, hk, hx, _, _, _, e⟩ | ⟨_, e⟩
      · rw [e]; unfold setV; split
        · rename_i hk'
          have := hz x (List.mem_cons_self ..) (by rw [hx]; show (k : Int) = o; omega)
          rw [hx, ← hk'] at this
          have : q < v o.toNat + 1 := this
          omega
        · rfl
      · rw [e]
    rw [foldV_cons, foldV_gap ho L (by rw [hs]; exact h) fun z hm => hz z (List.mem_cons_of_mem _ hm), hs]
theorem foldV_left : ∀ (L : List (Int × Int)) {v : Nat → Int}, okV v = true → valS L = true → Asc L → ∀ x ∈ L, hasV (foldV v L) x.1 x.2 = false → ¬ x.2 = foldV v L x.1.toNat + 1
  | [], _, _, _, _, x, hx, _ => absurd hx (by simp)
  | y :: L, v, hok, hval, hasc, x, hx, hn => by
    obtain ⟨a1, a2⟩ := List.pairwise_cons.1 hasc
    have hvL : valS L = true := by
      unfold valS at hval ⊢
      rw [List.all_cons, Bool.and_eq_true] at hval
      exact hval.2
    rcases List.mem_cons.1 hx with rfl | hx
    · have hcx := valS_mem hval (List.mem_cons_self ..)
      have hr := (chk_zero hcx).1
      rw [foldV_cons] at hn ⊢
      by_cases ht : (takeV v x.1 x.2).2 = 0
      · rw [has_mono (foldV_le L _) (step_mine ht)] at hn; exact absurd hn (by decide)
      · have hst : stepV v x = v := by unfold stepV; rw [if_neg ht]
        rw [hst] at hn ⊢
        have hnv : ¬ hasV v x.1 x.2 = true := fun h => by rw [has_mono (foldV_le L _) h] at hn; exact absurd hn (by decide)
        have h1 : ¬ x.2 = v x.1.toNat + 1 := fun e => ht (by
          unfold takeV; rw [if_pos hok, if_pos hcx, if_neg hnv, if_pos e])
        have h2 : ¬ x.2 ≤ v x.1.toNat := fun h => hnv (by
          unfold hasV; rw [Bool.and_eq_true, decide_eq_true_iff, decide_eq_true_iff]; exact ⟨hcx, h⟩)
        rw [foldV_gap (q := x.2) hr.1 L (by omega) fun z hz e => by
          have := cf_lt.1 (a1 z hz); omega]
        exact h1
    · rw [foldV_cons] at hn ⊢
      exact foldV_left L (step_ok hok y) hvL a2 x hx hn
theorem foldV_stay : ∀ (L : List (Int × Int)) {v : Nat → Int}, (∀ x ∈ L, ¬ (takeV v x.1 x.2).2 = 0) → foldV v L = v
  | [], _, _ => rfl
  | x :: L, v, h => by
    have hst : stepV v x = v := by unfold stepV; rw [if_neg (h x (List.mem_cons_self ..))]
    rw [foldV_cons, hst]
    exact foldV_stay L fun z hz => h z (List.mem_cons_of_mem _ hz)

/-- What Fold leaves of a set. -/
structure Remn (v : Nat → Int) (A : List (Int × Int)) : Prop where
  c : foC v A = 0
  le : leV v (foV v A) = true
  inb : InB (foV v A)
  len : (foS v A).length ≤ 64
  has : ∀ o q, (hasV v o q || hasS A (o, q)) = (hasV (foV v A) o q || hasS (foS v A) (o, q))
  one : ∀ o q, (hasV (foV v A) o q && hasS (foS v A) (o, q)) = false
  gap : ∀ (k : Nat) (o q : Int), (foS v A)[k]? = some (o, q) → takeV (foV v A) o q = (zV, 17)
  c2 : foC (foV v A) (foS v A) = 0
  v2 : foV (foV v A) (foS v A) = foV v A
  s2 : foS (foV v A) (foS v A) = foS v A
theorem left_of {v : Nat → Int} {A : List (Int × Int)} (hv : chkV v = 0) (hin : InB v) (hA : chkS A = 0) : Remn v A := by
  have hok : okV v = true := by
    unfold chkV at hv
    by_cases h : okV v = true
    · exact h
    · rw [if_neg h] at hv; exact absurd hv (by decide)
  obtain ⟨a1, a2, a3⟩ := chkS_zero hA
  have hc : foC v A = 0 := by unfold foC; rw [hv]; exact hA
  have eV : foV v A = foldV v A := by unfold foV; rw [if_pos hc]
  have eS : foS v A = byS (foldV v A) A := by unfold foS; rw [if_pos hc]
  have ok2 := foldV_ok A hok
  have mem : ∀ x, x ∈ byS (foldV v A) A ↔ x ∈ A ∧ hasV (foldV v A) x.1 x.2 = false := by
    intro x; unfold byS; rw [List.mem_filter]; simp
  have hgap : ∀ x, x ∈ byS (foldV v A) A → takeV (foldV v A) x.1 x.2 = (zV, 17) := by
    intro x hx
    obtain ⟨m1, m2⟩ := (mem x).1 hx
    have := foldV_left A hok a2 a3 x m1 m2
    unfold takeV
    rw [if_pos ok2, if_pos (valS_mem a2 m1), if_neg (by rw [m2]; decide), if_neg this]
  have hlen : (byS (foldV v A) A).length ≤ 64 := Nat.le_trans (List.length_filter_le _ _) a1
  have hval : valS (byS (foldV v A) A) = true := by
    unfold valS; rw [List.all_eq_true]
    intro x hx
    have := valS_mem a2 ((mem x).1 hx).1
    simpa [okI] using this
  have hasc : Asc (byS (foldV v A) A) := List.Pairwise.sublist (List.filter_sublist) a3
  have hc2 : foC (foldV v A) (byS (foldV v A) A) = 0 := by
    unfold foC; rw [chkV_yes ok2]; exact chkS_ok (by omega) hval hasc
  have hst : foldV (foldV v A) (byS (foldV v A) A) = foldV v A := foldV_stay _ fun x hx => by rw [hgap x hx]; decide
  refine ⟨hc, ?_, ?_, ?_, ?_, ?_, ?_, ?_, ?_, ?_⟩
  · rw [eV]; exact foldV_le A v
  · rw [eV]; exact foldV_in A hin
  · rw [eS]; exact hlen
  · intro o q
    rw [eV, eS, Bool.eq_iff_iff, Bool.or_eq_true, Bool.or_eq_true]
    unfold hasS
    rw [decide_eq_true_iff, decide_eq_true_iff, mem]
    constructor
    · rintro (h | h)
      · exact .inl (has_mono (foldV_le A v) h)
      · by_cases hh : hasV (foldV v A) o q = true
        · exact .inl hh
        · exact .inr ⟨h, by simpa using hh⟩
    · rintro (h | h)
      · exact foldV_has A h
      · exact .inr h.1
  · intro o q
    rw [eV, eS]
    unfold hasS
    cases hh : hasV (foldV v A) o q
    · rfl
    · rw [Bool.true_and, decide_eq_false_iff_not, mem]
      rintro ⟨_, h⟩
      rw [hh] at h; exact absurd h (by decide)
  · intro k o q hk
    rw [eV]; rw [eS] at hk
    exact hgap (o, q) (List.mem_of_getElem? hk)
  · rw [eV, eS]; exact hc2
  · rw [eV, eS]; unfold foV; rw [if_pos hc2]; exact hst
  · rw [eV, eS]; unfold foS; rw [if_pos hc2, hst]
    unfold byS; rw [List.filter_filter]
    congr 1; funext x; simp
end Go.Proofs.Ythbdjgebpjffgaa
