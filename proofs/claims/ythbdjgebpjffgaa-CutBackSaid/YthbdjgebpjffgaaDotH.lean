/-
  Package dots' Make: the list's names in order, each once.
  Conditions: none.
-/
import Derived.Test.YthbdjgebpjffgaaDotG
set_option linter.unusedVariables false
set_option linter.unusedSimpArgs false
namespace Go.Proofs.Ythbdjgebpjffgaa
open Go.RowKit Go.Shelf Go.Lib Go.Sort

theorem comp_is {d : Array (Int × Int)} (hs : ∀ i j, i ≤ j → j < d.size → ¬ cf d[j]! d[i]! < 0) : ∀ m, m ≤ d.size → Asc (compactUpTo d m) ∧ ∀ x, x ∈ compactUpTo d m ↔ ∃ j, j < m ∧ d[j]! = x
  | 0, _ => ⟨List.Pairwise.nil, fun x => ⟨fun h => by simp [compactUpTo] at h, fun ⟨j, hj, _⟩ => by omega⟩⟩
  | m + 1, hm => by
    obtain ⟨ih1, ih2⟩ := comp_is hs m (by omega)
    rw [compactUpTo_succ]
    by_cases hk : keeps d m = true
    · rw [if_pos hk]
      refine ⟨List.pairwise_append.2 ⟨ih1, List.pairwise_singleton _ _, fun x hx y hy => ?_⟩, fun x => ?_⟩
      · obtain rfl : y = d[m]! := by simpa using hy
        obtain ⟨j, hj, rfl⟩ := (ih2 x).1 hx
        refine cf_tri (hs j m (by omega) (by omega)) fun e => ?_
        have hk' : m = 0 ∨ d[m]! ≠ d[m - 1]! := by simpa [keeps] using hk
        rcases hk' with rfl | hne
        · omega
        · have h1 := hs j (m - 1) (by omega) (by omega)
          have h2 := hs (m - 1) m (by omega) (by omega)
          by_cases e2 : d[m - 1]! = d[m]!
          · exact hne e2.symm
          · have := cf_tri h2 (fun k => e2 k.symm)
            rw [e] at this
            exact h1 (by rw [← e]; rw [e]; exact absurd this h1)
      · rw [List.mem_append, ih2, List.mem_singleton]
        constructor
        · rintro (⟨j, hj, e⟩ | e)
          · exact ⟨j, by omega, e⟩
          · exact ⟨m, by omega, e.symm⟩
        · rintro ⟨j, hj, e⟩
          by_cases ej : j = m
          · subst ej; exact .inr e.symm
          · exact .inl ⟨j, by omega, e⟩
    · rw [if_neg hk, List.append_nil]
      refine ⟨ih1, fun x => ?_⟩
      rw [ih2]
      have hk' : ¬ m = 0 ∧ d[m]! = d[m - 1]! := by simpa [keeps] using hk
      constructor
      · rintro ⟨j, hj, e⟩; exact ⟨j, by omega, e⟩
      · rintro ⟨j, hj, e⟩
        by_cases ej : j = m
        · subst ej; exact ⟨j - 1, by omega, by rw [← hk'.2]; exact e⟩
        · exact ⟨j, by omega, e⟩
theorem srtS_len (L : List (Int × Int)) : (srtS L).length = L.length := by unfold srtS; simp
theorem srtS_mem (L : List (Int × Int)) (x : Int × Int) : x ∈ srtS L ↔ x ∈ L := by unfold srtS; exact List.mem_mergeSort
theorem srtS_sorted (L : List (Int × Int)) : (srtS L).Pairwise fun x y => ¬ cf y x < 0 := by
  unfold srtS
  refine (List.pairwise_mergeSort (le := fun x y => !(ltOf cf) y x) ?_ ?_ L).imp ?_
  · intro a b c h1 h2
    simp only [ltOf, Bool.not_eq_true', decide_eq_false_iff_not] at *
    intro h
    rw [cf_lt] at *
    omega
  · intro a b
    simp only [ltOf]
    by_cases h : cf b a < 0
    · rw [decide_eq_true h, decide_eq_false (cf_anti h)]; rfl
    · rw [decide_eq_false h]; rfl
  · intro a b h
    simpa [ltOf] using h
theorem comp_srt (L : List (Int × Int)) : compactUpTo (srtS L).toArray (srtS L).toArray.size = setS L := by
  have hb : ∀ j, j < (srtS L).length → (srtS L)[j]? = some (srtS L).toArray[j]! := fun j hj => by
    rw [List.getElem?_eq_getElem hj, getElem!_pos _ j (by simpa using hj)]; simp
  obtain ⟨h1, h2⟩ := comp_is (d := (srtS L).toArray) (fun i j hij hj => by
    have hj' : j < (srtS L).length := by simpa using hj
    have e1 := hb i (by omega)
    have e2 := hb j hj'
    rw [List.getElem?_eq_getElem (by omega)] at e1 e2
    rw [← Option.some.inj e1, ← Option.some.inj e2]
    by_cases e : i = j
    · subst e; exact cf_irr _
    · exact List.pairwise_iff_getElem.1 (srtS_sorted L) i j _ _ (by omega)) _ (Nat.le_refl _)
  refine setS_is h1 fun x => ?_
  rw [h2, ← srtS_mem]
  constructor
  · rintro ⟨j, hj, e⟩
    exact List.mem_of_getElem? ((hb j (by simpa using hj)).trans (by rw [e]))
  · intro hx
    obtain ⟨j, hj, e⟩ := List.mem_iff_getElem.1 hx
    refine ⟨j, by simpa using hj, ?_⟩
    have := hb j hj
    rw [List.getElem?_eq_getElem hj, e] at this
    exact (Option.some.inj this).symm

theorem compact_any {w0 : World} (v : Value) (L : List (Int × Int)) (w : World) (h : Own w0 w v (srtS L)) (h0 : w0.heap.size ≤ w.heap.size) :
    Calls Try.prog 62 #[v] w fun e w' => ∃ al cap, e = .returned (.slice al (setS L).length cap) ∧ Ids w' al (setS L).length cap (setS L) ∧ Flat al ∧ Below w0.heap.size w w' := by
  rcases h with ⟨rfl, hn⟩ | ⟨g, cap, rfl, hg, hg2, hc, hcap, hr⟩
  · have hS : setS L = [] := by
      rw [← comp_srt, hn]; rfl
    rw [hS]
    clear hn hS
    go_enter Try.func62, Try.ntmps62
    go_wp2
    go_ret
    exact ⟨none, 0, rfl, Ids.nil w, .inl rfl, Below.refl _ _⟩
  · refine (compact_row g cap (srtS L).toArray w0 w hr (by simpa using hc) hcap hg).mono ?_
    rintro e w' ⟨d', h1, h2, h3, h4⟩
    rw [comp_srt] at h1 h3
    have hle := setS_len L
    have hsl := srtS_len L
    refine ⟨_, cap, h1, h2.ids rfl (by rw [← h3]; simp) (by omega) hcap (fun j hj => ?_), .inr ⟨g, 0, rfl⟩, h4⟩
    have hj' : j < d'.size := by rw [← h3] at hj; simpa using hj
    rw [← h3, getElem!_pos d' j hj']
    simp [hj']

set_option maxHeartbeats 1000000 in
theorem make_any (al : Option Addr) (len cap : Nat) (L : List (Int × Int)) (w : World) (h : Ids w al len cap L) (hF : Flat al) :
    Calls Try.prog 33 #[.slice al len cap] w fun e w' => ∃ al' cap', e = .returned (.tuple #[.slice al' (mkR L).length cap', .int .i64 (mkC L)]) ∧ Ids w' al' (mkR L).length cap' (mkR L) ∧ Flat al' ∧ Below w.heap.size w w' := by
  have hcap := h.bd
  have hfit := h.fit
  have HLL := Lib.hid h.ln
  have HI := Lib.hid h; clear h
  have HF := Lib.hid hF; clear hF
  by_cases h1024 : 1024 < len
  · have HC := Lib.hid (mkC_long (L := L) (by rw [← HLL.out]; exact h1024))
    go_enter Try.func33, Try.ntmps33
    go_wp2
    go_ret2
    exact ⟨none, 0, by rw [HC.out.1, HC.out.2]; rfl, by rw [HC.out.2]; exact Ids.nil _, .inl rfl, Below.refl _ _⟩
  · have h1024' : ¬ 1024 < L.length := by rw [← HLL.out]; exact h1024
    have H1 := Lib.hid h1024'; clear h1024'
    cases hv : valS L with
    | false =>
      have HV := Lib.hid hv; clear hv
      have HC := Lib.hid (mkC_range (L := L) H1.out HV.out)
      go_enter Try.func33, Try.ntmps33
      go_wp2_with fail
      refine (valid_any al len cap L w HI.out).mono ?_
      rw [HV.out]
      rintro e w1 ⟨rfl, b1⟩
      go_wp2
      go_ret2
      exact ⟨none, 0, by rw [HC.out.1, HC.out.2]; rfl, by rw [HC.out.2]; exact Ids.nil _, .inl rfl, b1⟩
    | true =>
      have HV := Lib.hid hv; clear hv
      go_enter Try.func33, Try.ntmps33
      go_wp2_with fail
      refine (valid_any al len cap L w HI.out).mono ?_
      rw [HV.out]
      rintro e w1 ⟨rfl, b1⟩
      have HB1 := Lib.hid b1; clear b1
      go_wp2_with fail
      refine (clone_any al len cap L w1 (HI.out.below HB1.out) HF.out (by omega)).mono ?_
      rintro e w2 ⟨v, rfl, hO, b2⟩
      have HO := Lib.hid hO; clear hO
      have HB2 := Lib.hid (below_then HB1.out b2)
      have hz2 := Lib.hid b2.size; clear b2
      go_wp2_with fail
      refine (sort_any v L w2 HO.out (by have := H1.out; omega) hz2.out).mono ?_
      rintro e w3 ⟨rfl, hO3, b3⟩
      have HO3 := Lib.hid hO3; clear hO3
      have HB3 : Hid (Below w.heap.size w w3) := Lib.hid (HB2.out.trans (b3.mono HB1.out.size))
      have hz3 := Lib.hid (Nat.le_trans hz2.out b3.size); clear b3
      go_wp2_with fail
      refine (compact_any v L w3 HO3.out hz3.out).mono ?_
      rintro e w4 ⟨al4, cap4, rfl, hI4, hF4, b4⟩
      have HB4 : Hid (Below w.heap.size w w4) := Lib.hid (HB3.out.trans (b4.mono HB1.out.size)); clear b4
      have HI4 := Lib.hid hI4; clear hI4
      have HF4 := Lib.hid hF4; clear hF4
      by_cases h64 : 64 < (setS L).length
      · have HC := Lib.hid (mkC_many (L := L) H1.out HV.out h64)
        generalize (setS L).length = n at h64 HI4 ⊢
        go_wp2
        go_ret2
        exact ⟨none, 0, by rw [HC.out.1, HC.out.2]; rfl, by rw [HC.out.2]; exact Ids.nil _, .inl rfl, HB4.out⟩
      · have HC := Lib.hid (mkC_ok (L := L) H1.out HV.out h64)
        generalize hn : (setS L).length = n at h64 HI4 ⊢
        have HN := Lib.hid hn; clear hn
        go_wp2
        go_ret2
        exact ⟨al4, cap4, by rw [HC.out.1, HC.out.2, HN.out]; rfl, by rw [HC.out.2, HN.out]; exact HI4.out, HF4.out, HB4.out⟩
end Go.Proofs.Ythbdjgebpjffgaa
