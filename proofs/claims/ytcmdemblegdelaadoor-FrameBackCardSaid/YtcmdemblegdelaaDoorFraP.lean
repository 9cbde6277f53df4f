/-
  What is read as a frame is the encoding of that frame; all frames of a text, encoded anew, are its beginning: plain mathematics.
  Conditions: none.
-/
import Derived.Test.YtcmdemblegdelaaDoorFraO
import Derived.Test.YtcmdemblegdelaaDoorOctP
namespace Go.Proofs.YtcmdemblegdelaaDoor
open Go.RowKit

theorem ext_join (t : ByteArray) {a b c : Nat} (h1 : a ≤ b) (h2 : b ≤ c) : t.extract a b ++ t.extract b c = t.extract a c := by
  apply ByteArray.ext
  rw [ByteArray.data_append, ByteArray.data_extract, ByteArray.data_extract, ByteArray.data_extract, Array.extract_append_extract, Nat.min_eq_left h1, Nat.max_eq_right h2]
theorem ext_ext (t : ByteArray) {a b c : Nat} (h : b ≤ c) : (t.extract 0 c).extract a b = t.extract a b := by
  apply ByteArray.ext
  rw [ByteArray.data_extract, ByteArray.data_extract, ByteArray.data_extract, Array.extract_extract]
  congr 1 <;> omega
theorem ext_size2 (t : ByteArray) {a b : Nat} (h : b ≤ t.size) : (t.extract a b).size = b - a := by rw [ByteArray.size_extract]; omega
theorem ext_take (t : ByteArray) {b c : Nat} (h : b ≤ c) : (t.extract 0 c).data.toList.take b = (t.extract 0 b).data.toList := by
  rw [ByteArray.data_extract, ByteArray.data_extract, Array.toList_extract, Array.toList_extract]
  simp [List.take_take]; omega

theorem i_good {s : ByteArray} {a : Nat} {m : Int} (h : iC s a m = 0) : nC s a = 0 ∧ (nV s a : Int) ≤ m ∧ iV s a m = nV s a ∧ iA s a m = nA s a := by
  have e1 : iV s a m = nV s a := by unfold iV; rw [if_pos h]
  have e2 : iA s a m = nA s a := by unfold iA; rw [if_pos h]
  unfold iC at h
  by_cases hn : nC s a = 0
  · rw [if_pos hn] at h
    split at h
    · simp at h
    · exact ⟨hn, by omega, e1, e2⟩
  · rw [if_neg hn] at h; exact absurd h hn

theorem nA_ge {s : ByteArray} {a : Nat} (h : nC s a = 0) : a ≤ nA s a := by unfold nA; rw [if_pos h]; omega

theorem ends_tail {t : ByteArray} {q : Nat} (hq : q + 4 ≤ t.size) (h : endsB (t.extract 0 (q + 4)) = true) : foursS (ofC (t.extract 0 q).data.toList) = t.extract q (q + 4) := by
  have hsz : (t.extract 0 (q + 4)).size = q + 4 := by rw [ext_size2 t hq]; omega
  rw [endsB_yes hsz] at h
  unfold tailB at h
  rw [hsz, ext_take t (show q ≤ q + 4 by omega), ext_ext t (Nat.le_refl _), ByteArray.toList_eq, ByteArray.toList_eq, beq_iff_eq] at h
  exact ByteArray.ext (Array.toList_inj.1 h.symm)

/-- What is read as a frame is its encoding. -/
theorem frame_one {t : ByteArray} (h : xC t = 0) : encS (xK t) (xL t) = t.extract 0 (xN t) ∧ 1 ≤ xK t ∧ xK t ≤ 99 ∧ (xL t).size ≤ 4096 := by
  obtain ⟨h1, h2, h3, h4⟩ := x_good h
  obtain ⟨k1, k2, k3, k4⟩ := i_good h1
  have eK : xK t = nV t 0 := by unfold xK; rw [if_pos h, k3]
  have eP : iP t = nA t 0 := k4
  have eL : xL t = tV t (iP t) 4096 := by unfold xL; rw [if_pos h]
  have eN := (xN_le h).1
  have hi : iC t (iP t) 4096 = 0 := by
    unfold tC at h3
    by_cases hi : iC t (iP t) 4096 = 0
    · exact hi
    · rw [if_neg hi] at h3; exact absurd h3 hi
  have hsz : iA t (iP t) 4096 + iV t (iP t) 4096 ≤ t.size := by
    unfold tC at h3
    rw [if_pos hi] at h3
    split at h3
    · simp at h3
    · omega
  obtain ⟨m1, m2, m3, m4⟩ := i_good hi
  have eV : xL t = t.extract (nA t (iP t)) (nA t (iP t) + nV t (iP t)) := by rw [eL]; unfold tV; rw [if_pos h3, m3, m4]
  have eT : tP t = nA t (iP t) + nV t (iP t) := by unfold tP tA; rw [if_pos h3, m3, m4]
  rw [m3, m4] at hsz
  have hl : (xL t).size = nV t (iP t) := by rw [eV, ext_size2 t hsz]; omega
  have g1 := nA_ge k1
  have g2 := nA_ge m1
  obtain ⟨c1, c2⟩ := cC_good h4
  have eX : txtS (xL t) = t.extract (iP t) (tP t) := by
    unfold txtS
    rw [hl, one_way m1, eV, eT]
    exact ext_join t g2 (by omega)
  have eB : numS (xK t) ++ txtS (xL t) = t.extract 0 (tP t) := by
    rw [eX, eK, one_way k1, ← eP]
    exact ext_join t (Nat.zero_le _) (by omega)
  refine ⟨?_, ?_, ?_, by omega⟩
  · unfold encS sealS
    rw [eB, ends_tail c1 c2, eN]
    exact ext_join t (Nat.zero_le _) (by omega)
  · rw [k3] at h2; omega
  · omega

/-- Some frames' encodings, one behind the other. -/
def cats : List (Nat × ByteArray) → ByteArray
  | [] => ⟨#[]⟩
  | p :: r => encS p.1 p.2 ++ cats r
theorem cats_snoc (L : List (Nat × ByteArray)) (p : Nat × ByteArray) : cats (L ++ [p]) = cats L ++ encS p.1 p.2 := by
  induction L with
  | nil => show encS p.1 p.2 ++ ⟨#[]⟩ = ⟨#[]⟩ ++ encS p.1 p.2; apply ByteArray.ext; simp
  | cons q r ih => show encS q.1 q.2 ++ cats (r ++ [p]) = encS q.1 q.2 ++ cats r ++ encS p.1 p.2; rw [ih, ByteArray.append_assoc]
theorem cats_take {L : List (Nat × ByteArray)} {m : Nat} (h : m < L.length) : cats (L.take (m + 1)) = cats (L.take m) ++ encS L[m].1 L[m].2 := by
  rw [List.take_succ_eq_append_getElem h, cats_snoc]
theorem cats_size {L : List (Nat × ByteArray)} (m : Nat) : (cats (L.take m)).size ≤ (cats L).size := by
  induction L generalizing m with
  | nil => simp
  | cons q r ih =>
    cases m with
    | zero => show (⟨#[]⟩ : ByteArray).size ≤ _; exact Nat.zero_le _
    | succ k =>
      have := ih k
      show (encS q.1 q.2 ++ cats (r.take k)).size ≤ (encS q.1 q.2 ++ cats r).size
      rw [ByteArray.size_append, ByteArray.size_append]; omega

theorem rest_ext {s : ByteArray} {a k : Nat} (h : a + k ≤ s.size) : (rest s a).extract 0 k = s.extract a (a + k) := by
  unfold rest
  apply ByteArray.ext
  rw [ByteArray.data_extract, ByteArray.data_extract, ByteArray.data_extract, Array.extract_extract, Nat.add_zero, Nat.min_eq_left h]
theorem allR_cats (s : ByteArray) : ∀ (n a : Nat), a ≤ s.size → s.extract 0 a ++ cats (allR s n a).1 = s.extract 0 (allR s n a).2 ∧ (∀ p ∈ (allR s n a).1, 1 ≤ p.1 ∧ p.1 ≤ 99 ∧ p.2.size ≤ 4096)
  | 0, a, _ => ⟨by show s.extract 0 a ++ ⟨#[]⟩ = s.extract 0 a; apply ByteArray.ext; simp, fun p hp => by cases hp⟩
  | n + 1, a, h => by
    by_cases hx : a < s.size ∧ xC (rest s a) = 0
    · have h1 := xN_le hx.2
      have h2 := rest_size h
      obtain ⟨i1, i2⟩ := allR_cats s n (a + xN (rest s a)) (by omega)
      obtain ⟨f1, f2⟩ := frame_one hx.2
      have e := rest_ext (s := s) (a := a) (k := xN (rest s a)) (by omega)
      rw [allR, if_pos hx]
      refine ⟨?_, ?_⟩
      · show s.extract 0 a ++ (encS (xK (rest s a)) (xL (rest s a)) ++ cats (allR s n (a + xN (rest s a))).1) = _
        rw [f1, e, ← ByteArray.append_assoc, ext_join s (Nat.zero_le _) (by omega)]
        exact i1
      · intro p hp
        rcases List.mem_cons.1 hp with rfl | hp
        · exact f2
        · exact i2 p hp
    · rw [allR, if_neg hx]
      exact ⟨by show s.extract 0 a ++ ⟨#[]⟩ = s.extract 0 a; apply ByteArray.ext; simp, fun p hp => by cases hp⟩
theorem FL_cats (s : ByteArray) : cats (FL s) = s.extract 0 (FE s) := by
  have h := (allR_cats s s.size 0 (Nat.zero_le _)).1
  have e : s.extract 0 0 = ⟨#[]⟩ := by apply ByteArray.ext; simp
  rw [e] at h
  rw [← show (⟨#[]⟩ : ByteArray) ++ cats (FL s) = cats (FL s) by apply ByteArray.ext; simp]
  exact h
theorem FL_good {s : ByteArray} {m : Nat} (h : m < (FL s).length) : 1 ≤ (FL s)[m].1 ∧ (FL s)[m].1 ≤ 99 ∧ (FL s)[m].2.size ≤ 4096 :=
  (allR_cats s s.size 0 (Nat.zero_le _)).2 _ (List.getElem_mem h)

theorem allR_bad (s : ByteArray) : ∀ (n a : Nat), s.size ≤ a + n → (allR s n a).2 < s.size → ¬ xC (rest s (allR s n a).2) = 0
  | 0, a, h, k => by have e : (allR s 0 a).2 = a := rfl; rw [e] at k; omega
  | n + 1, a, h, k => by
    by_cases hx : a < s.size ∧ xC (rest s a) = 0
    · have h1 := xN_le hx.2
      rw [allR, if_pos hx] at k ⊢
      exact allR_bad s n (a + xN (rest s a)) (by omega) k
    · rw [allR, if_neg hx] at k ⊢
      exact fun e => hx ⟨k, e⟩
theorem FE_bad {s : ByteArray} (h : FE s < s.size) : ¬ eC s = 0 := by
  unfold eC; rw [if_pos h]; exact allR_bad s s.size 0 (by omega) h
theorem FE_end {s : ByteArray} (h : ¬ FE s < s.size) : FE s = s.size ∧ eC s = 0 := ⟨by have := FE_le s; omega, by unfold eC; rw [if_neg h]⟩
end Go.Proofs.YtcmdemblegdelaaDoor
