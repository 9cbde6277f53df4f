/-
  An encoded frame is read as that frame, whatever follows; cut off anywhere it is read as too short: plain mathematics.
  Conditions: none.
-/
import Derived.Test.YtcmdemblegdelaaDoorFraQ
import Derived.Test.YtcmdemblegdelaaDoorOctQ
import Derived.Test.YtcmdemblegdelaaDoorSumE
namespace Go.Proofs.YtcmdemblegdelaaDoor
open Go.RowKit

theorem read_textM {Z : ByteArray} {P R : List UInt8} {t : ByteArray} {a : Nat} {m : Int} (h : Z.data.toList = P ++ (numL t.size ++ (t.data.toList ++ R))) (ha : a = P.length) (ht : t.size ≤ 1048576) (hm : (t.size : Int) ≤ m) :
    tC Z a m = 0 ∧ tV Z a m = t ∧ tA Z a m = a + (digs t.size).length + 1 + t.size := by
  obtain ⟨h1, h2, h3⟩ := read_num h ha (by omega)
  have hi : iC Z a m = 0 := by unfold iC; rw [if_pos h1, h2, if_neg (by omega)]
  have hv : iV Z a m = t.size := by unfold iV; rw [if_pos hi, h2]
  have hA : iA Z a m = a + (digs t.size).length + 1 := by unfold iA; rw [if_pos hi, h3]
  have hsz : Z.size = P.length + ((digs t.size).length + 1 + (t.size + R.length)) := by rw [size_list, h]; simp only [List.length_append, numL_len, ← size_list]
  have hc : tC Z a m = 0 := by unfold tC; rw [if_pos hi, hA, hv, if_neg (by omega)]
  refine ⟨hc, ?_, ?_⟩
  · unfold tV
    rw [if_pos hc, hA, hv]
    apply ByteArray.ext
    apply Array.toList_inj.1
    rw [ext_win]
    have e2 : Z.data.toList = (P ++ numL t.size) ++ (t.data.toList ++ R) := by rw [h]; simp
    have := win_mid e2
    rw [List.length_append, numL_len, ← size_list] at this
    rw [ha, Nat.add_assoc]
    exact this
  · unfold tA; rw [if_pos hc, hA, hv]

/-- A frame's bytes ahead of the checksum. -/
def preS (n : Nat) (l : ByteArray) : ByteArray := numS n ++ txtS l
theorem encS_pre (n : Nat) (l : ByteArray) : encS n l = sealS (preS n l) := rfl
theorem preS_list (n : Nat) (l : ByteArray) : (preS n l).data.toList = numL n ++ (numL l.size ++ l.data.toList) := by
  unfold preS txtS
  rw [app_list, app_list]; rfl
theorem preS_size (n : Nat) (l : ByteArray) : (preS n l).size = (digs n).length + 1 + (digs l.size).length + 1 + l.size := by
  rw [size_list, preS_list]
  simp only [List.length_append, numL_len, ← size_list]
  omega
theorem enc_list (n : Nat) (l more : ByteArray) : (encS n l ++ more).data.toList = numL n ++ (numL l.size ++ (l.data.toList ++ (fours (ofC (preS n l).data.toList) ++ more.data.toList))) := by
  rw [app_list, encS_pre, seal_data]
  generalize ofC (preS n l).data.toList = c
  rw [preS_list]
  simp

theorem enc_reads {n : Nat} {l : ByteArray} (more : ByteArray) (h0 : 1 ≤ n) (h1 : n ≤ 99) (hl : l.size ≤ 4096) :
    iC (encS n l ++ more) 0 99 = 0 ∧ iV (encS n l ++ more) 0 99 = n ∧ iP (encS n l ++ more) = (digs n).length + 1 ∧
    tC (encS n l ++ more) (iP (encS n l ++ more)) 4096 = 0 ∧ tV (encS n l ++ more) (iP (encS n l ++ more)) 4096 = l ∧ tP (encS n l ++ more) = (preS n l).size ∧ cC (encS n l ++ more) (preS n l).size = 0 := by
  have hL := enc_list n l more
  obtain ⟨k1, k2, k3⟩ := read_num (P := []) (R := numL l.size ++ (l.data.toList ++ (fours (ofC (preS n l).data.toList) ++ more.data.toList))) (v := n) (a := 0) (Z := encS n l ++ more) (by rw [List.nil_append]; exact hL) rfl (by omega)
  have hi : iC (encS n l ++ more) 0 99 = 0 := by unfold iC; rw [if_pos k1, k2, if_neg (by omega)]
  have hv : iV (encS n l ++ more) 0 99 = n := by unfold iV; rw [if_pos hi, k2]
  have hp : iP (encS n l ++ more) = (digs n).length + 1 := by unfold iP iA; rw [if_pos hi, k3, Nat.zero_add]
  obtain ⟨m1, m2, m3⟩ := read_textM (P := numL n) (R := fours (ofC (preS n l).data.toList) ++ more.data.toList) (t := l) (a := (digs n).length + 1) (m := 4096) hL (by rw [numL_len]) (by omega) (by omega)
  have ht : tP (encS n l ++ more) = (preS n l).size := by unfold tP; rw [hp, m3, preS_size]
  refine ⟨hi, hv, hp, by rw [hp]; exact m1, by rw [hp]; exact m2, ht, ?_⟩
  have hsz : (encS n l ++ more).size = (preS n l).size + 4 + more.size := by rw [ByteArray.size_append, encS_pre, seal_size]
  have he : (encS n l ++ more).extract 0 ((preS n l).size + 4) = encS n l := by
    apply ByteArray.ext
    apply Array.toList_inj.1
    have e4 : (preS n l).size + 4 = (encS n l).data.toList.length := by rw [← size_list, encS_pre, seal_size]
    rw [ByteArray.data_extract, Array.toList_extract, app_list, e4]
    simp [List.extract]
  unfold cC
  rw [if_neg (by omega), he, encS_pre, seal_ends, if_pos rfl]

/-- An encoded frame is read as that frame. -/
theorem enc_back {n : Nat} {l : ByteArray} (more : ByteArray) (h0 : 1 ≤ n) (h1 : n ≤ 99) (hl : l.size ≤ 4096) :
    xC (encS n l ++ more) = 0 ∧ xK (encS n l ++ more) = n ∧ xL (encS n l ++ more) = l ∧ xN (encS n l ++ more) = (encS n l).size := by
  obtain ⟨a1, a2, a3, a4, a5, a6, a7⟩ := enc_reads more h0 h1 hl
  have hx : xC (encS n l ++ more) = 0 := by unfold xC; rw [if_pos a1, if_neg (by omega), if_pos a4, a6, a7]
  refine ⟨hx, ?_, ?_, ?_⟩
  · unfold xK; rw [if_pos hx, a2]
  · unfold xL; rw [if_pos hx, a5]
  · unfold xN; rw [if_pos hx, a6, encS_pre, seal_size]

/-! ### Cut off -/
theorem cut_bt (E : ByteArray) {j i : Nat} (h : i < j) : bt (E.extract 0 j) i = bt E i := by
  unfold bt
  rw [ByteArray.data_extract, Array.toList_extract]
  simp [List.extract, List.getD, h]
theorem cut_win (E : ByteArray) {j a k : Nat} (h : a + k ≤ j) : win (E.extract 0 j) a k = win E a k := by
  unfold win
  rw [ByteArray.data_extract, Array.toList_extract]
  simp only [List.extract, Nat.sub_zero, List.drop_zero]
  rw [List.drop_take, List.take_take, Nat.min_eq_left (by omega)]
/-- A number that is cut off is too short; one that is whole is read as before. -/
theorem cut_short {E : ByteArray} {a j : Nat} (hj : j ≤ E.size) (h : nC E a = 0) (hc : j < nA E a) : nC (E.extract 0 j) a = 1 := by
  have hs : (E.extract 0 j).size = j := by rw [ext_size2 E hj]; omega
  obtain ⟨g1, g2, g3, g4⟩ := nC_zero h
  have hA : nA E a = a + 1 + bt E a := by unfold nA; rw [if_pos h]
  unfold nC
  rw [hs]
  by_cases hja : j ≤ a
  · rw [if_pos hja]
  · rw [if_neg hja, cut_bt E (show a < j by omega), if_neg (by omega), if_pos (by omega)]
theorem cut_whole {E : ByteArray} {a j : Nat} (hj : j ≤ E.size) (h : nC E a = 0) (hc : nA E a ≤ j) : nC (E.extract 0 j) a = 0 ∧ nV (E.extract 0 j) a = nV E a ∧ nA (E.extract 0 j) a = nA E a := by
  have hs : (E.extract 0 j).size = j := by rw [ext_size2 E hj]; omega
  obtain ⟨g1, g2, g3, g4⟩ := nC_zero h
  have hA : nA E a = a + 1 + bt E a := by unfold nA; rw [if_pos h]
  have hb : bt (E.extract 0 j) a = bt E a := cut_bt E (by omega)
  have h0 : nC (E.extract 0 j) a = 0 := by
    unfold nC
    rw [hs, hb, if_neg (by omega), if_neg (by omega), if_neg (by omega)]
    rw [if_neg]
    rintro ⟨k1, k2⟩
    rw [cut_bt E (show a + 1 < j by omega)] at k2
    rcases g4 with g4 | g4 <;> omega
  refine ⟨h0, ?_, ?_⟩
  · unfold nV; rw [if_pos h0, if_pos h, hb, cut_win E (by omega)]
  · unfold nA; rw [if_pos h0, if_pos h, hb]

/-- An encoded frame that is cut off is too short. -/
theorem enc_cut {n : Nat} {l : ByteArray} {j : Nat} (h0 : 1 ≤ n) (h1 : n ≤ 99) (hl : l.size ≤ 4096) (hj : j < (encS n l).size) : xC ((encS n l).extract 0 j) = 1 := by
  have hr := enc_reads (n := n) (l := l) ⟨#[]⟩ h0 h1 hl
  have e0 : encS n l ++ ⟨#[]⟩ = encS n l := by apply ByteArray.ext; simp
  rw [e0] at hr
  obtain ⟨a1, a2, a3, a4, a5, a6, a7⟩ := hr
  have hsz : (encS n l).size = (preS n l).size + 4 := by rw [encS_pre, seal_size]
  obtain ⟨k1, k2, k3, k4⟩ := i_good a1
  have hi : iC (encS n l) (iP (encS n l)) 4096 = 0 := by
    unfold tC at a4
    by_cases hi : iC (encS n l) (iP (encS n l)) 4096 = 0
    · exact hi
    · rw [if_neg hi] at a4; exact absurd a4 hi
  obtain ⟨m1, m2, m3, m4⟩ := i_good hi
  have hA : iP (encS n l) = nA (encS n l) 0 := k4
  have hT : tP (encS n l) = nA (encS n l) (iP (encS n l)) + nV (encS n l) (iP (encS n l)) := by unfold tP tA; rw [if_pos a4, m3, m4]
  generalize hE : encS n l = E at *
  have hs : (E.extract 0 j).size = j := by rw [ext_size2 E (by omega)]; omega
  by_cases c1 : j < nA E 0
  · have e := cut_short (Nat.le_of_lt hj) k1 c1
    have ei : iC (E.extract 0 j) 0 99 = 1 := by unfold iC; rw [e, if_neg (by decide)]
    unfold xC; rw [ei, if_neg (by decide)]
  · obtain ⟨w1, w2, w3⟩ := cut_whole (Nat.le_of_lt hj) k1 (by omega)
    have ei : iC (E.extract 0 j) 0 99 = 0 := by unfold iC; rw [if_pos w1, w2, if_neg (by omega)]
    have ev : iV (E.extract 0 j) 0 99 = n := by unfold iV; rw [if_pos ei, w2]; omega
    have ep : iP (E.extract 0 j) = iP E := by rw [hA]; unfold iP iA; rw [if_pos ei, w3]
    unfold xC
    rw [if_pos ei, ev, if_neg (by omega), ep]
    by_cases c2 : j < nA E (iP E)
    · have e := cut_short (Nat.le_of_lt hj) m1 c2
      have et : tC (E.extract 0 j) (iP E) 4096 = 1 := by
        have e2 : iC (E.extract 0 j) (iP E) 4096 = 1 := by unfold iC; rw [e, if_neg (by decide)]
        unfold tC; rw [e2, if_neg (by decide)]
      rw [et, if_neg (by decide)]
    · obtain ⟨v1, v2, v3⟩ := cut_whole (Nat.le_of_lt hj) m1 (by omega)
      have ei2 : iC (E.extract 0 j) (iP E) 4096 = 0 := by unfold iC; rw [if_pos v1, v2, if_neg (by omega)]
      have ev2 : iV (E.extract 0 j) (iP E) 4096 = nV E (iP E) := by unfold iV; rw [if_pos ei2, v2]
      have ea2 : iA (E.extract 0 j) (iP E) 4096 = nA E (iP E) := by unfold iA; rw [if_pos ei2, v3]
      by_cases c3 : j < nA E (iP E) + nV E (iP E)
      · have et : tC (E.extract 0 j) (iP E) 4096 = 1 := by unfold tC; rw [if_pos ei2, ea2, ev2, hs, if_pos c3]
        rw [et, if_neg (by decide)]
      · have et : tC (E.extract 0 j) (iP E) 4096 = 0 := by unfold tC; rw [if_pos ei2, ea2, ev2, hs, if_neg c3]
        have etp : tP (E.extract 0 j) = tP E := by rw [hT]; unfold tP tA; rw [ep, if_pos et, ea2, ev2]
        rw [if_pos et, etp]
        unfold cC
        rw [hs, if_pos (by omega)]
end Go.Proofs.YtcmdemblegdelaaDoor
