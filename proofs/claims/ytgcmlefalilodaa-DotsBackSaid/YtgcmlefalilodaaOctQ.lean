/-
  What is written is read as it was: plain mathematics; and the walk of the law OctetBack.
  Conditions: the numbers fit their kinds; package errors' own variable holds the handle of the type error.
-/
import Derived.Test.YtgcmlefalilodaaOctP
import Derived.Lib.SmallJoins
namespace Go.Proofs.Ytgcmlefalilodaa
open Go.RowKit

theorem size_list (s : ByteArray) : s.size = s.data.toList.length := Lib.size_eq s

theorem numL_len (v : Nat) : (numL v).length = (digs v).length + 1 := by simp [numL]

theorem bt_mid {Z : ByteArray} {P R : List UInt8} {b : UInt8} (h : Z.data.toList = P ++ b :: R) : bt Z P.length = b.toNat := by
  unfold bt
  rw [h, List.getD, List.getElem?_append_right (Nat.le_refl _)]
  simp

theorem win_mid {Z : ByteArray} {P M R : List UInt8} (h : Z.data.toList = P ++ (M ++ R)) : win Z P.length M.length = M := by
  unfold win
  rw [h, List.drop_append_of_le_length (Nat.le_refl _), List.drop_length, List.nil_append, List.take_append_of_le_length (Nat.le_refl _), List.take_length]

/-- A number is read as it was written, whatever stands ahead and behind. -/
theorem read_num {Z : ByteArray} {P R : List UInt8} {v a : Nat} (h : Z.data.toList = P ++ (numL v ++ R)) (ha : a = P.length) (hv : v < 18446744073709551616) :
    nC Z a = 0 ∧ nV Z a = v ∧ nA Z a = a + (digs v).length + 1 := by
  subst ha
  have h8 := digs_le8 hv
  have hsz : Z.size = P.length + ((digs v).length + 1 + R.length) := by rw [size_list, h]; simp [numL_len]
  have e1 : Z.data.toList = P ++ (UInt8.ofNat (digs v).length :: (digs v ++ R)) := by rw [h]; rfl
  have hb : bt Z P.length = (digs v).length := by
    rw [bt_mid e1, UInt8.toNat_ofNat']; omega
  have e2 : Z.data.toList = (P ++ [UInt8.ofNat (digs v).length]) ++ (digs v ++ R) := by rw [e1]; simp
  have hw : win Z (P.length + 1) (digs v).length = digs v := by
    have := win_mid e2
    rw [List.length_append] at this
    exact this
  have hn : 0 < (digs v).length → bt Z (P.length + 1) ≠ 0 := by
    intro hpos
    rcases hd : digs v with _ | ⟨b, t⟩
    · rw [hd] at hpos; simp at hpos
    · have hh := digs_head v
      rw [hd] at hh e2
      have hbt : bt Z (P ++ [UInt8.ofNat (b :: t).length]).length = b.toNat := bt_mid (R := t ++ R) (by rw [e2]; simp)
      rw [List.length_append] at hbt
      have : bt Z (P.length + 1) = b.toNat := hbt
      rw [this]
      intro h0
      have : b = 0 := UInt8.toNat_inj.1 (by simpa using h0)
      subst this; simp at hh
  have hc : nC Z P.length = 0 := by
    unfold nC
    rw [hb, if_neg (by omega), if_neg (by omega), if_neg (by omega), if_neg (by intro hh; exact hn hh.1 hh.2)]
  refine ⟨hc, ?_, ?_⟩
  · unfold nV; rw [if_pos hc, hb, hw, val_digs]
  · unfold nA; rw [if_pos hc, hb]; omega

/-- A text is read as it was written. -/
theorem read_text {Z : ByteArray} {P R : List UInt8} {t : ByteArray} {a : Nat} (h : Z.data.toList = P ++ (numL t.size ++ (t.data.toList ++ R))) (ha : a = P.length) (ht : t.size ≤ 1048576) :
    tC Z a t.size = 0 ∧ tV Z a t.size = t ∧ tA Z a t.size = a + (digs t.size).length + 1 + t.size := by
  obtain ⟨h1, h2, h3⟩ := read_num h ha (by omega)
  have hi : iC Z a t.size = 0 := by unfold iC; rw [if_pos h1, h2, if_neg (by omega)]
  have hv : iV Z a t.size = t.size := by unfold iV; rw [if_pos hi, h2]
  have hA : iA Z a t.size = a + (digs t.size).length + 1 := by unfold iA; rw [if_pos hi, h3]
  have hsz : Z.size = P.length + ((digs t.size).length + 1 + (t.size + R.length)) := by rw [size_list, h]; simp only [List.length_append, numL_len, ← size_list]
  have hc : tC Z a t.size = 0 := by unfold tC; rw [if_pos hi, hA, hv, if_neg (by omega)]
  refine ⟨hc, ?_, ?_⟩
  · unfold tV
    rw [if_pos hc, hA, hv]
    apply ByteArray.ext
    apply Array.toList_inj.1
    rw [ext_win]
    have e2 : Z.data.toList = (P ++ numL t.size) ++ (t.data.toList ++ R) := by rw [h]; simp
    have := win_mid e2
    rw [List.length_append, numL_len, ← size_list] at this
    rw [ha, Nat.add_assoc]
    exact this
  · unfold tA; rw [if_pos hc, hA, hv]

/-- A number with a sign is read as it was written. -/
theorem read_signed {Z : ByteArray} {P R : List UInt8} {v : Int} {a : Nat} (h : Z.data.toList = P ++ (numL (sgnN v) ++ R)) (ha : a = P.length) (hv : -9223372036854775808 ≤ v ∧ v ≤ 9223372036854775807) :
    sC Z a = 0 ∧ sV Z a = v ∧ sA Z a = a + (digs (sgnN v)).length + 1 := by
  obtain ⟨h1, h2, h3⟩ := read_num h ha (sgnN_lt hv)
  refine ⟨h1, ?_, h3⟩
  unfold sV
  rw [h2]
  unfold sgnN
  split <;> split <;> omega

theorem app_list (a b : ByteArray) : (a ++ b).data.toList = a.data.toList ++ b.data.toList := by simp

theorem numS_le {v : Nat} (h : v < 18446744073709551616) : (numS v).size ≤ 9 := by have := numS_size v; have := digs_le8 h; omega
theorem app_size (a b : ByteArray) : (a ++ b).size = a.size + b.size := by simp

/-- The bytes that the law OctetBack reads. -/
def backZ (v : Nat) (s : Int) (t more : ByteArray) : ByteArray := numS v ++ txtS t ++ numS (sgnN s) ++ more

theorem backZ_list (v : Nat) (s : Int) (t more : ByteArray) : (backZ v s t more).data.toList = numL v ++ (numL t.size ++ (t.data.toList ++ (numL (sgnN s) ++ more.data.toList))) := by
  unfold backZ txtS
  rw [app_list, app_list, app_list, app_list]
  have e : ∀ n, (numS n).data.toList = numL n := fun _ => rfl
  rw [e, e, e]
  simp only [List.append_assoc]

/-- Where the text begins; where the number with a sign begins; where what follows begins. -/
def a1 (v : Nat) : Nat := (digs v).length + 1
def a2 (v : Nat) (t : ByteArray) : Nat := a1 v + (digs t.size).length + 1 + t.size
def a3 (v : Nat) (s : Int) (t : ByteArray) : Nat := a2 v t + (digs (sgnN s)).length + 1

theorem back_reads (v : Nat) (s : Int) (t more : ByteArray) (hv : v < 18446744073709551616) (hs : -9223372036854775808 ≤ s ∧ s ≤ 9223372036854775807) (ht : t.size ≤ 1048576) :
    (nC' (backZ v s t more) 0 0 = 0 ∧ nV' (backZ v s t more) 0 0 = v ∧ nA' (backZ v s t more) 0 0 = a1 v) ∧
    (tC' (backZ v s t more) (a1 v) t.size 0 = 0 ∧ tV' (backZ v s t more) (a1 v) t.size 0 = t ∧ tA' (backZ v s t more) (a1 v) t.size 0 = a2 v t) ∧
    (sC' (backZ v s t more) (a2 v t) 0 = 0 ∧ sV' (backZ v s t more) (a2 v t) 0 = s ∧ sA' (backZ v s t more) (a2 v t) 0 = a3 v s t) ∧
    (backZ v s t more).size = a3 v s t + more.size := by
  have h := backZ_list v s t more
  have r1 := read_num (P := []) (a := 0) h rfl hv
  have r2 := read_text (P := numL v) (a := a1 v) h (numL_len v).symm ht
  have h3 : (backZ v s t more).data.toList = (numL v ++ (numL t.size ++ t.data.toList)) ++ (numL (sgnN s) ++ more.data.toList) := by rw [h]; simp only [List.append_assoc]
  have r3 := read_signed (a := a2 v t) h3 (by simp only [List.length_append, numL_len, ← size_list, a2, a1]; omega) hs
  refine ⟨⟨r1.1, r1.2.1, ?_⟩, ⟨r2.1, r2.2.1, r2.2.2⟩, ⟨r3.1, r3.2.1, r3.2.2⟩, ?_⟩
  · show nA _ 0 = _
    rw [r1.2.2, a1]; omega
  · rw [size_list, h]
    simp only [List.length_append, numL_len, ← size_list, a3, a2, a1]
    omega

end Go.Proofs.Ytgcmlefalilodaa
