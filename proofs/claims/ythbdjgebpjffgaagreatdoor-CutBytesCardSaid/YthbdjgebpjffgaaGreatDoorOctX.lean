/-
  The examples that each law of octet checks first come out as the document says.
  Conditions: package errors' own variable holds the handle of the type error.
-/
import Derived.Test.YthbdjgebpjffgaaGreatDoorOctN
import Derived.Test.YthbdjgebpjffgaaGreatDoorOctR
import Derived.OpenShut
import Derived.Deep.RegionHeld3
import Derived.IntWalk
import Derived.Lib.SmallJoins
set_option linter.unusedVariables false
set_option linter.unusedSimpArgs false
namespace Go.Proofs.YthbdjgebpjffgaaGreatDoor
open Go.RowKit

theorem d0 : digs 0 = [] := digs_zero
theorem d1 : digs 1 = [1] := by rw [digs_pos (by decide), show 1 / 256 = 0 from rfl, d0]; rfl
theorem d2 : digs 2 = [2] := by rw [digs_pos (by decide), show 2 / 256 = 0 from rfl, d0]; rfl
theorem d300 : digs 300 = [1, 44] := by rw [digs_pos (by decide), show 300 / 256 = 1 from rfl, d1]; rfl
theorem n300 : numS 300 = ⟨#[2, 1, 44]⟩ := by unfold numS numL; rw [d300]; rfl
theorem n0 : numS 0 = ⟨#[0]⟩ := by unfold numS numL; rw [d0]; rfl
theorem s1 : numS (sgnN (-1)) = ⟨#[1, 1]⟩ := by unfold numS numL; rw [show sgnN (-1) = 1 from rfl, d1]; rfl
theorem tab : txtS ⟨#[97, 98]⟩ = ⟨#[1, 2, 97, 98]⟩ := by unfold txtS; rw [show (⟨#[97, 98]⟩ : ByteArray).size = 2 from rfl]; unfold numS numL; rw [d2]; rfl

/-- The bytes that the second example reads. -/
def exQ : ByteArray := ⟨#[1, 2, 97, 98, 1, 1, 120]⟩
def exR : ByteArray := ⟨#[2, 0, 1]⟩

theorem cat : (⟨#[1, 2, 97, 98]⟩ : ByteArray) ++ ⟨#[1, 1]⟩ ++ ⟨#[120]⟩ = exQ := by decide

theorem r1 : nC' exR 0 0 = 3 ∧ nV' exR 0 0 = 0 ∧ nA' exR 0 0 = 0 := by decide +kernel
theorem q1 : tC' exQ 0 2 0 = 0 ∧ tV' exQ 0 2 0 = ⟨#[97, 98]⟩ ∧ tA' exQ 0 2 0 = 4 := by decide +kernel
theorem q2 : sC' exQ 4 0 = 0 ∧ sV' exQ 4 0 = -1 ∧ sA' exQ 4 0 = 6 := by decide +kernel
theorem q3 : endC exQ 6 0 = 6 := by decide +kernel

end Go.Proofs.YthbdjgebpjffgaaGreatDoor

/-
  A number is written in one way alone: plain mathematics; and the walk of the law OctetOne.
  Conditions: package errors' own variable holds the handle of the type error.
-/

namespace Go.Proofs.YthbdjgebpjffgaaGreatDoor
open Go.RowKit

theorem nC_zero {s : ByteArray} {a : Nat} (h : nC s a = 0) : a < s.size ∧ bt s a ≤ 8 ∧ a + 1 + bt s a ≤ s.size ∧ (bt s a = 0 ∨ bt s (a + 1) ≠ 0) := by
  unfold nC at h
  split at h
  · simp at h
  · split at h
    · simp at h
    · split at h
      · simp at h
      · split at h
        · simp at h
        · omega

theorem win_succ (s : ByteArray) (a k : Nat) (h : a < s.size) : win s a (k + 1) = UInt8.ofNat (bt s a) :: win s (a + 1) k := by
  have h' : a < s.data.toList.length := by rw [← Lib.size_eq]; exact h
  unfold win bt
  rw [List.drop_eq_getElem_cons h', List.take_succ_cons, List.getD, List.getElem?_eq_getElem h', Option.getD_some]
  simp

theorem win_head (s : ByteArray) (a k : Nat) (h : a + k ≤ s.size) (h0 : k = 0 ∨ bt s a ≠ 0) : (win s a k).head? ≠ some 0 := by
  rcases k with _ | k
  · simp [win]
  · rw [win_succ s a k (by omega), List.head?_cons]
    intro e
    have e2 := congrArg UInt8.toNat (Option.some.inj e)
    rw [UInt8.toNat_ofNat', Nat.mod_eq_of_lt (bt_lt s a)] at e2
    rcases h0 with h0 | h0
    · omega
    · exact h0 e2

theorem one_way {s : ByteArray} {a : Nat} (h : nC s a = 0) : numS (nV s a) = s.extract a (nA s a) := by
  obtain ⟨h1, h2, h3, h4⟩ := nC_zero h
  have hv : nV s a = valB (win s (a + 1) (bt s a)) := by unfold nV; rw [if_pos h]
  have hA : nA s a = a + (bt s a + 1) := by unfold nA; rw [if_pos h]; omega
  have hl := win_len s (a + 1) (bt s a) (by omega)
  have hd : digs (nV s a) = win s (a + 1) (bt s a) := by
    rw [hv]
    exact digs_val _ _ rfl (win_head s (a + 1) (bt s a) (by omega) h4)
  apply ByteArray.ext
  apply Array.toList_inj.1
  rw [hA, ext_win, win_succ s a _ h1]
  show numL (nV s a) = _
  unfold numL
  rw [hd, hl]

/-- The reader is as it was, and below block number B nothing has turned. -/
def S1 (w : World) (r : Nat) (s : ByteArray) (a : Nat) (c : Int) (w' : World) : Prop := Rdr w' r s a c ∧ Below w.heap.size w w' ∧ w.heap.size ≤ r

theorem S1.drew {w : World} {r : Nat} {s : ByteArray} {a : Nat} {c : Int} {w' : World} (h : S1 w r s a c w') : S1 w r s a c w'.drew := ⟨h.1, h.2.1.drew, h.2.2⟩

theorem S1.bel {w : World} {r : Nat} {s : ByteArray} {a : Nat} {c : Int} {w' : World} (h : S1 w r s a c w') : Below w.heap.size w w' := h.2.1

theorem left_S1 {w : World} {r : Nat} {s : ByteArray} {a : Nat} {c : Int} {w' : World} (h : S1 w r s a c w') (ha : a ≤ s.size) (hs : s.size ≤ 1048576) :
    Calls Tryz.prog 87 #[.pointer (some ⟨r, 0, none⟩)] w' fun e w2 => e = .returned (.int .i64 ((s.size : Int) - a)) ∧ S1 w r s a c w2 :=
  (left_any r a s c w' h.1 ha hs).mono fun _ _ ⟨he, n, hw⟩ => ⟨he, by subst hw; exact ⟨h.1, below_drewN h.2.1 n, h.2.2⟩⟩

theorem num_S1 {w : World} {r : Nat} {s : ByteArray} {a : Nat} {c : Int} {w' : World} (v : Nat) (h : S1 w r s a c w') (hv : v < 18446744073709551616) :
    Calls Tryz.prog 34 #[.int .u64 v] w' fun e w2 => e = .returned (.string (numS v)) ∧ S1 w r s a c w2 :=
  (num_any v w' hv).mono fun _ _ ⟨he, hb⟩ => ⟨he, Blk.below h.1 hb, below_then h.2.1 hb, h.2.2⟩

end Go.Proofs.YthbdjgebpjffgaaGreatDoor

/-
  What is written is read as it was: plain mathematics; and the walk of the law OctetBack.
  Conditions: the numbers fit their kinds; package errors' own variable holds the handle of the type error.
-/

namespace Go.Proofs.YthbdjgebpjffgaaGreatDoor
open Go.RowKit

theorem size_list (s : ByteArray) : s.size = s.data.toList.length := Lib.size_eq s

theorem numL_len (v : Nat) : (numL v).length = (digs v).length + 1 := by simp [numL]

theorem bt_mid {Z : ByteArray} {P R : List UInt8} {b : UInt8} (h : Z.data.toList = P ++ b :: R) : bt Z P.length = b.toNat := by
  unfold bt
  rw [h, List.getD, List.getElem?_append_right (Nat.le_refl _)]
  simp

theorem win_mid {Z : ByteArray} {P M R : List UInt8} (h : Z.data.toList = P ++ (M ++ R)) : win Z P.length M.length = M := by
  unfold win
  rw [h, List.drop_append_of_le_length (Nat.le_refl _), List.drop_length, List.nil_append, List.take_append_of_le_length (Nat.le_refl _), List.take_length]

/-- A number is read as it was written, whatever stands ahead and behind. -/
theorem read_num {Z : ByteArray} {P R : List UInt8} {v a : Nat} (h : Z.data.toList = P ++ (numL v ++ R)) (ha : a = P.length) (hv : v < 18446744073709551616) :
    nC Z a = 0 ∧ nV Z a = v ∧ nA Z a = a + (digs v).length + 1 := by
  subst ha
  have h8 := digs_le8 hv
  have hsz : Z.size = P.length + ((digs v).length + 1 + R.length) := by rw [size_list, h]; simp [numL_len]
  have e1 : Z.data.toList = P ++ (UInt8.ofNat (digs v).length :: (digs v ++ R)) := by rw [h]; rfl
  have hb : bt Z P.length = (digs v).length := by
    rw [bt_mid e1, UInt8.toNat_ofNat']; omega
  have e2 : Z.data.toList = (P ++ [UInt8.ofNat (digs v).length]) ++ (digs v ++ R) := by rw [e1]; simp
  have hw : win Z (P.length + 1) (digs v).length = digs v := by
    have := win_mid e2
    rw [List.length_append] at this
    exact this
  have hn : 0 < (digs v).length → bt Z (P.length + 1) ≠ 0 := by
    intro hpos
    rcases hd : digs v with _ | ⟨b, t⟩
    · rw [hd] at hpos; simp at hpos
    · have hh := digs_head v
      rw [hd] at hh e2
      have hbt : bt Z (P ++ [UInt8.ofNat (b :: t).length]).length = b.toNat := bt_mid (R := t ++ R) (by rw [e2]; simp)
      rw [List.length_append] at hbt
      have : bt Z (P.length + 1) = b.toNat := hbt
      rw [this]
      intro h0
      have : b = 0 := UInt8.toNat_inj.1 (by simpa using h0)
      subst this; simp at hh
  have hc : nC Z P.length = 0 := by
    unfold nC
    rw [hb, if_neg (by omega), if_neg (by omega), if_neg (by omega), if_neg (by intro hh; exact hn hh.1 hh.2)]
  refine ⟨hc, ?_, ?_⟩
  · unfold nV; rw [if_pos hc, hb, hw, val_digs]
  · unfold nA; rw [if_pos hc, hb]; omega

/-- A text is read as it was written. -/
theorem read_text {Z : ByteArray} {P R : List UInt8} {t : ByteArray} {a : Nat} (h : Z.data.toList = P ++ (numL t.size ++ (t.data.toList ++ R))) (ha : a = P.length) (ht : t.size ≤ 1048576) :
    tC Z a t.size = 0 ∧ tV Z a t.size = t ∧ tA Z a t.size = a + (digs t.size).length + 1 + t.size := by
  obtain ⟨h1, h2, h3⟩ := read_num h ha (by omega)
  have hi : iC Z a t.size = 0 := by unfold iC; rw [if_pos h1, h2, if_neg (by omega)]
  have hv : iV Z a t.size = t.size := by unfold iV; rw [if_pos hi, h2]
  have hA : iA Z a t.size = a + (digs t.size).length + 1 := by unfold iA; rw [if_pos hi, h3]
  have hsz : Z.size = P.length + ((digs t.size).length + 1 + (t.size + R.length)) := by rw [size_list, h]; simp only [List.length_append, numL_len, ← size_list]
  have hc : tC Z a t.size = 0 := by unfold tC; rw [if_pos hi, hA, hv, if_neg (by omega)]
  refine ⟨hc, ?_, ?_⟩
  · unfold tV
    rw [if_pos hc, hA, hv]
    apply ByteArray.ext
    apply Array.toList_inj.1
    rw [ext_win]
    have e2 : Z.data.toList = (P ++ numL t.size) ++ (t.data.toList ++ R) := by rw [h]; simp
    have := win_mid e2
    rw [List.length_append, numL_len, ← size_list] at this
    rw [ha, Nat.add_assoc]
    exact this
  · unfold tA; rw [if_pos hc, hA, hv]

/-- A number with a sign is read as it was written. -/
theorem read_signed {Z : ByteArray} {P R : List UInt8} {v : Int} {a : Nat} (h : Z.data.toList = P ++ (numL (sgnN v) ++ R)) (ha : a = P.length) (hv : -9223372036854775808 ≤ v ∧ v ≤ 9223372036854775807) :
    sC Z a = 0 ∧ sV Z a = v ∧ sA Z a = a + (digs (sgnN v)).length + 1 := by
  obtain ⟨h1, h2, h3⟩ := read_num h ha (sgnN_lt hv)
  refine ⟨h1, ?_, h3⟩
  unfold sV
  rw [h2]
  unfold sgnN
  split <;> split <;> omega

theorem app_list (a b : ByteArray) : (a ++ b).data.toList = a.data.toList ++ b.data.toList := by simp

theorem numS_le {v : Nat} (h : v < 18446744073709551616) : (numS v).size ≤ 9 := by have := numS_size v; have := digs_le8 h; omega
theorem app_size (a b : ByteArray) : (a ++ b).size = a.size + b.size := by simp

/-- The bytes that the law OctetBack reads. -/
def backZ (v : Nat) (s : Int) (t more : ByteArray) : ByteArray := numS v ++ txtS t ++ numS (sgnN s) ++ more

theorem backZ_list (v : Nat) (s : Int) (t more : ByteArray) : (backZ v s t more).data.toList = numL v ++ (numL t.size ++ (t.data.toList ++ (numL (sgnN s) ++ more.data.toList))) := by
  unfold backZ txtS
  rw [app_list, app_list, app_list, app_list]
  have e : ∀ n, (numS n).data.toList = numL n := fun _ => rfl
  rw [e, e, e]
  simp only [List.append_assoc]

/-- Where the text begins; where the number with a sign begins; where what follows begins. -/
def a1 (v : Nat) : Nat := (digs v).length + 1
def a2 (v : Nat) (t : ByteArray) : Nat := a1 v + (digs t.size).length + 1 + t.size
def a3 (v : Nat) (s : Int) (t : ByteArray) : Nat := a2 v t + (digs (sgnN s)).length + 1

theorem back_reads (v : Nat) (s : Int) (t more : ByteArray) (hv : v < 18446744073709551616) (hs : -9223372036854775808 ≤ s ∧ s ≤ 9223372036854775807) (ht : t.size ≤ 1048576) :
    (nC' (backZ v s t more) 0 0 = 0 ∧ nV' (backZ v s t more) 0 0 = v ∧ nA' (backZ v s t more) 0 0 = a1 v) ∧
    (tC' (backZ v s t more) (a1 v) t.size 0 = 0 ∧ tV' (backZ v s t more) (a1 v) t.size 0 = t ∧ tA' (backZ v s t more) (a1 v) t.size 0 = a2 v t) ∧
    (sC' (backZ v s t more) (a2 v t) 0 = 0 ∧ sV' (backZ v s t more) (a2 v t) 0 = s ∧ sA' (backZ v s t more) (a2 v t) 0 = a3 v s t) ∧
    (backZ v s t more).size = a3 v s t + more.size := by
  have h := backZ_list v s t more
  have r1 := read_num (P := []) (a := 0) h rfl hv
  have r2 := read_text (P := numL v) (a := a1 v) h (numL_len v).symm ht
  have h3 : (backZ v s t more).data.toList = (numL v ++ (numL t.size ++ t.data.toList)) ++ (numL (sgnN s) ++ more.data.toList) := by rw [h]; simp only [List.append_assoc]
  have r3 := read_signed (a := a2 v t) h3 (by simp only [List.length_append, numL_len, ← size_list, a2, a1]; omega) hs
  refine ⟨⟨r1.1, r1.2.1, ?_⟩, ⟨r2.1, r2.2.1, r2.2.2⟩, ⟨r3.1, r3.2.1, r3.2.2⟩, ?_⟩
  · show nA _ 0 = _
    rw [r1.2.2, a1]; omega
  · rw [size_list, h]
    simp only [List.length_append, numL_len, ← size_list, a3, a2, a1]
    omega

end Go.Proofs.YthbdjgebpjffgaaGreatDoor
