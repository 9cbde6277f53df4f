/-
  A set's bytes are read as it, whatever follows: plain mathematics.
  Conditions: none.
-/
import Derived.Test.YtgcmlefalilodaaDotY
import Derived.Test.YtgcmlefalilodaaOctQ
namespace Go.Proofs.Ytgcmlefalilodaa
open Go.RowKit

theorem read_up {Z : ByteArray} {P R : List UInt8} {v a : Nat} {m : Int} (h : Z.data.toList = P ++ (numL v ++ R)) (ha : a = P.length) (hv : v < 18446744073709551616) (hm : (v : Int) ≤ m) :
    iV' Z a m 0 = v ∧ iA' Z a m 0 = a + (numL v).length ∧ iC' Z a m 0 = 0 := by
  obtain ⟨h1, h2, h3⟩ := read_num h ha hv
  have hi : iC Z a m = 0 := by unfold iC; rw [if_pos h1, h2, if_neg (by omega)]
  refine ⟨?_, ?_, ?_⟩
  · unfold iV'; rw [if_pos rfl]; unfold iV; rw [if_pos hi, h2]
  · unfold iA'; rw [if_pos rfl]; unfold iA; rw [if_pos hi, h3, numL_len, Nat.add_assoc]
  · unfold iC'; rw [if_pos rfl, hi]
/-- One name. -/
theorem read_id {Z : ByteArray} {P R : List UInt8} {o q : Int} {a : Nat} (h : Z.data.toList = P ++ (numL o.toNat ++ (numL q.toNat ++ R))) (ha : a = P.length) (hc : chk o q = 0) :
    (jO Z a 0 : Int) = o ∧ (jQ Z a 0 : Int) = q ∧ jA Z a 0 = a + ((numL o.toNat).length + (numL q.toNat).length) ∧ jC Z a 0 = 0 := by
  have hk := chk_zero hc
  obtain ⟨x1, x2, x3⟩ := read_up (m := 7) h ha (by omega) (by omega)
  obtain ⟨y1, y2, y3⟩ := read_up (Z := Z) (P := P ++ numL o.toNat) (R := R) (v := q.toNat) (a := jB Z a 0) (m := 1048576) (by rw [List.append_assoc]; exact h) (by unfold jB; rw [x2, List.length_append, ha]) (by omega) (by omega)
  have hE : jE Z a 0 = 0 := x3
  have hY : jY Z a 0 = q.toNat := by unfold jY; rw [hE, y1]
  have hY0 : ¬ jY Z a 0 = 0 := by rw [hY]; omega
  have hD : jD Z a 0 = 0 := by unfold jD; rw [hE, y3]
  refine ⟨?_, ?_, ?_, ?_⟩
  · unfold jO; rw [if_neg hY0]; unfold jX; rw [x1]; omega
  · unfold jQ; rw [if_neg hY0, hY]; omega
  · unfold jA; rw [hE, y2]; unfold jB; rw [x2]; omega
  · unfold jC; rw [if_neg hY0, hD]

/-- A set's bytes, and what follows them. -/
def backS (A : List (Int × Int)) (more : ByteArray) : ByteArray := wrS A ++ more
theorem backS_list {A : List (Int × Int)} (h : chkS A = 0) (more : ByteArray) : (backS A more).data.toList = numL A.length ++ (idsL A ++ more.data.toList) := by
  unfold backS
  rw [app_list]
  unfold wrS; rw [if_pos h]
  show setL A ++ _ = _
  unfold setL
  rw [List.append_assoc]
theorem idsL_app (A B : List (Int × Int)) : idsL (A ++ B) = idsL A ++ idsL B := by simp [idsL]
section
variable {A : List (Int × Int)} (more : ByteArray) (h : chkS A = 0)
include h
theorem back_n : dN (backS A more) 0 0 = A.length ∧ dB (backS A more) 0 0 = (numL A.length).length ∧ dE (backS A more) 0 0 = 0 := by
  have hl := (chkS_zero h).1
  obtain ⟨x1, x2, x3⟩ := read_up (Z := backS A more) (P := []) (a := 0) (m := 64) (by rw [List.nil_append]; exact backS_list h more) rfl (by omega) (by omega)
  exact ⟨x1, by unfold dB; rw [x2, Nat.zero_add], x3⟩
theorem back_k : ∀ k, k ≤ A.length → rst (backS A more) (numL A.length).length 0 k = ((numL A.length).length + (idsL (A.take k)).length, 0) ∧ rLs (backS A more) (numL A.length).length 0 k = A.take k
  | 0, _ => ⟨by simp [rst, idsL], by simp [rLs]⟩
  | k + 1, hk => by
    obtain ⟨e1, e2⟩ := back_k k (by omega)
    obtain ⟨⟨o, q⟩, hx⟩ : ∃ x, A[k]? = some x := ⟨_, List.getElem?_eq_getElem (by omega)⟩
    have hts := take_snoc hx
    have hok := valS_at (chkS_zero h).2.1 hx
    have hsp : idsL A = idsL (A.take k) ++ (numL o.toNat ++ numL q.toNat) ++ idsL (A.drop (k + 1)) := by
      have e : A = (A.take k ++ [(o, q)]) ++ A.drop (k + 1) := by rw [← hts, List.take_append_drop]
      have : idsL A = idsL ((A.take k ++ [(o, q)]) ++ A.drop (k + 1)) := by rw [← e]
      rw [this, idsL_app, idsL_snoc]
    obtain ⟨r1, r2, r3, r4⟩ := read_id (Z := backS A more) (P := numL A.length ++ idsL (A.take k)) (R := idsL (A.drop (k + 1)) ++ more.data.toList) (a := (numL A.length).length + (idsL (A.take k)).length) (by rw [backS_list h, hsp]; simp) (by rw [List.length_append]) hok
    refine ⟨?_, ?_⟩
    · rw [rst, e1]
      show (jA _ _ 0, jC _ _ 0) = _
      rw [r3, r4, hts, idsL_snoc, List.length_append, List.length_append, Nat.add_assoc]
    · rw [rLs, e1, e2]
      show A.take k ++ [((jO _ _ 0 : Int), (jQ _ _ 0 : Int))] = _
      rw [r1, r2, hts]
theorem back_set : dC (backS A more) 0 0 = 0 ∧ dL (backS A more) 0 0 = A ∧ dA (backS A more) 0 0 = (wrS A).size := by
  obtain ⟨n1, n2, n3⟩ := back_n more h
  obtain ⟨e1, e2⟩ := back_k more h A.length (Nat.le_refl _)
  rw [List.take_length] at e1 e2
  have hL0 : dL0 (backS A more) 0 0 = A := by unfold dL0; rw [n1, n2, n3, e2]
  have hC : dC (backS A more) 0 0 = 0 := by unfold dC; rw [hL0, n1, n2, n3, e1, h]; rfl
  refine ⟨hC, ?_, ?_⟩
  · unfold dL; rw [if_pos hC, hL0]
  · unfold dA; rw [n1, n2, n3, e1]
    unfold wrS; rw [if_pos h]
    show _ = (setL A).toArray.size
    simp [setL]
end
theorem wrS_size {A : List (Int × Int)} (h : chkS A = 0) : (wrS A).size ≤ 1200 := by
  obtain ⟨l, v, _⟩ := chkS_zero h
  have h1 := numL_le (n := A.length) (by omega)
  have h2 := idsL_len v
  unfold wrS; rw [if_pos h]
  show (setL A).toArray.size ≤ _
  simp [setL]; omega
end Go.Proofs.Ytgcmlefalilodaa
