/-
  A vector's bytes are read as it, whatever follows. Plain mathematics.
  Conditions: the elements are counts.
-/
import Derived.Test.YtfmdmifpgmkohaaDoorVrC
import Derived.Test.YtfmdmifpgmkohaaDoorVwB
import Derived.Test.YtfmdmifpgmkohaaDoorOctQ
namespace Go.Proofs.YtfmdmifpgmkohaaDoor
open Go.RowKit

theorem read_upto {Z : ByteArray} {P R : List UInt8} {v a : Nat} {m : Int} (h : Z.data.toList = P ++ (numL v ++ R)) (ha : a = P.length) (hv : v < 18446744073709551616) (hm : (v : Int) ≤ m) :
    iV' Z a m 0 = v ∧ iA' Z a m 0 = a + (numL v).length ∧ iC' Z a m 0 = 0 := by
  obtain ⟨h1, h2, h3⟩ := read_num h ha hv
  have hi : iC Z a m = 0 := by unfold iC; rw [if_pos h1, h2, if_neg (by omega)]
  refine ⟨?_, ?_, ?_⟩
  · unfold iV'; rw [if_pos rfl]; unfold iV; rw [if_pos hi, h2]
  · unfold iA'; rw [if_pos rfl]; unfold iA; rw [if_pos hi, h3, numL_len, Nat.add_assoc]
  · unfold iC'; rw [if_pos rfl, hi]

theorem cellsW_split (v : Nat → Int) {k : Nat} : ∀ {n : Nat}, k < n → ∃ R, cellsW v n = cellsW v k ++ (numL (v k).toNat ++ R)
  | 0, h => by omega
  | n + 1, h => by
    by_cases e : k = n
    · subst e; exact ⟨[], by rw [cellsW, List.append_nil]⟩
    · obtain ⟨R, hR⟩ := cellsW_split v (k := k) (n := n) (by omega)
      exact ⟨R ++ numL (v n).toNat, by rw [cellsW, hR]; simp⟩

/-- A vector's bytes, and what follows them. -/
def backV (v : Nat → Int) (more : ByteArray) : ByteArray := writeV v ++ more
theorem backV_list (v : Nat → Int) (more : ByteArray) : (backV v more).data.toList = numL (lngV v 8) ++ (cellsW v (lngV v 8) ++ more.data.toList) := by
  unfold backV
  rw [app_list]
  show codeW v (lngV v 8) (lngV v 8) ++ _ = _
  unfold codeW
  rw [List.append_assoc]
theorem back_head (v : Nat → Int) (more : ByteArray) : rN (backV v more) 0 0 = lngV v 8 ∧ rS (backV v more) 0 0 0 = ((numL (lngV v 8)).length, 0) := by
  have h8 := lngV_le v 8
  obtain ⟨h1, h2, h3⟩ := read_upto (Z := backV v more) (P := []) (a := 0) (m := 8) (by rw [List.nil_append]; exact backV_list v more) rfl (by omega) (by omega)
  refine ⟨h1, ?_⟩
  unfold rS
  rw [h2, h3, Nat.zero_add]
section
variable {v : Nat → Int} (more : ByteArray) (hok : okV v = true) (hnn : ∀ i, i < 8 → 0 ≤ v i)
include hok hnn
theorem back_at : ∀ k, k ≤ lngV v 8 → rS (backV v more) 0 0 k = ((numL (lngV v 8)).length + (cellsW v k).length, 0)
  | 0, _ => by rw [(back_head v more).2]; rfl
  | k + 1, hk => by
    have h8 := lngV_le v 8
    have ih := back_at k (by omega)
    obtain ⟨R, hR⟩ := cellsW_split v (n := lngV v 8) (k := k) (by omega)
    have hvk := okV_iff.1 hok k (by omega)
    have hv0 := hnn k (by omega)
    obtain ⟨_, h2, h3⟩ := read_upto (Z := backV v more) (P := numL (lngV v 8) ++ cellsW v k) (a := (numL (lngV v 8)).length + (cellsW v k).length) (v := (v k).toNat) (m := 1048576) (R := R ++ more.data.toList)
      (by rw [backV_list, hR]; simp) (by rw [List.length_append]) (by omega) (by omega)
    rw [rS, ih]
    show (iA' _ _ _ 0, iC' _ _ _ 0) = _
    rw [h2, h3, cellsW, List.length_append, Nat.add_assoc]
theorem back_elem {k : Nat} (hk : k < lngV v 8) : (rX (backV v more) 0 0 k : Int) = v k := by
  have h8 := lngV_le v 8
  have ih := back_at more hok hnn k (by omega)
  obtain ⟨R, hR⟩ := cellsW_split v (n := lngV v 8) (k := k) (by omega)
  have hvk := okV_iff.1 hok k (by omega)
  have hv0 := hnn k (by omega)
  obtain ⟨h1, _, _⟩ := read_upto (Z := backV v more) (P := numL (lngV v 8) ++ cellsW v k) (a := (numL (lngV v 8)).length + (cellsW v k).length) (v := (v k).toNat) (m := 1048576) (R := R ++ more.data.toList)
    (by rw [backV_list, hR]; simp) (by rw [List.length_append]) (by omega) (by omega)
  unfold rX
  rw [ih]
  show ((iV' _ _ _ 0 : Nat) : Int) = _
  rw [h1]; omega
theorem back_vec : rC (backV v more) 0 0 = 0 ∧ rA (backV v more) 0 0 = (writeV v).size ∧ ∀ i, i < 8 → rV (backV v more) 0 0 i = v i := by
  have h8 := lngV_le v 8
  have hN := (back_head v more).1
  have hE := back_at more hok hnn (lngV v 8) (Nat.le_refl _)
  have hC : rC (backV v more) 0 0 = 0 := by
    unfold rC
    rw [hN, if_neg]
    · unfold rD; rw [hN, hE]
    · rintro ⟨h0, hx⟩
      have h1 := back_elem more hok hnn (k := lngV v 8 - 1) (by omega)
      rw [hx] at h1
      exact lngV_last h0 h1.symm
  refine ⟨hC, ?_, fun i hi => ?_⟩
  · unfold rA
    rw [hN, hE]
    show _ = (codeW v (lngV v 8) (lngV v 8)).toArray.size
    simp [codeW]
  · unfold rV
    rw [hN]
    by_cases hl : i < lngV v 8
    · rw [if_pos ⟨hC, hl⟩]; exact back_elem more hok hnn hl
    · rw [if_neg (fun k => hl k.2)]; exact (lngV_behind (by omega) hi).symm
end
end Go.Proofs.YtfmdmifpgmkohaaDoor
