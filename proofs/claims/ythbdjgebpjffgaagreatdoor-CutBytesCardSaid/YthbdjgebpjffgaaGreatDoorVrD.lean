/-
  A vector's bytes are read as it, whatever follows. Plain mathematics.
  Conditions: the elements are counts.
-/
import Derived.Test.YthbdjgebpjffgaaGreatDoorCuD
import Derived.Test.YthbdjgebpjffgaaGreatDoorDotY
import Derived.Test.YthbdjgebpjffgaaGreatDoorOctX
import Derived.Test.YthbdjgebpjffgaaGreatDoorVrA
import Derived.Test.YthbdjgebpjffgaaGreatDoorVwA
set_option linter.unusedVariables false
set_option linter.unusedSimpArgs false
namespace Go.Proofs.YthbdjgebpjffgaaGreatDoor
open Go.RowKit

theorem read_upto {Z : ByteArray} {P R : List UInt8} {v a : Nat} {m : Int} (h : Z.data.toList = P ++ (numL v ++ R)) (ha : a = P.length) (hv : v < 18446744073709551616) (hm : (v : Int) ≤ m) :
    iV' Z a m 0 = v ∧ iA' Z a m 0 = a + (numL v).length ∧ iC' Z a m 0 = 0 := by
  obtain ⟨h1, h2, h3⟩ := read_num h ha hv
  have hi : iC Z a m = 0 := by unfold iC; rw [if_pos h1, h2, if_neg (by omega)]
  refine ⟨?_, ?_, ?_⟩
  · unfold iV'; rw [if_pos rfl]; unfold iV; rw [if_pos hi, h2]
  · unfold iA'; rw [if_pos rfl]; unfold iA; rw [if_pos hi, h3, numL_len, Nat.add_assoc]
  · unfold iC'; rw [if_pos rfl, hi]

theorem cellsW_split (v : Nat → Int) {k : Nat} : ∀ {n : Nat}, k < n → ∃ R, cellsW v n = cellsW v k ++ (numL (v k).toNat ++ R)
  | 0, h => by omega
  | n + 1, h => by
    by_cases e : k = n
    · subst e; exact ⟨[], by rw [cellsW, List.append_nil]⟩
    · obtain ⟨R, hR⟩ := cellsW_split v (k := k) (n := n) (by omega)
      exact ⟨R ++ numL (v n).toNat, by rw [cellsW, hR]; simp⟩

/-- A vector's bytes, and what follows them. -/
def backV (v : Nat → Int) (more : ByteArray) : ByteArray := writeV v ++ more
theorem backV_list (v : Nat → Int) (more : ByteArray) : (backV v more).data.toList = numL (lngV v 8) ++ (cellsW v (lngV v 8) ++ more.data.toList) := by
  unfold backV
  rw [app_list]
  show codeW v (lngV v 8) (lngV v 8) ++ _ = _
  unfold codeW
  rw [List.append_assoc]
theorem back_head (v : Nat → Int) (more : ByteArray) : rN (backV v more) 0 0 = lngV v 8 ∧ rS (backV v more) 0 0 0 = ((numL (lngV v 8)).length, 0) := by
  have h8 := lngV_le v 8
  obtain ⟨h1, h2, h3⟩ := read_upto (Z := backV v more) (P := []) (a := 0) (m := 8) (by rw [List.nil_append]; exact backV_list v more) rfl (by omega) (by omega)
  refine ⟨h1, ?_⟩
  unfold rS
  rw [h2, h3, Nat.zero_add]
section
variable {v : Nat → Int} (more : ByteArray) (hok : okV v = true) (hnn : ∀ i, i < 8 → 0 ≤ v i)
include hok hnn
theorem back_at : ∀ k, k ≤ lngV v 8 → rS (backV v more) 0 0 k = ((numL (lngV v 8)).length + (cellsW v k).length, 0)
  | 0, _ => by rw [(back_head v more).2]; rfl
  | k + 1, hk => by
    have h8 := lngV_le v 8
    have ih := back_at k (by omega)
    obtain ⟨R, hR⟩ := cellsW_split v (n := lngV v 8) (k := k) (by omega)
    have hvk := okV_iff.1 hok k (by omega)
    have hv0 := hnn k (by omega)
    obtain ⟨_, h2, h3⟩ := read_upto (Z := backV v more) (P := numL (lngV v 8) ++ cellsW v k) (a := (numL (lngV v 8)).length + (cellsW v k).length) (v := (v k).toNat) (m := 1048576) (R := R ++ more.data.toList)
      (by rw [backV_list, hR]; simp) (by rw [List.length_append]) (by omega) (by omega)
    rw [rS, ih]
    show (iA' _ _ _ 0, iC' _ _ _ 0) = _
    rw [h2, h3, cellsW, List.length_append, Nat.add_assoc]
theorem back_elem {k : Nat} (hk : k < lngV v 8) : (rX (backV v more) 0 0 k : Int) = v k := by
  have h8 := lngV_le v 8
  have ih := back_at more hok hnn k (by omega)
  obtain ⟨R, hR⟩ := cellsW_split v (n := lngV v 8) (k := k) (by omega)
  have hvk := okV_iff.1 hok k (by omega)
  have hv0 := hnn k (by omega)
  obtain ⟨h1, _, _⟩ := read_upto (Z := backV v more) (P := numL (lngV v 8) ++ cellsW v k) (a := (numL (lngV v 8)).length + (cellsW v k).length) (v := (v k).toNat) (m := 1048576) (R := R ++ more.data.toList)
    (by rw [backV_list, hR]; simp) (by rw [List.length_append]) (by omega) (by omega)
  unfold rX
  rw [ih]
  show ((iV' _ _ _ 0 : Nat) : Int) = _
  rw [h1]; omega
theorem back_vec : rC (backV v more) 0 0 = 0 ∧ rA (backV v more) 0 0 = (writeV v).size ∧ ∀ i, i < 8 → rV (backV v more) 0 0 i = v i := by
  have h8 := lngV_le v 8
  have hN := (back_head v more).1
  have hE := back_at more hok hnn (lngV v 8) (Nat.le_refl _)
  have hC : rC (backV v more) 0 0 = 0 := by
    unfold rC
    rw [hN, if_neg]
    · unfold rD; rw [hN, hE]
    · rintro ⟨h0, hx⟩
      have h1 := back_elem more hok hnn (k := lngV v 8 - 1) (by omega)
      rw [hx] at h1
      exact lngV_last h0 h1.symm
  refine ⟨hC, ?_, fun i hi => ?_⟩
  · unfold rA
    rw [hN, hE]
    show _ = (codeW v (lngV v 8) (lngV v 8)).toArray.size
    simp [codeW]
  · unfold rV
    rw [hN]
    by_cases hl : i < lngV v 8
    · rw [if_pos ⟨hC, hl⟩]; exact back_elem more hok hnn hl
    · rw [if_neg (fun k => hl k.2)]; exact (lngV_behind (by omega) hi).symm
end
end Go.Proofs.YthbdjgebpjffgaaGreatDoor

/-
  A set's bytes are read as it, whatever follows: plain mathematics.
  Conditions: none.
-/

namespace Go.Proofs.YthbdjgebpjffgaaGreatDoor
open Go.RowKit

theorem read_up {Z : ByteArray} {P R : List UInt8} {v a : Nat} {m : Int} (h : Z.data.toList = P ++ (numL v ++ R)) (ha : a = P.length) (hv : v < 18446744073709551616) (hm : (v : Int) ≤ m) :
    iV' Z a m 0 = v ∧ iA' Z a m 0 = a + (numL v).length ∧ iC' Z a m 0 = 0 := by
  obtain ⟨h1, h2, h3⟩ := read_num h ha hv
  have hi : iC Z a m = 0 := by unfold iC; rw [if_pos h1, h2, if_neg (by omega)]
  refine ⟨?_, ?_, ?_⟩
  · unfold iV'; rw [if_pos rfl]; unfold iV; rw [if_pos hi, h2]
  · unfold iA'; rw [if_pos rfl]; unfold iA; rw [if_pos hi, h3, numL_len, Nat.add_assoc]
  · unfold iC'; rw [if_pos rfl, hi]
/-- One name. -/
theorem read_id {Z : ByteArray} {P R : List UInt8} {o q : Int} {a : Nat} (h : Z.data.toList = P ++ (numL o.toNat ++ (numL q.toNat ++ R))) (ha : a = P.length) (hc : chk o q = 0) :
    (jO Z a 0 : Int) = o ∧ (jQ Z a 0 : Int) = q ∧ jA Z a 0 = a + ((numL o.toNat).length + (numL q.toNat).length) ∧ jC Z a 0 = 0 := by
  have hk := chk_zero hc
  obtain ⟨x1, x2, x3⟩ := read_up (m := 7) h ha (by omega) (by omega)
  obtain ⟨y1, y2, y3⟩ := read_up (Z := Z) (P := P ++ numL o.toNat) (R := R) (v := q.toNat) (a := jB Z a 0) (m := 1048576) (by rw [List.append_assoc]; exact h) (by unfold jB; rw [x2, List.length_append, ha]) (by omega) (by omega)
  have hE : jE Z a 0 = 0 := x3
  have hY : jY Z a 0 = q.toNat := by unfold jY; rw [hE, y1]
  have hY0 : ¬ jY Z a 0 = 0 := by rw [hY]; omega
  have hD : jD Z a 0 = 0 := by unfold jD; rw [hE, y3]
  refine ⟨?_, ?_, ?_, ?_⟩
  · unfold jO; rw [if_neg hY0]; unfold jX; rw [x1]; omega
  · unfold jQ; rw [if_neg hY0, hY]; omega
  · unfold jA; rw [hE, y2]; unfold jB; rw [x2]; omega
  · unfold jC; rw [if_neg hY0, hD]

/-- A set's bytes, and what follows them. -/
def backS (A : List (Int × Int)) (more : ByteArray) : ByteArray := wrS A ++ more
theorem backS_list {A : List (Int × Int)} (h : chkS A = 0) (more : ByteArray) : (backS A more).data.toList = numL A.length ++ (idsL A ++ more.data.toList) := by
  unfold backS
  rw [app_list]
  unfold wrS; rw [if_pos h]
  show setL A ++ _ = _
  unfold setL
  rw [List.append_assoc]
theorem idsL_app (A B : List (Int × Int)) : idsL (A ++ B) = idsL A ++ idsL B := by simp [idsL]
section
variable {A : List (Int × Int)} (more : ByteArray) (h : chkS A = 0)
include h
theorem back_n : dN (backS A more) 0 0 = A.length ∧ dB (backS A more) 0 0 = (numL A.length).length ∧ dE (backS A more) 0 0 = 0 := by
  have hl := (chkS_zero h).1
  obtain ⟨x1, x2, x3⟩ := read_up (Z := backS A more) (P := []) (a := 0) (m := 64) (by rw [List.nil_append]; exact backS_list h more) rfl (by omega) (by omega)
  exact ⟨x1, by unfold dB; rw [x2, Nat.zero_add], x3⟩
theorem back_k : ∀ k, k ≤ A.length → rst (backS A more) (numL A.length).length 0 k = ((numL A.length).length + (idsL (A.take k)).length, 0) ∧ rLs (backS A more) (numL A.length).length 0 k = A.take k
  | 0, _ => ⟨by simp [rst, idsL], by simp [rLs]⟩
  | k + 1, hk => by
    obtain ⟨e1, e2⟩ := back_k k (by omega)
    obtain ⟨⟨o, q⟩, hx⟩ : ∃ x, A[k]? = some x := ⟨_, List.getElem?_eq_getElem (by omega)⟩
    have hts := take_snoc hx
    have hok := valS_at (chkS_zero h).2.1 hx
    have hsp : idsL A = idsL (A.take k) ++ (numL o.toNat ++ numL q.toNat) ++ idsL (A.drop (k + 1)) := by
      have e : A = (A.take k ++ [(o, q)]) ++ A.drop (k + 1) := by rw [← hts, List.take_append_drop]
      have : idsL A = idsL ((A.take k ++ [(o, q)]) ++ A.drop (k + 1)) := by rw [← e]
      rw [this, idsL_app, idsL_snoc]
    obtain ⟨r1, r2, r3, r4⟩ := read_id (Z := backS A more) (P := numL A.length ++ idsL (A.take k)) (R := idsL (A.drop (k + 1)) ++ more.data.toList) (a := (numL A.length).length + (idsL (A.take k)).length) (by rw [backS_list h, hsp]; simp) (by rw [List.length_append]) hok
    refine ⟨?_, ?_⟩
    · rw [rst, e1]
      show (jA _ _ 0, jC _ _ 0) = _
      rw [r3, r4, hts, idsL_snoc, List.length_append, List.length_append, Nat.add_assoc]
    · rw [rLs, e1, e2]
      show A.take k ++ [((jO _ _ 0 : Int), (jQ _ _ 0 : Int))] = _
      rw [r1, r2, hts]
theorem back_set : dC (backS A more) 0 0 = 0 ∧ dL (backS A more) 0 0 = A ∧ dA (backS A more) 0 0 = (wrS A).size := by
  obtain ⟨n1, n2, n3⟩ := back_n more h
  obtain ⟨e1, e2⟩ := back_k more h A.length (Nat.le_refl _)
  rw [List.take_length] at e1 e2
  have hL0 : dL0 (backS A more) 0 0 = A := by unfold dL0; rw [n1, n2, n3, e2]
  have hC : dC (backS A more) 0 0 = 0 := by unfold dC; rw [hL0, n1, n2, n3, e1, h]; rfl
  refine ⟨hC, ?_, ?_⟩
  · unfold dL; rw [if_pos hC, hL0]
  · unfold dA; rw [n1, n2, n3, e1]
    unfold wrS; rw [if_pos h]
    show _ = (setL A).toArray.size
    simp [setL]
end
theorem wrS_size {A : List (Int × Int)} (h : chkS A = 0) : (wrS A).size ≤ 1200 := by
  obtain ⟨l, v, _⟩ := chkS_zero h
  have h1 := numL_le (n := A.length) (by omega)
  have h2 := idsL_len v
  unfold wrS; rw [if_pos h]
  show (setL A).toArray.size ≤ _
  simp [setL]; omega
end Go.Proofs.YthbdjgebpjffgaaGreatDoor

/-
  A cut in bytes: package cut's Write and Read; what is written is read.
  Conditions: the reader lies in a block of its own; its text has at most 2^20 bytes.
-/

namespace Go.Proofs.YthbdjgebpjffgaaGreatDoor
open Go.RowKit Go.Shelf Go.Lib Go.Sort

set_option maxRecDepth 100000 in
set_option maxHeartbeats 2000000 in
theorem dReadF_any (r a : Nat) (s : ByteArray) (c : Int) (w : World) (h : Rdr w r s a c) (ha : a ≤ s.size) (hs : s.size ≤ 1048576) :
    Calls Tryz.prog 24 #[.pointer (some ⟨r, 0, none⟩)] w fun e w' => ∃ al cap, e = .returned (.slice al (dL s a c).length cap) ∧ Ids w' al (dL s a c).length cap (dL s a c) ∧ Flat al ∧ Rdr w' r s (dA s a c) (dC s a c) ∧ Only r w w' := by
  obtain ⟨ti, hi, hz0, hz1, hz2⟩ := info_parts Tryz.infoId
  have hlt := Blk.lt h
  have HN : Hid (iV' s a 64 c = dN s a c) := Lib.hid rfl
  have HB : Hid (iA' s a 64 c = dB s a c) := Lib.hid rfl
  have HE : Hid (iC' s a 64 c = dE s a c) := Lib.hid rfl
  have hnle := dN_le s a c
  have hble := dB_le (c := c) ha
  have HR := Lib.hid h; clear h
  go_enter Tryz.func24, Tryz.ntmps24
  go_wp2_with fail
  refine (rdInt_val r a s 64 c _ _ _ _ HN.out HB.out HE.out HR.out ha hs (by omega)).mono ?_
  rintro e w1 ⟨rfl, hr1, ho1⟩
  have HR1 := Lib.hid hr1
  have HO1 := Lib.hid ho1
  clear hr1 ho1
  have HL0 : Hid (dL0 s a c = rLs s (dB s a c) (dE s a c) (dN s a c)) := Lib.hid rfl
  have HDA : Hid (dA s a c = (rst s (dB s a c) (dE s a c) (dN s a c)).1) := Lib.hid rfl
  have HDC : Hid (dC s a c = failC (rst s (dB s a c) (dE s a c) (dN s a c)).2 (chkS (dL0 s a c))) := Lib.hid rfl
  generalize dN s a c = n at hnle HN HL0 HDA HDC ⊢
  generalize dB s a c = a1 at hble HB HL0 HDA HDC HR1 ⊢
  generalize dE s a c = c1 at HE HL0 HDA HDC HR1 ⊢
  go_wp2
  go_loopw [3, 6] (fun v s6 wr => ∃ k : Nat, s6 = .int .i64 k ∧ k ≤ n ∧ wr.ownsRow w.heap.size 83 2 v k (idCs (rLs s a1 c1 k)) ∧ Rdr wr r s (rst s a1 c1 k).1 (rst s a1 c1 k).2 ∧ Only r w wr) (fun _ s6 _ => n - (intOf s6).toNat)
  case atStart => exact ⟨0, rfl, by omega, World.ownsRow_nil _ _ _ _, HR1.out, HO1.out⟩
  case round =>
    obtain ⟨k, rfl, hk, hown, hrd, ho⟩ := hrel
    have HOW := Lib.hid hown
    have HRD := Lib.hid hrd; clear hrd
    have HON := Lib.hid ho; clear ho
    by_cases hkn : k < n
    · clear hown
      have hle := rst_le (c := c1) hble k
      have HNX : Hid (rLs s a1 c1 (k + 1) = rLs s a1 c1 k ++ [((jO s (rst s a1 c1 k).1 (rst s a1 c1 k).2 : Int), (jQ s (rst s a1 c1 k).1 (rst s a1 c1 k).2 : Int))]) := Lib.hid rfl
      have HST : Hid (rst s a1 c1 (k + 1) = (jA s (rst s a1 c1 k).1 (rst s a1 c1 k).2, jC s (rst s a1 c1 k).1 (rst s a1 c1 k).2)) := Lib.hid rfl
      generalize rst s a1 c1 k = st at HRD HNX HST hle
      go_wp2_with fail
      refine (idRead_any r _ s _ _ HRD.out hle hs).mono ?_
      rintro e w2 ⟨rfl, hr2, ho2⟩
      have HR2 := Lib.hid hr2
      have HOW2 := Lib.hid (own_only HOW.out ho2 hlt)
      have HO2 := Lib.hid (HON.out.trans ho2)
      clear hr2 ho2
      generalize (jO s st.1 st.2 : Int) = o at HNX ⊢
      generalize (jQ s st.1 st.2 : Int) = q at HNX ⊢
      go_wp2_with (at_builtin; refine wpList_append_own _ rfl (.tmp 8) (.tmp 11) 25 rfl w.heap.size 83 ti (.agg #[.int .i64 0, .int .u32 0]) 2 16 Tryz.underlying25 hi hz0 hz1 hz2 rfl (by decide) _ _ _ rfl (HOW2.out.alloc _) ⟨w2.heap.size, 0, none⟩ 1 1 [.int .i64 o, .int .u32 q] rfl rfl ?c1 ?c2 ?c3 ?c4 ?c5 ?_)
      case c1 => exact newId_at _ _ _ _ rfl
      case c2 => intro u hu; simp at hu; rcases hu with rfl | rfl <;> rfl
      case c3 => unfold maxLen; omega
      case c4 => omega
      case c5 => have := HO2.out.size; simp; omega
      intro v' w3 hown' hgrow hn'
      have HR3 : Hid (Rdr w3 r s (jA s st.1 st.2) (jC s st.1 st.2)) := Lib.hid ((hgrow.block r (by have := Blk.lt HR2.out; simp; omega) (fun e => by have := own_base HOW2.out r e.symm; omega)).trans (Blk.alloc HR2.out _))
      have HO3 : Hid (Only r w w3) := Lib.hid ((HO2.out.alloc _).grown hgrow (fun k hk => own_base HOW2.out k hk))
      have HOW3 := Lib.hid hown'
      clear hown' hgrow hn'
      go_wp2
      go_roundw
      case rel => exact ⟨k + 1, by go_num, by omega, by rw [HNX.out, idCs_app]; exact HOW3.out, by rw [HST.out]; exact HR3.out, HO3.out⟩
      case measure => simp [intOf]; omega
    · have hkk : (n : Int) ≤ k := by omega
      obtain rfl : k = n := by omega
      rw [← HL0.out] at hown
      obtain ⟨hl4, al4, cap4, rfl, hI4, hF4⟩ := own_ids hown
      have hll : (dL0 s a c).length = k := by rw [HL0.out]; exact rLs_len ..
      have HI4 := Lib.hid hI4; have HF4 := Lib.hid hF4; clear hI4 hF4 hown
      have HD1 : Hid (dC s a c = 0 → dL s a c = dL0 s a c) := Lib.hid fun e => by unfold dL; rw [if_pos e]
      have HD2 : Hid (¬ dC s a c = 0 → dL s a c = []) := Lib.hid fun e => by unfold dL; rw [if_neg e]
      generalize dL0 s a c = L at hll HI4 hl4 HDC HD1
      have hdle : dA s a c ≤ s.size := by rw [HDA.out]; exact rst_le hble _
      obtain ⟨da, hda⟩ : ∃ da, dA s a c = da := ⟨_, rfl⟩
      obtain ⟨dc, hdc0⟩ : ∃ dc, dC s a c = dc := ⟨_, rfl⟩
      rw [hda] at HDA hdle
      rw [hdc0] at HDC HD1 HD2
      have HDAe := Lib.hid hda
      have HDCe := Lib.hid hdc0
      clear hda hdc0
      obtain ⟨ck, hck⟩ : ∃ ck, chkS L = ck := ⟨_, rfl⟩
      have HCK := Lib.hid hck
      rw [hck] at HDC
      clear hck hll hl4
      generalize hm : L.length = m at HI4 ⊢
      have HMM := Lib.hid hm; clear hm
      go_wp2_with fail
      refine (dCheck_any al4 m cap4 L wr HI4.out).mono ?_
      rw [HCK.out]
      rintro e w5 ⟨rfl, b5⟩
      have HI5 := Lib.hid (HI4.out.below b5)
      have HR5 := Lib.hid (Blk.below HRD.out b5)
      have HO5 := Lib.hid (HON.out.trans (only_of b5)); clear b5
      go_wp2_with fail
      refine (fail_any r _ s _ ck _ HR5.out).mono ?_
      rintro e w6 ⟨rfl, hr6, ho6⟩
      rw [← HDC.out, ← HDA.out] at hr6
      have HI6 := Lib.hid (ids_only HI5.out HR5.out ho6)
      have HR6 := Lib.hid hr6
      have HO6 := Lib.hid (HO5.out.trans ho6); clear hr6 ho6
      by_cases hdc : dc = 0
      · have HRR := Lib.hid (HD1.out hdc)
        have hr6 := HR6.out
        rw [hdc] at hr6
        have HR6' : Hid (Rdr w6 r s da 0) := Lib.hid hr6; clear hr6
        have HDZ := Lib.hid hdc; clear hdc
        go_wp2_with fail
        refine (err_none r da s w6 HR6'.out).mono ?_
        rintro e w7 ⟨rfl, rfl⟩
        go_wp2
        go_ret
        exact ⟨al4, cap4, by rw [HRR.out, HMM.out]; rfl, by rw [HRR.out, HMM.out]; exact HI6.out, HF4.out, by rw [HDAe.out, HDCe.out, HDZ.out]; exact HR6'.out, HO6.out⟩
      · have HRR := Lib.hid (HD2.out hdc)
        go_wp2_with fail
        refine (err_some r da s dc w6 HR6.out hdc).mono ?_
        rintro e w7 ⟨rfl, hb7, b7⟩
        have HR7 := Lib.hid (Blk.below HR6.out b7)
        have HO7 := Lib.hid (HO6.out.trans (only_of b7)); clear hb7 b7
        go_wp2
        go_ret
        exact ⟨none, 0, by rw [HRR.out]; rfl, by rw [HRR.out]; exact Ids.nil _, .inl rfl, by rw [HDAe.out, HDCe.out]; exact HR7.out, HO7.out⟩

/-! ### A set's bytes at any place -/
section
variable {A : List (Int × Int)} {Z : ByteArray} {P R : List UInt8} {a : Nat} (hZ : Z.data.toList = P ++ (numL A.length ++ (idsL A ++ R))) (ha : a = P.length) (h : chkS A = 0)
include hZ ha h
theorem at_n : dN Z a 0 = A.length ∧ dB Z a 0 = a + (numL A.length).length ∧ dE Z a 0 = 0 := by
  have hl := (chkS_zero h).1
  obtain ⟨x1, x2, x3⟩ := read_up (Z := Z) (P := P) (a := a) (m := 64) hZ ha (by omega) (by omega)
  exact ⟨x1, x2, x3⟩
theorem at_k : ∀ k, k ≤ A.length → rst Z (a + (numL A.length).length) 0 k = (a + (numL A.length).length + (idsL (A.take k)).length, 0) ∧ rLs Z (a + (numL A.length).length) 0 k = A.take k
  | 0, _ => ⟨by simp [rst, idsL], by simp [rLs]⟩
  | k + 1, hk => by
    obtain ⟨e1, e2⟩ := at_k k (by omega)
    obtain ⟨⟨o, q⟩, hx⟩ : ∃ x, A[k]? = some x := ⟨_, List.getElem?_eq_getElem (by omega)⟩
    have hts := take_snoc hx
    have hok := valS_at (chkS_zero h).2.1 hx
    have hsp : idsL A = idsL (A.take k) ++ (numL o.toNat ++ numL q.toNat) ++ idsL (A.drop (k + 1)) := by
      have e : A = (A.take k ++ [(o, q)]) ++ A.drop (k + 1) := by rw [← hts, List.take_append_drop]
      have : idsL A = idsL ((A.take k ++ [(o, q)]) ++ A.drop (k + 1)) := by rw [← e]
      rw [this, idsL_app, idsL_snoc]
    obtain ⟨r1, r2, r3, r4⟩ := read_id (Z := Z) (P := P ++ (numL A.length ++ idsL (A.take k))) (R := idsL (A.drop (k + 1)) ++ R) (a := a + (numL A.length).length + (idsL (A.take k)).length) (by rw [hZ, hsp]; simp) (by rw [List.length_append, List.length_append, ha]; omega) hok
    refine ⟨?_, ?_⟩
    · rw [rst, e1]
      show (jA _ _ 0, jC _ _ 0) = _
      rw [r3, r4, hts, idsL_snoc, List.length_append, List.length_append]
      congr 1; dsimp only; omega
    · rw [rLs, e1, e2]
      show A.take k ++ [((jO _ _ 0 : Int), (jQ _ _ 0 : Int))] = _
      rw [r1, r2, hts]
theorem at_set : dC Z a 0 = 0 ∧ dL Z a 0 = A ∧ dA Z a 0 = a + (wrS A).size := by
  obtain ⟨n1, n2, n3⟩ := at_n hZ ha h
  obtain ⟨e1, e2⟩ := at_k hZ ha h A.length (Nat.le_refl _)
  rw [List.take_length] at e1 e2
  have hL0 : dL0 Z a 0 = A := by unfold dL0; rw [n1, n2, n3, e2]
  have hC : dC Z a 0 = 0 := by unfold dC; rw [hL0, n1, n2, n3, e1, h]; rfl
  refine ⟨hC, ?_, ?_⟩
  · unfold dL; rw [if_pos hC, hL0]
  · unfold dA; rw [n1, n2, n3, e1]
    unfold wrS; rw [if_pos h]
    show _ = a + (setL A).toArray.size
    simp [setL]; omega
end

/-! ### A cut's bytes -/
/-- What Write tells. -/
def cwS (v : Nat → Int) (L : List (Int × Int)) : ByteArray := if ckC v L = 0 then writeV v ++ wrS L else ⟨#[]⟩
theorem writeV_size {v : Nat → Int} (hv : InB v) : (writeV v).size ≤ 81 := by
  have h8 := lngV_le v 8
  have := codeW_len hv (n := lngV v 8) (k := lngV v 8) (by omega) (by omega)
  show (codeW v (lngV v 8) (lngV v 8)).toArray.size ≤ 81
  simpa using this
/-- What Read tells: what is wrong; the vector; the list; the place. -/
def crC (s : ByteArray) (a : Nat) (c : Int) : Int := failC (dC s (rA s a c) (rC s a c)) (ckC (rV s a c) (dL s (rA s a c) (rC s a c)))
def crV (s : ByteArray) (a : Nat) (c : Int) : Nat → Int := if crC s a c = 0 then rV s a c else zV
def crL (s : ByteArray) (a : Nat) (c : Int) : List (Int × Int) := if crC s a c = 0 then dL s (rA s a c) (rC s a c) else []
def crA (s : ByteArray) (a : Nat) (c : Int) : Nat := dA s (rA s a c) (rC s a c)
theorem rV_in (s : ByteArray) (a : Nat) (c : Int) : InB (rV s a c) := fun i _ => by
  unfold rV
  split
  · have := rX_le (s := s) (a := a) (c := c) i; omega
  · omega
theorem rA_le {s : ByteArray} {a : Nat} {c : Int} (ha : a ≤ s.size) : rA s a c ≤ s.size := rS_in ha _
theorem crA_le {s : ByteArray} {a : Nat} {c : Int} (ha : a ≤ s.size) : crA s a c ≤ s.size := dA_le (rA_le ha)
theorem ckC_congr {v u : Nat → Int} {L : List (Int × Int)} (hv : InB v) (h : ∀ i, i < 8 → u i = v i) (k : ckC v L = 0) : ckC u L = 0 := by
  have hI := (ckC_iff hv).1 k
  have hu : InB u := fun i hi => by rw [h i hi]; exact hv i hi
  have hok : okV u = true := okV_iff.2 fun i hi => by rw [h i hi]; exact okV_iff.1 (okV_of hI.v0) i hi
  have hst : ∀ x ∈ L, ¬ (takeV u x.1 x.2).2 = 0 := fun x hx => by
    intro e
    obtain ⟨_, e2, _, e4, _⟩ := takeV_zero e
    obtain ⟨k, hk, ek⟩ := nat_of (chk_zero e2).1
    have hg := is_gap hI hk
    rw [ek, Int.toNat_natCast, h k hk] at e4
    have hxx : ((k : Int), v k + 1) ∈ L := by rw [← e4, ← ek]; exact hx
    rw [hasC_set hxx] at hg
    exact absurd hg (by decide)
  have hf := foldV_stay L hst
  have hc : foC u L = 0 := by unfold foC; rw [chkV_yes hok]; exact hI.s0
  have hcv : foC v L = 0 := by unfold foC; rw [hI.v0]; exact hI.s0
  refine (ckC_iff hu).2 ⟨chkV_yes hok, hI.s0, ?_, ?_⟩
  · unfold foV; rw [if_pos hc, hf]; exact eqV_refl _
  · unfold foS; rw [if_pos hc, hf]
    unfold byS
    rw [List.filter_eq_self]
    intro x hx
    have hb := is_beyond hI (o := x.1) (q := x.2) hx
    have hc2 := valS_mem (chkS_zero hI.s0).2.1 hx
    obtain ⟨k, hk, ek⟩ := nat_of (chk_zero hc2).1
    unfold hasV at hb ⊢
    rw [ek, Int.toNat_natCast] at hb ⊢
    rw [h k hk, hb]; rfl
/-- What is written is read, whatever follows. -/
theorem back_cut {v : Nat → Int} {L : List (Int × Int)} (more : ByteArray) (hv : InB v) (h : ckC v L = 0) :
    crC (writeV v ++ wrS L ++ more) 0 0 = 0 ∧ crL (writeV v ++ wrS L ++ more) 0 0 = L ∧ crA (writeV v ++ wrS L ++ more) 0 0 = (writeV v ++ wrS L).size ∧ ∀ i, i < 8 → crV (writeV v ++ wrS L ++ more) 0 0 i = v i := by
  have hI := (ckC_iff hv).1 h
  have e : writeV v ++ wrS L ++ more = backV v (wrS L ++ more) := by unfold backV; rw [ByteArray.append_assoc]
  obtain ⟨b1, b2, b3⟩ := back_vec (wrS L ++ more) (okV_of hI.v0) (fun i hi => (hv i hi).1)
  rw [← e] at b1 b2 b3
  have hZ : (writeV v ++ wrS L ++ more).data.toList = (writeV v).data.toList ++ (numL L.length ++ (idsL L ++ more.data.toList)) := by
    have := backS_list hI.s0 more
    unfold backS at this
    rw [app_list] at this
    rw [app_list, app_list, List.append_assoc, this]
  obtain ⟨s1, s2, s3⟩ := at_set (a := (writeV v).size) hZ (by rw [Array.length_toList]; rfl) hI.s0
  have hC : crC (writeV v ++ wrS L ++ more) 0 0 = 0 := by
    unfold crC
    rw [b1, b2, s1, s2]
    unfold failC
    rw [if_pos rfl]
    exact ckC_congr hv b3 h
  refine ⟨hC, ?_, ?_, ?_⟩
  · unfold crL; rw [if_pos hC, b1, b2, s2]
  · unfold crA; rw [b1, b2, s3, app_size]
  · unfold crV; rw [if_pos hC]; exact b3

set_option maxRecDepth 100000 in
set_option maxHeartbeats 2000000 in
theorem cWrite_any (v : Nat → Int) (al : Option Addr) (len cap : Nat) (L : List (Int × Int)) (w : World) (hL : Ids w al len cap L) (hF : Flat al) (hv : InB v) :
    Calls Tryz.prog 5 #[.agg #[.int .u32 (v 0), .int .u32 (v 1), .int .u32 (v 2), .int .u32 (v 3), .int .u32 (v 4), .int .u32 (v 5), .int .u32 (v 6), .int .u32 (v 7), .slice al len cap]] w fun e w' => e = .returned (.tuple #[.string (cwS v L), .int .i64 (ckC v L)]) ∧ Below w.heap.size w w' := by
  have h0 := ((KS.nil w).add hL).box rfl #[.int .u32 (v 0), .int .u32 (v 1), .int .u32 (v 2), .int .u32 (v 3), .int .u32 (v 4), .int .u32 (v 5), .int .u32 (v 6), .int .u32 (v 7), .slice al len cap] 32
  have H0 := Lib.hid h0
  have HX := Lib.hid (h0.blk 0 rfl)
  have HIN := Lib.hid hv
  have hck := cCheck_any v al len cap L _ (h0.ids 0 rfl) hF hv
  clear h0 hL hv
  obtain ⟨c, hc⟩ : ∃ c, ckC v L = c := ⟨_, rfl⟩
  rw [hc] at hck
  by_cases hz : c = 0
  · subst hz
    have HC := Lib.hid hc
    have hs0 := ((ckC_iff HIN.out).1 hc).s0
    have HS0 := Lib.hid hs0
    have hws := wrS_size hs0
    have hwv := writeV_size HIN.out
    have HW : Hid (cwS v L = writeV v ++ wrS L) := Lib.hid (by unfold cwS; rw [if_pos hc])
    clear hc hs0
    go_enter Tryz.func5, Tryz.ntmps5
    go_wp2_with (refine wpList_load_row rfl 32 _ rfl w.heap.size rfl 32 #[.int .u32 (v 0), .int .u32 (v 1), .int .u32 (v 2), .int .u32 (v 3), .int .u32 (v 4), .int .u32 (v 5), .int .u32 (v 6), .int .u32 (v 7), .slice al len cap] (0, 0) _ HX.out Tryz.underlying32 rfl (by kernel_rfl) ?_)
    refine hck.mono ?_
    clear hck
    rintro e w1 ⟨rfl, b1⟩
    have h1 := H0.out.next b1
    have H1 := Lib.hid h1
    have x8 := (cut_cells (h1.blk 0 rfl)).2.2.2.2.2.2.2.2
    clear b1 h1
    go_wp2_with fail
    refine (dWrite_any al len cap L _ (H1.out.ids 0 rfl)).mono ?_
    rw [HS0.out]
    rintro e w2 ⟨rfl, b2⟩
    have h2 := H1.out.next b2
    have H2 := Lib.hid h2
    obtain ⟨y0, y1, y2, y3, y4, y5, y6, y7, y8⟩ := cut_cells (h2.blk 0 rfl)
    clear b2 h2 x8
    go_wp2_with fail
    refine (write_any v _ HIN.out).mono ?_
    rintro e w3 ⟨rfl, b3⟩
    have H3 := Lib.hid (H2.out.next b3); clear b3
    generalize hA : writeV v = A at HW hwv ⊢
    generalize hB : wrS L = B at HW hws ⊢
    clear hA hB
    go_wp2
    go_ret2
    exact ⟨by rw [HW.out, HC.out]; rfl, H3.out.bel⟩
  · have HC := Lib.hid hc
    have HW : Hid (cwS v L = ⟨#[]⟩) := Lib.hid (by unfold cwS; rw [if_neg (by rw [hc]; exact hz)])
    have hn : (c != 0) = true := by simpa using hz
    clear hc hz
    go_enter Tryz.func5, Tryz.ntmps5
    go_wp2_with (refine wpList_load_row rfl 32 _ rfl w.heap.size rfl 32 #[.int .u32 (v 0), .int .u32 (v 1), .int .u32 (v 2), .int .u32 (v 3), .int .u32 (v 4), .int .u32 (v 5), .int .u32 (v 6), .int .u32 (v 7), .slice al len cap] (0, 0) _ HX.out Tryz.underlying32 rfl (by kernel_rfl) ?_)
    refine hck.mono ?_
    clear hck
    rintro e w1 ⟨rfl, b1⟩
    have H1 := Lib.hid (H0.out.next b1); clear b1
    go_wp2
    go_ret2
    exact ⟨by rw [HW.out, HC.out]; rfl, H1.out.bel⟩

set_option maxRecDepth 100000 in
set_option maxHeartbeats 4000000 in
theorem cRead_any (r a : Nat) (s : ByteArray) (c : Int) (w : World) (h : Rdr w r s a c) (ha : a ≤ s.size) (hs : s.size ≤ 1048576) :
    Calls Tryz.prog 11 #[.pointer (some ⟨r, 0, none⟩)] w fun e w' => ∃ al cap, e = .returned (.agg #[.int .u32 (crV s a c 0), .int .u32 (crV s a c 1), .int .u32 (crV s a c 2), .int .u32 (crV s a c 3), .int .u32 (crV s a c 4), .int .u32 (crV s a c 5), .int .u32 (crV s a c 6), .int .u32 (crV s a c 7), .slice al (crL s a c).length cap]) ∧ Ids w' al (crL s a c).length cap (crL s a c) ∧ Flat al ∧ Rdr w' r s (crA s a c) (crC s a c) ∧ Only r w w' := by
  have hlt := Blk.lt h
  have hZ : Blk (w.alloc (.cells #[.int .u32 0, .int .u32 0, .int .u32 0, .int .u32 0, .int .u32 0, .int .u32 0, .int .u32 0, .int .u32 0, .slice none 0 0] 32)) w.heap.size #[.int .u32 0, .int .u32 0, .int .u32 0, .int .u32 0, .int .u32 0, .int .u32 0, .int .u32 0, .int .u32 0, .slice none 0 0] 32 := Blk.new _ _ _
  have hrd := vecRead_any r a s c _ (Blk.alloc h (.cells #[.int .u32 0, .int .u32 0, .int .u32 0, .int .u32 0, .int .u32 0, .int .u32 0, .int .u32 0, .int .u32 0, .slice none 0 0] 32)) ha hs
  have hale := rA_le (c := c) ha
  have hin := rV_in s a c
  have HCV : Hid (crC s a c = 0 → crV s a c = rV s a c ∧ crL s a c = dL s (rA s a c) (rC s a c)) := Lib.hid fun e => ⟨by unfold crV; rw [if_pos e], by unfold crL; rw [if_pos e]⟩
  have HCN : Hid (¬ crC s a c = 0 → crV s a c = zV ∧ crL s a c = []) := Lib.hid fun e => ⟨by unfold crV; rw [if_neg e], by unfold crL; rw [if_neg e]⟩
  have HCC : Hid (crC s a c = failC (dC s (rA s a c) (rC s a c)) (ckC (rV s a c) (dL s (rA s a c) (rC s a c)))) := Lib.hid rfl
  have HCA : Hid (crA s a c = dA s (rA s a c) (rC s a c)) := Lib.hid rfl
  obtain ⟨cc, hcc⟩ : ∃ cc, crC s a c = cc := ⟨_, rfl⟩
  rw [hcc] at HCV HCN HCC
  have HXC := Lib.hid hcc
  clear hcc
  generalize rA s a c = a1 at hrd hale HCV HCC HCA
  generalize rC s a c = c1 at hrd HCV HCC HCA
  generalize rV s a c = v at hrd hin HCV HCC
  generalize hLL : dL s a1 c1 = L at HCV HCC
  generalize hAA : dA s a1 c1 = a2 at HCA
  generalize hDD : dC s a1 c1 = c2 at HCC
  generalize hKK : ckC v L = ck at HCC
  have HL := Lib.hid hLL
  have HA2 := Lib.hid hAA
  have HD2 := Lib.hid hDD
  have HK2 := Lib.hid hKK
  have HZ := Lib.hid hZ
  have HIN := Lib.hid hin
  clear hLL hAA hDD hKK hZ hin h
  go_enter Tryz.func11, Tryz.ntmps11
  go_wp2_with fail
  refine hrd.mono ?_
  clear hrd
  rintro e w1 ⟨rfl, hr1, ho1⟩
  have HZ1 := Lib.hid (HZ.out.only ho1 (by omega))
  have HO1 := Lib.hid (((Only.refl r w).alloc (.cells #[.int .u32 0, .int .u32 0, .int .u32 0, .int .u32 0, .int .u32 0, .int .u32 0, .int .u32 0, .int .u32 0, .slice none 0 0] 32)).trans ho1)
  have hrr := dReadF_any r a1 s c1 w1 hr1 hale hs
  rw [HL.out, HA2.out, HD2.out] at hrr
  have HR1 := Lib.hid hr1
  clear hr1 ho1
  go_wp2_with fail
  refine hrr.mono ?_
  clear hrr
  rintro e w2 ⟨al, cap, rfl, hI2, hF2, hr2, ho2⟩
  have hb : Below w2.heap.size w2 (w2.alloc (.cells #[.int .u32 (v 0), .int .u32 (v 1), .int .u32 (v 2), .int .u32 (v 3), .int .u32 (v 4), .int .u32 (v 5), .int .u32 (v 6), .int .u32 (v 7), .slice al L.length cap] 32)) := (Below.refl _ _).alloc (Nat.le_refl _) _
  have HZ2 := Lib.hid ((HZ1.out.only ho2 (by omega)).below hb)
  have HO2 := Lib.hid ((HO1.out.trans ho2).alloc (.cells #[.int .u32 (v 0), .int .u32 (v 1), .int .u32 (v 2), .int .u32 (v 3), .int .u32 (v 4), .int .u32 (v 5), .int .u32 (v 6), .int .u32 (v 7), .slice al L.length cap] 32))
  have HR2 := Lib.hid (Blk.below hr2 hb)
  have HI2 := Lib.hid (hI2.below hb)
  have HX2 := Lib.hid (Blk.new w2 #[.int .u32 (v 0), .int .u32 (v 1), .int .u32 (v 2), .int .u32 (v 3), .int .u32 (v 4), .int .u32 (v 5), .int .u32 (v 6), .int .u32 (v 7), .slice al L.length cap] 32)
  have hw2 : w.heap.size < w2.heap.size := (HZ1.out.only ho2 (by omega)).lt
  have hrw2 := hr2.lt
  clear hI2 hr2 ho2 hb
  generalize hnn : L.length = n at HI2 HX2 HZ2 HO2 HR2 ⊢
  have HNN := Lib.hid hnn; clear hnn
  go_wp2_with (refine wpList_load_row rfl 32 _ rfl w2.heap.size rfl 32 #[.int .u32 (v 0), .int .u32 (v 1), .int .u32 (v 2), .int .u32 (v 3), .int .u32 (v 4), .int .u32 (v 5), .int .u32 (v 6), .int .u32 (v 7), .slice al n cap] (0, 0) _ HX2.out Tryz.underlying32 rfl (by kernel_rfl) ?_)
  have hck := cCheck_any v al n cap L _ HI2.out hF2 HIN.out
  rw [HK2.out] at hck
  refine hck.mono ?_
  clear hck
  rintro e w3 ⟨rfl, b3⟩
  have HZ3 := Lib.hid (HZ2.out.below b3)
  have HO3 := Lib.hid (HO2.out.trans (only_of b3))
  have HR3 := Lib.hid (Blk.below HR2.out b3)
  have HI3 := Lib.hid (HI2.out.below b3)
  have HX3 := Lib.hid (HX2.out.below b3)
  clear b3
  go_wp2_with fail
  refine (fail_any r a2 s c2 ck _ HR3.out).mono ?_
  rw [← HCC.out]
  rintro e w4 ⟨rfl, hr4, ho4⟩
  have HZ4 := Lib.hid (HZ3.out.only ho4 (by omega))
  have HO4 := Lib.hid (HO3.out.trans ho4)
  have HI4 := Lib.hid (ids_only HI3.out HR3.out ho4)
  have HX4 := Lib.hid (HX3.out.only ho4 (by omega))
  have HR4 := Lib.hid hr4
  clear hr4 ho4
  by_cases hc0 : cc = 0
  · subst hc0
    have HF := Lib.hid (HCV.out rfl)
    go_wp2_with fail
    refine (err_none r a2 s w4 HR4.out).mono ?_
    rintro e w5 ⟨rfl, rfl⟩
    go_wp2_with (first | (refine wpList_load_row rfl 32 _ rfl w2.heap.size rfl 32 #[.int .u32 (v 0), .int .u32 (v 1), .int .u32 (v 2), .int .u32 (v 3), .int .u32 (v 4), .int .u32 (v 5), .int .u32 (v 6), .int .u32 (v 7), .slice al n cap] (0, 0) _ HX4.out Tryz.underlying32 rfl (by kernel_rfl) ?_) | (refine wpList_store_row rfl 32 _ _ rfl w.heap.size #[.int .u32 (v 0), .int .u32 (v 1), .int .u32 (v 2), .int .u32 (v 3), .int .u32 (v 4), .int .u32 (v 5), .int .u32 (v 6), .int .u32 (v 7), .slice al n cap] rfl rfl 32 _ HZ4.out (by kernel_rfl) rfl (cut_one _ _ _ _) ?_))
    have hR := setRow_heap _ _ _ #[.int .u32 (v 0), .int .u32 (v 1), .int .u32 (v 2), .int .u32 (v 3), .int .u32 (v 4), .int .u32 (v 5), .int .u32 (v 6), .int .u32 (v 7), .slice al n cap] _ _ HZ4.out
    obtain ⟨r0, r1, r2, r3, r4, r5, r6, r7, r8⟩ := cut_cells hR
    refine bodyPost_ret (v := .agg #[.int .u32 (v 0), .int .u32 (v 1), .int .u32 (v 2), .int .u32 (v 3), .int .u32 (v 4), .int .u32 (v 5), .int .u32 (v 6), .int .u32 (v 7), .slice al n cap]) ?_ rfl ⟨al, cap, by rw [HF.out.1, HF.out.2, HNN.out], by rw [HF.out.2, HNN.out]; exact ids_rowC HI4.out HZ4.out _, hF2, ?_, HO4.out.row (Nat.le_refl _) _⟩
    · simp [results, Tryz.results11, go_sem, r0, r1, r2, r3, r4, r5, r6, r7, r8]
    · rw [HCA.out, HXC.out]; exact (setRow_other _ _ _ _ (by omega)).trans HR4.out
  · have HF := Lib.hid (HCN.out hc0)
    go_wp2_with fail
    refine (err_some r a2 s cc w4 HR4.out hc0).mono ?_
    rintro e w5 ⟨rfl, _, b5⟩
    have HZ5 := Lib.hid (HZ4.out.below b5)
    have HR5 := Lib.hid (Blk.below HR4.out b5)
    have HO5 := Lib.hid (HO4.out.trans (only_of b5))
    clear b5
    go_wp2_with (refine wpList_store_row rfl 32 _ _ rfl w.heap.size #[.int .u32 0, .int .u32 0, .int .u32 0, .int .u32 0, .int .u32 0, .int .u32 0, .int .u32 0, .int .u32 0, .slice none 0 0] rfl rfl 32 _ HZ5.out (by kernel_rfl) rfl (by kernel_rfl) ?_)
    have hR := setRow_heap _ _ _ #[.int .u32 0, .int .u32 0, .int .u32 0, .int .u32 0, .int .u32 0, .int .u32 0, .int .u32 0, .int .u32 0, .slice none 0 0] _ _ HZ5.out
    obtain ⟨r0, r1, r2, r3, r4, r5, r6, r7, r8⟩ := cut_cells (v := zV) (al := none) (len := 0) (cap := 0) hR
    refine bodyPost_ret (v := .agg #[.int .u32 0, .int .u32 0, .int .u32 0, .int .u32 0, .int .u32 0, .int .u32 0, .int .u32 0, .int .u32 0, .slice none 0 0]) ?_ rfl ⟨none, 0, by rw [HF.out.1, HF.out.2]; rfl, by rw [HF.out.2]; exact Ids.nil _, .inl rfl, ?_, HO5.out.row (Nat.le_refl _) _⟩
    · simp [results, Tryz.results11, go_sem, r0, r1, r2, r3, r4, r5, r6, r7, r8, zV]
    · rw [HCA.out, HXC.out]; exact (setRow_other _ _ _ _ (by omega)).trans HR5.out
end Go.Proofs.YthbdjgebpjffgaaGreatDoor
