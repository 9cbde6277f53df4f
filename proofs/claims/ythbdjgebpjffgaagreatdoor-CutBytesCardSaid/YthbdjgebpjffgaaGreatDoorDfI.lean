/-
  The document's own Write and Read of layer 7.
  Conditions: Read's text has at most 2^20 bytes.
-/
import Derived.Test.YthbdjgebpjffgaaGreatDoorDotY
import Derived.Test.YthbdjgebpjffgaaGreatDoorIdH
set_option linter.unusedVariables false
set_option linter.unusedSimpArgs false
namespace Go.Proofs.YthbdjgebpjffgaaGreatDoor
open Go.RowKit

theorem app_l (a b : ByteArray) : (a ++ b).data.toList = a.data.toList ++ b.data.toList := by simp [ByteArray.data_append]
theorem size_l (a : ByteArray) : a.size = a.data.toList.length := by rw [Array.length_toList]; rfl
theorem bytes_eq {a : ByteArray} {l : List UInt8} (h : a.data.toList = l) : a = ⟨l.toArray⟩ := by
  subst h
  cases a with
  | mk d => simp

set_option maxRecDepth 100000 in
set_option maxHeartbeats 2000000 in
theorem rWrite_any (al : Option Addr) (len cap : Nat) (L : List (Int × Int)) (w : World) (hL : Ids w al len cap L) :
    Calls Tryz.prog 20 #[.slice al len cap] w fun e w' => e = .returned (.tuple #[.string (wrS L), .int .i64 (chkS L)]) ∧ Below w.heap.size w w' := by
  have HL := Lib.hid hL
  by_cases hc : chkS L = 0
  · have HT := Lib.hid hc
    have HW : Hid (wrS L = ⟨(setL L).toArray⟩) := Lib.hid (by unfold wrS; rw [if_pos hc])
    have HVL := Lib.hid (chkS_zero hc).2.1
    have hlen : len ≤ 64 := by
      have := (chkS_zero hc).1
      have := hL.ln
      omega
    have hcap := hL.bd
    have hfit := hL.fit
    have HLL := Lib.hid hL.ln
    have wl : IntKind.u64.wrap (len : Int) = len := by rw [IntKind.wrap_u64]; omega
    clear hL hc
    go_enter Tryz.func20, Tryz.ntmps20
    go_wp2_with fail
    refine (rdCheck_any al len cap L _ HL.out).mono ?_
    rw [HT.out]
    rintro e w1 ⟨rfl, b1⟩
    have HB1 := Lib.hid b1; clear b1
    go_wp2_with fail
    refine (rnum_any len _ (by omega)).mono ?_
    rintro e w2 ⟨rfl, b2⟩
    have HB2 := Lib.hid (below_then HB1.out b2); clear b2
    clear wl
    go_wp2
    go_loopw [5, 6] (fun s5 s6 wr => ∃ (k : Nat) (S : ByteArray), s6 = .int .i64 k ∧ s5 = .string S ∧ k ≤ len ∧ S.data.toList = numL len ++ idsL (L.take k) ∧ Below w.heap.size w wr) (fun _ s6 _ => len - (intOf s6).toNat)
    case atStart => exact ⟨0, numS len, rfl, rfl, by omega, by simp [idsL, numS], HB2.out⟩
    case round =>
      obtain ⟨k, S, rfl, rfl, hk, hS, hb⟩ := hrel
      have HB := Lib.hid hb; clear hb
      have HS := Lib.hid hS; clear hS
      by_cases hkl : k < len
      · obtain ⟨b, off, o, q, rfl, hx, i0, i1⟩ := (HL.out.below HB.out).nth k hkl
        have hts := take_snoc hx
        have hok := valS_at HVL.out hx
        have hbl : S.size ≤ 2000 := by
          have h1 := numL_le (n := len) (by omega)
          have h2 := idsL_len (valS_take HVL.out k)
          rw [List.length_take] at h2
          rw [size_l, HS.out, List.length_append]; omega
        have his : (idS o q).size ≤ 20 := by have := idS_size o q; omega
        have e1 : ∀ W, (Op.stringOp .add S (idS o q)).run Tryz.prog W = .ok (.string (S ++ idS o q)) W := fun W => run_string_add_sum W _ _ (by omega)
        have HIL := Lib.hid (idS_list hok)
        have HTS := Lib.hid hts
        clear hx hts hok hbl his
        go_wp2_with fail
        refine (ridWrite_any o q _).mono ?_
        rintro e w4 ⟨rfl, b4⟩
        have HB4 := Lib.hid (below_then HB.out b4); clear b4
        go_wp2
        go_roundw
        case rel => exact ⟨k + 1, S ++ idS o q, by go_num, rfl, by omega, by rw [app_l, HS.out, HIL.out, HTS.out, idsL_snoc, List.append_assoc], HB4.out⟩
        case measure => simp [intOf]; omega
      · have hkk : (len : Int) ≤ k := by omega
        have HF : Hid (S = wrS L) := Lib.hid (by
          have h := HS.out
          rw [List.take_of_length_le (by have := HLL.out; omega)] at h
          rw [HW.out]; unfold setL; rw [← HLL.out]; exact bytes_eq h)
        go_wp2
        go_ret2
        exact ⟨by rw [← HF.out, HT.out]; rfl, HB.out⟩
  · have HW : Hid (wrS L = ⟨#[]⟩) := Lib.hid (by unfold wrS; rw [if_neg hc])
    obtain ⟨c, hcc⟩ : ∃ c, chkS L = c := ⟨_, rfl⟩
    rw [hcc] at hc
    have hn : (c != 0) = true := by simpa using hc
    have HCC := Lib.hid hcc; clear hc hcc hL
    go_enter Tryz.func20, Tryz.ntmps20
    go_wp2_with fail
    refine (rdCheck_any al len cap L _ HL.out).mono ?_
    rw [HCC.out]
    rintro e w1 ⟨rfl, b1⟩
    have HB1 := Lib.hid b1; clear b1
    go_wp2
    go_ret2
    exact ⟨by rw [HW.out, HCC.out]; rfl, HB1.out⟩

theorem ids_onlyR {w w' : World} {r a f : Nat} {s : ByteArray} {c : Int} {al : Option Addr} {len cap : Nat} {L : List (Int × Int)} (h : Ids w al len cap L) (hr : RR w r s a f c) (hb : Only r w w') : Ids w' al len cap L :=
  ⟨h.ln, h.fit, h.bd, h.nn, fun k hk => by
    obtain ⟨b, off, o, q, h1, h2, h3, h4⟩ := h.nth k hk
    have hne : b ≠ r := by
      intro e
      subst e
      rw [Blk.cell hr] at h4
      generalize off + k * 2 + 1 = j at h4
      match j, h4 with
      | 0, h4 => simp at h4
      | 1, h4 => simp at h4
      | 2, h4 => simp at h4
      | 3, h4 => simp at h4
      | j + 4, h4 => simp at h4
    have e1 := hb.block b (cellLt (p := ⟨b, off + k * 2, none⟩) h3) hne
    exact ⟨b, off, o, q, h1, h2, (World.cell?_of_block (a := ⟨b, off + k * 2, none⟩) e1).trans h3, (World.cell?_of_block (a := ⟨b, off + k * 2 + 1, none⟩) e1).trans h4⟩⟩

set_option maxRecDepth 100000 in
set_option maxHeartbeats 2000000 in
theorem rRead_any (r a : Nat) (s : ByteArray) (c : Int) (w : World) (h : RR w r s a (fA a c) c) (ha : a ≤ s.size) (hs : s.size ≤ 1048576) :
    Calls Tryz.prog 27 #[.pointer (some ⟨r, 0, none⟩)] w fun e w' => ∃ al cap, e = .returned (.slice al (dL s a c).length cap) ∧ Ids w' al (dL s a c).length cap (dL s a c) ∧ RR w' r s (dA s a c) (fA (dA s a c) (dC s a c)) (dC s a c) ∧ Only r w w' := by
  obtain ⟨ti, hi, hz0, hz1, hz2⟩ := info_parts Tryz.infoId
  have hlt := Blk.lt h
  have HN : Hid (iV' s a 64 c = dN s a c) := Lib.hid rfl
  have HB : Hid (iA' s a 64 c = dB s a c) := Lib.hid rfl
  have HE : Hid (iC' s a 64 c = dE s a c) := Lib.hid rfl
  have hnle := dN_le s a c
  have hble := dB_le (c := c) ha
  have HR := Lib.hid h; clear h
  go_enter Tryz.func27, Tryz.ntmps27
  go_wp2_with fail
  refine (rInt_val r a s 64 c _ _ _ _ HN.out HB.out HE.out HR.out ha hs (by omega)).mono ?_
  rintro e w1 ⟨rfl, hr1, ho1⟩
  have HR1 := Lib.hid hr1
  have HO1 := Lib.hid ho1
  clear hr1 ho1
  have HL0 : Hid (dL0 s a c = rLs s (dB s a c) (dE s a c) (dN s a c)) := Lib.hid rfl
  have HDA : Hid (dA s a c = (rst s (dB s a c) (dE s a c) (dN s a c)).1) := Lib.hid rfl
  have HDC : Hid (dC s a c = failC (rst s (dB s a c) (dE s a c) (dN s a c)).2 (chkS (dL0 s a c))) := Lib.hid rfl
  generalize dN s a c = n at hnle HN HL0 HDA HDC ⊢
  generalize dB s a c = a1 at hble HB HL0 HDA HDC HR1 ⊢
  generalize dE s a c = c1 at HE HL0 HDA HDC HR1 ⊢
  go_wp2
  go_loopw [3, 5] (fun v s6 wr => ∃ k : Nat, s6 = .int .i64 k ∧ k ≤ n ∧ wr.ownsRow w.heap.size 83 2 v k (idCs (rLs s a1 c1 k)) ∧ RR wr r s (rst s a1 c1 k).1 (fA (rst s a1 c1 k).1 (rst s a1 c1 k).2) (rst s a1 c1 k).2 ∧ Only r w wr) (fun _ s6 _ => n - (intOf s6).toNat)
  case atStart => exact ⟨0, rfl, by omega, World.ownsRow_nil _ _ _ _, HR1.out, HO1.out⟩
  case round =>
    obtain ⟨k, rfl, hk, hown, hrd, ho⟩ := hrel
    have HOW := Lib.hid hown
    have HRD := Lib.hid hrd; clear hrd
    have HON := Lib.hid ho; clear ho
    by_cases hkn : k < n
    · clear hown
      have hle := rst_le (c := c1) hble k
      have HNX : Hid (rLs s a1 c1 (k + 1) = rLs s a1 c1 k ++ [((jO s (rst s a1 c1 k).1 (rst s a1 c1 k).2 : Int), (jQ s (rst s a1 c1 k).1 (rst s a1 c1 k).2 : Int))]) := Lib.hid rfl
      have HST : Hid (rst s a1 c1 (k + 1) = (jA s (rst s a1 c1 k).1 (rst s a1 c1 k).2, jC s (rst s a1 c1 k).1 (rst s a1 c1 k).2)) := Lib.hid rfl
      generalize rst s a1 c1 k = st at HRD HNX HST hle
      go_wp2_with fail
      refine (ridRead_any r _ s _ _ HRD.out hle hs).mono ?_
      rintro e w2 ⟨rfl, hr2, ho2⟩
      have HR2 := Lib.hid hr2
      have HOW2 := Lib.hid (own_only HOW.out ho2 hlt)
      have HO2 := Lib.hid (HON.out.trans ho2)
      clear hr2 ho2
      generalize (jO s st.1 st.2 : Int) = o at HNX ⊢
      generalize (jQ s st.1 st.2 : Int) = q at HNX ⊢
      go_wp2_with (at_builtin; refine wpList_append_own _ rfl (.tmp 13) (.tmp 16) 25 rfl w.heap.size 83 ti (.agg #[.int .i64 0, .int .u32 0]) 2 16 Tryz.underlying25 hi hz0 hz1 hz2 rfl (by decide) _ _ _ rfl (HOW2.out.alloc _) ⟨w2.heap.size, 0, none⟩ 1 1 [.int .i64 o, .int .u32 q] rfl rfl ?c1 ?c2 ?c3 ?c4 ?c5 ?_)
      case c1 => exact newId_at _ _ _ _ rfl
      case c2 => intro u hu; simp at hu; rcases hu with rfl | rfl <;> rfl
      case c3 => unfold maxLen; omega
      case c4 => omega
      case c5 => have := HO2.out.size; simp; omega
      intro v' w3 hown' hgrow hn'
      have HR3 : Hid (RR w3 r s (jA s st.1 st.2) (fA (jA s st.1 st.2) (jC s st.1 st.2)) (jC s st.1 st.2)) := Lib.hid ((hgrow.block r (by have := Blk.lt HR2.out; simp; omega) (fun e => by have := own_base HOW2.out r e.symm; omega)).trans (Blk.alloc HR2.out _))
      have HO3 : Hid (Only r w w3) := Lib.hid ((HO2.out.alloc _).grown hgrow (fun k hk => own_base HOW2.out k hk))
      have HOW3 := Lib.hid hown'
      clear hown' hgrow hn'
      go_wp2
      go_roundw
      case rel => exact ⟨k + 1, by go_num, by omega, by rw [HNX.out, idCs_app]; exact HOW3.out, by rw [HST.out]; exact HR3.out, HO3.out⟩
      case measure => simp [intOf]; omega
    · have hkk : (n : Int) ≤ k := by omega
      obtain rfl : k = n := by omega
      rw [← HL0.out] at hown
      obtain ⟨hl4, al4, cap4, rfl, hI4, hF4⟩ := own_ids hown
      have HI4 := Lib.hid hI4; clear hI4 hF4 hown HOW
      have HD1 : Hid (dC s a c = 0 → dL s a c = dL0 s a c) := Lib.hid fun e => by unfold dL; rw [if_pos e]
      have HD2 : Hid (¬ dC s a c = 0 → dL s a c = []) := Lib.hid fun e => by unfold dL; rw [if_neg e]
      clear HL0
      generalize dL0 s a c = L at HI4 hl4 HDC HD1 ⊢
      clear hl4
      generalize rst s a1 c1 k = st at HRD HDA HDC
      obtain ⟨a', c'⟩ := st
      simp only [] at HDA HDC
      obtain ⟨ck, hck⟩ : ∃ ck, chkS L = ck := ⟨_, rfl⟩
      have HCK := Lib.hid hck
      rw [hck] at HDC
      clear hck
      obtain ⟨dc, hdc0⟩ : ∃ dc, dC s a c = dc := ⟨_, rfl⟩
      obtain ⟨DL, hdl0⟩ : ∃ DL, dL s a c = DL := ⟨_, rfl⟩
      rw [hdc0] at HDC HD1 HD2
      rw [hdl0] at HD1 HD2
      have HDLe := Lib.hid hdl0
      have HDCe := Lib.hid hdc0
      clear hdc0 hdl0
      have g3 : wr.cell? ⟨r, 3, none⟩ = some (.int .i64 c') := HRD.out.c3
      generalize hm : L.length = m at HI4 ⊢
      have HMM := Lib.hid hm; clear hm
      by_cases hc' : c' = 0
      · subst hc'
        have hdc : dc = ck := by rw [HDC.out]; rfl
        subst hdc
        clear HDC
        go_wp2_with fail
        refine (rdCheck_any al4 m cap4 L wr HI4.out).mono ?_
        rw [HCK.out]
        rintro e w5 ⟨rfl, b5⟩
        have HI5 := Lib.hid (HI4.out.below b5)
        have HR5 := Lib.hid (Blk.below HRD.out b5)
        have HO5 := Lib.hid (HON.out.trans (only_of b5)); clear b5 g3
        go_wp2_with fail
        refine (rfail_any r _ s _ dc _ HR5.out).mono ?_
        rintro e w6 ⟨rfl, hr6, ho6⟩
        rw [show failC 0 dc = dc from rfl] at hr6
        have HI6 := Lib.hid (ids_onlyR HI5.out HR5.out ho6)
        have g6 : w6.cell? ⟨r, 3, none⟩ = some (.int .i64 dc) := hr6.c3
        have HR6 := Lib.hid hr6
        have HO6 := Lib.hid (HO5.out.trans ho6); clear hr6 ho6
        by_cases hdz : dc = 0
        · have HRR := Lib.hid (HD1.out hdz)
          have hnz : (dc != 0) = false := by simpa using hdz
          clear hdz
          go_wp2
          go_ret
          exact ⟨al4, cap4, by rw [HDLe.out, HRR.out, HMM.out]; rfl, by rw [HDLe.out, HRR.out, HMM.out]; exact HI6.out, by rw [HDA.out, HDCe.out]; exact HR6.out, HO6.out⟩
        · have HRR := Lib.hid (HD2.out hdz)
          have hnz : (dc != 0) = true := by simpa using hdz
          clear hdz
          go_wp2
          go_ret
          exact ⟨none, 0, by rw [HDLe.out, HRR.out]; rfl, by rw [HDLe.out, HRR.out]; exact Ids.nil _, by rw [HDA.out, HDCe.out]; exact HR6.out, HO6.out⟩
      · have hdc : dc = c' := by rw [HDC.out]; unfold failC; rw [if_neg hc']
        subst hdc
        have HRR := Lib.hid (HD2.out hc')
        have hez : (dc == 0) = false := by simpa using hc'
        have hnz : (dc != 0) = true := by simpa using hc'
        clear hc' HDC
        go_wp2
        go_ret
        exact ⟨none, 0, by rw [HDLe.out, HRR.out]; rfl, by rw [HDLe.out, HRR.out]; exact Ids.nil _, by rw [HDA.out, HDCe.out]; exact HRD.out, HON.out⟩
end Go.Proofs.YthbdjgebpjffgaaGreatDoor
