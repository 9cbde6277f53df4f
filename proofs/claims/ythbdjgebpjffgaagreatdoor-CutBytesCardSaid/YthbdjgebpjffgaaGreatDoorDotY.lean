/-
  What Read of package dots answers at whatever bytes.
  Conditions: the text has at most 2^20 bytes.
-/
import Derived.Test.YthbdjgebpjffgaaGreatDoorDotJ
import Derived.Test.YthbdjgebpjffgaaGreatDoorDotX
import Derived.Test.YthbdjgebpjffgaaGreatDoorIdH
set_option linter.unusedVariables false
set_option linter.unusedSimpArgs false
namespace Go.Proofs.YthbdjgebpjffgaaGreatDoor
open Go.RowKit

/-- Where the reader stands, and with what error, behind k names. -/
def rst (s : ByteArray) (a : Nat) (c : Int) : Nat → Nat × Int
  | 0 => (a, c)
  | k + 1 => (jA s (rst s a c k).1 (rst s a c k).2, jC s (rst s a c k).1 (rst s a c k).2)
/-- The first k names. -/
def rLs (s : ByteArray) (a : Nat) (c : Int) : Nat → List (Int × Int)
  | 0 => []
  | k + 1 => rLs s a c k ++ [((jO s (rst s a c k).1 (rst s a c k).2 : Int), (jQ s (rst s a c k).1 (rst s a c k).2 : Int))]
theorem rLs_len (s : ByteArray) (a : Nat) (c : Int) : ∀ k, (rLs s a c k).length = k
  | 0 => rfl
  | k + 1 => by rw [rLs, List.length_append, rLs_len s a c k]; rfl
theorem rst_le {s : ByteArray} {a : Nat} {c : Int} (ha : a ≤ s.size) : ∀ k, (rst s a c k).1 ≤ s.size
  | 0 => ha
  | k + 1 => jA_le (rst_le ha k)
/-- How many names are told, where they begin, and whether that was told well. -/
def dN (s : ByteArray) (a : Nat) (c : Int) : Nat := iV' s a 64 c
def dB (s : ByteArray) (a : Nat) (c : Int) : Nat := iA' s a 64 c
def dE (s : ByteArray) (a : Nat) (c : Int) : Int := iC' s a 64 c
def dA (s : ByteArray) (a : Nat) (c : Int) : Nat := (rst s (dB s a c) (dE s a c) (dN s a c)).1
def dL0 (s : ByteArray) (a : Nat) (c : Int) : List (Int × Int) := rLs s (dB s a c) (dE s a c) (dN s a c)
def dC (s : ByteArray) (a : Nat) (c : Int) : Int := failC (rst s (dB s a c) (dE s a c) (dN s a c)).2 (chkS (dL0 s a c))
def dL (s : ByteArray) (a : Nat) (c : Int) : List (Int × Int) := if dC s a c = 0 then dL0 s a c else []
theorem dN_le (s : ByteArray) (a : Nat) (c : Int) : (dN s a c : Int) ≤ 64 := iV'_le (by omega)
theorem dB_le {s : ByteArray} {a : Nat} {c : Int} (ha : a ≤ s.size) : dB s a c ≤ s.size := iA'_in ha
theorem dA_le {s : ByteArray} {a : Nat} {c : Int} (ha : a ≤ s.size) : dA s a c ≤ s.size := rst_le (dB_le ha) _

theorem Only.grown {r : Nat} {a b b' : World} {row : Option Nat} (h : Only r a b) (hg : b.grownBy b' row) (hr : ∀ k, row = some k → a.heap.size ≤ k) : Only r a b' :=
  ⟨hg.os.trans h.os, hg.tape.trans h.tape, hg.output.trans h.output, Nat.le_trans h.size hg.size, fun k hk hkr => (hg.block k (Nat.lt_of_lt_of_le hk h.size) (fun e => by have := hr k e.symm; omega)).trans (h.block k hk hkr)⟩
theorem own_only {w w' : World} {B e size n r : Nat} {v : Value} {xs : List Value} (h : w.ownsRow B e size v n xs) (hb : Only r w w') (hr : r < B) : w'.ownsRow B e size v n xs := by
  refine ⟨h.1, ?_⟩
  rcases h.2 with h2 | ⟨g, cap, cur, h1, h2, h3, h4⟩
  · exact .inl h2
  · exact .inr ⟨g, cap, cur, h1, h2, (hb.block g (Blk.lt h3) (by omega)).trans h3, h4⟩
theorem ids_only {w w' : World} {r a : Nat} {s : ByteArray} {c : Int} {al : Option Addr} {len cap : Nat} {L : List (Int × Int)} (h : Ids w al len cap L) (hr : Rdr w r s a c) (hb : Only r w w') : Ids w' al len cap L :=
  ⟨h.ln, h.fit, h.bd, h.nn, fun k hk => by
    obtain ⟨b, off, o, q, h1, h2, h3, h4⟩ := h.nth k hk
    have hne : b ≠ r := by
      intro e
      subst e
      rw [Blk.cell hr] at h4
      generalize off + k * 2 + 1 = j at h4
      match j, h4 with
      | 0, h4 => simp at h4
      | 1, h4 => simp at h4
      | 2, h4 => simp at h4
      | j + 3, h4 => simp at h4
    have e1 := hb.block b (cellLt (p := ⟨b, off + k * 2, none⟩) h3) hne
    exact ⟨b, off, o, q, h1, h2, (World.cell?_of_block (a := ⟨b, off + k * 2, none⟩) e1).trans h3, (World.cell?_of_block (a := ⟨b, off + k * 2 + 1, none⟩) e1).trans h4⟩⟩

set_option maxRecDepth 100000 in
set_option maxHeartbeats 2000000 in
theorem dRead_any (r a : Nat) (s : ByteArray) (c : Int) (w : World) (h : Rdr w r s a c) (ha : a ≤ s.size) (hs : s.size ≤ 1048576) :
    Calls Tryz.prog 24 #[.pointer (some ⟨r, 0, none⟩)] w fun e w' => ∃ al cap, e = .returned (.slice al (dL s a c).length cap) ∧ Ids w' al (dL s a c).length cap (dL s a c) ∧ Rdr w' r s (dA s a c) (dC s a c) ∧ Only r w w' := by
  obtain ⟨ti, hi, hz0, hz1, hz2⟩ := info_parts Tryz.infoId
  have hlt := Blk.lt h
  have HN : Hid (iV' s a 64 c = dN s a c) := Lib.hid rfl
  have HB : Hid (iA' s a 64 c = dB s a c) := Lib.hid rfl
  have HE : Hid (iC' s a 64 c = dE s a c) := Lib.hid rfl
  have hnle := dN_le s a c
  have hble := dB_le (c := c) ha
  have HR := Lib.hid h; clear h
  go_enter Tryz.func24, Tryz.ntmps24
  go_wp2_with fail
  refine (rdInt_val r a s 64 c _ _ _ _ HN.out HB.out HE.out HR.out ha hs (by omega)).mono ?_
  rintro e w1 ⟨rfl, hr1, ho1⟩
  have HR1 := Lib.hid hr1
  have HO1 := Lib.hid ho1
  clear hr1 ho1
  have HL0 : Hid (dL0 s a c = rLs s (dB s a c) (dE s a c) (dN s a c)) := Lib.hid rfl
  have HDA : Hid (dA s a c = (rst s (dB s a c) (dE s a c) (dN s a c)).1) := Lib.hid rfl
  have HDC : Hid (dC s a c = failC (rst s (dB s a c) (dE s a c) (dN s a c)).2 (chkS (dL0 s a c))) := Lib.hid rfl
  generalize dN s a c = n at hnle HN HL0 HDA HDC ⊢
  generalize dB s a c = a1 at hble HB HL0 HDA HDC HR1 ⊢
  generalize dE s a c = c1 at HE HL0 HDA HDC HR1 ⊢
  go_wp2
  go_loopw [3, 6] (fun v s6 wr => ∃ k : Nat, s6 = .int .i64 k ∧ k ≤ n ∧ wr.ownsRow w.heap.size 83 2 v k (idCs (rLs s a1 c1 k)) ∧ Rdr wr r s (rst s a1 c1 k).1 (rst s a1 c1 k).2 ∧ Only r w wr) (fun _ s6 _ => n - (intOf s6).toNat)
  case atStart => exact ⟨0, rfl, by omega, World.ownsRow_nil _ _ _ _, HR1.out, HO1.out⟩
  case round =>
    obtain ⟨k, rfl, hk, hown, hrd, ho⟩ := hrel
    have HOW := Lib.hid hown
    have HRD := Lib.hid hrd; clear hrd
    have HON := Lib.hid ho; clear ho
    by_cases hkn : k < n
    · clear hown
      have hle := rst_le (c := c1) hble k
      have HNX : Hid (rLs s a1 c1 (k + 1) = rLs s a1 c1 k ++ [((jO s (rst s a1 c1 k).1 (rst s a1 c1 k).2 : Int), (jQ s (rst s a1 c1 k).1 (rst s a1 c1 k).2 : Int))]) := Lib.hid rfl
      have HST : Hid (rst s a1 c1 (k + 1) = (jA s (rst s a1 c1 k).1 (rst s a1 c1 k).2, jC s (rst s a1 c1 k).1 (rst s a1 c1 k).2)) := Lib.hid rfl
      generalize rst s a1 c1 k = st at HRD HNX HST hle
      go_wp2_with fail
      refine (idRead_any r _ s _ _ HRD.out hle hs).mono ?_
      rintro e w2 ⟨rfl, hr2, ho2⟩
      have HR2 := Lib.hid hr2
      have HOW2 := Lib.hid (own_only HOW.out ho2 hlt)
      have HO2 := Lib.hid (HON.out.trans ho2)
      clear hr2 ho2
      generalize (jO s st.1 st.2 : Int) = o at HNX ⊢
      generalize (jQ s st.1 st.2 : Int) = q at HNX ⊢
      go_wp2_with (at_builtin; refine wpList_append_own _ rfl (.tmp 8) (.tmp 11) 25 rfl w.heap.size 83 ti (.agg #[.int .i64 0, .int .u32 0]) 2 16 Tryz.underlying25 hi hz0 hz1 hz2 rfl (by decide) _ _ _ rfl (HOW2.out.alloc _) ⟨w2.heap.size, 0, none⟩ 1 1 [.int .i64 o, .int .u32 q] rfl rfl ?c1 ?c2 ?c3 ?c4 ?c5 ?_)
      case c1 => exact newId_at _ _ _ _ rfl
      case c2 => intro u hu; simp at hu; rcases hu with rfl | rfl <;> rfl
      case c3 => unfold maxLen; omega
      case c4 => omega
      case c5 => have := HO2.out.size; simp; omega
      intro v' w3 hown' hgrow hn'
      have HR3 : Hid (Rdr w3 r s (jA s st.1 st.2) (jC s st.1 st.2)) := Lib.hid ((hgrow.block r (by have := Blk.lt HR2.out; simp; omega) (fun e => by have := own_base HOW2.out r e.symm; omega)).trans (Blk.alloc HR2.out _))
      have HO3 : Hid (Only r w w3) := Lib.hid ((HO2.out.alloc _).grown hgrow (fun k hk => own_base HOW2.out k hk))
      have HOW3 := Lib.hid hown'
      clear hown' hgrow hn'
      go_wp2
      go_roundw
      case rel => exact ⟨k + 1, by go_num, by omega, by rw [HNX.out, idCs_app]; exact HOW3.out, by rw [HST.out]; exact HR3.out, HO3.out⟩
      case measure => simp [intOf]; omega
    · have hkk : (n : Int) ≤ k := by omega
      obtain rfl : k = n := by omega
      rw [← HL0.out] at hown
      obtain ⟨hl4, al4, cap4, rfl, hI4, hF4⟩ := own_ids hown
      have hll : (dL0 s a c).length = k := by rw [HL0.out]; exact rLs_len ..
      have HI4 := Lib.hid hI4; clear hI4 hF4 hown
      have HD1 : Hid (dC s a c = 0 → dL s a c = dL0 s a c) := Lib.hid fun e => by unfold dL; rw [if_pos e]
      have HD2 : Hid (¬ dC s a c = 0 → dL s a c = []) := Lib.hid fun e => by unfold dL; rw [if_neg e]
      generalize dL0 s a c = L at hll HI4 hl4 HDC HD1
      have hdle : dA s a c ≤ s.size := by rw [HDA.out]; exact rst_le hble _
      obtain ⟨da, hda⟩ : ∃ da, dA s a c = da := ⟨_, rfl⟩
      obtain ⟨dc, hdc0⟩ : ∃ dc, dC s a c = dc := ⟨_, rfl⟩
      rw [hda] at HDA hdle
      rw [hdc0] at HDC HD1 HD2
      have HDAe := Lib.hid hda
      have HDCe := Lib.hid hdc0
      clear hda hdc0
      obtain ⟨ck, hck⟩ : ∃ ck, chkS L = ck := ⟨_, rfl⟩
      have HCK := Lib.hid hck
      rw [hck] at HDC
      clear hck hll hl4
      generalize hm : L.length = m at HI4 ⊢
      have HMM := Lib.hid hm; clear hm
      go_wp2_with fail
      refine (dCheck_any al4 m cap4 L wr HI4.out).mono ?_
      rw [HCK.out]
      rintro e w5 ⟨rfl, b5⟩
      have HI5 := Lib.hid (HI4.out.below b5)
      have HR5 := Lib.hid (Blk.below HRD.out b5)
      have HO5 := Lib.hid (HON.out.trans (only_of b5)); clear b5
      go_wp2_with fail
      refine (fail_any r _ s _ ck _ HR5.out).mono ?_
      rintro e w6 ⟨rfl, hr6, ho6⟩
      rw [← HDC.out, ← HDA.out] at hr6
      have HI6 := Lib.hid (ids_only HI5.out HR5.out ho6)
      have HR6 := Lib.hid hr6
      have HO6 := Lib.hid (HO5.out.trans ho6); clear hr6 ho6
      by_cases hdc : dc = 0
      · have HRR := Lib.hid (HD1.out hdc)
        have hr6 := HR6.out
        rw [hdc] at hr6
        have HR6' : Hid (Rdr w6 r s da 0) := Lib.hid hr6; clear hr6
        have HDZ := Lib.hid hdc; clear hdc
        go_wp2_with fail
        refine (err_none r da s w6 HR6'.out).mono ?_
        rintro e w7 ⟨rfl, rfl⟩
        go_wp2
        go_ret
        exact ⟨al4, cap4, by rw [HRR.out, HMM.out]; rfl, by rw [HRR.out, HMM.out]; exact HI6.out, by rw [HDAe.out, HDCe.out, HDZ.out]; exact HR6'.out, HO6.out⟩
      · have HRR := Lib.hid (HD2.out hdc)
        go_wp2_with fail
        refine (err_some r da s dc w6 HR6.out hdc).mono ?_
        rintro e w7 ⟨rfl, hb7, b7⟩
        have HR7 := Lib.hid (Blk.below HR6.out b7)
        have HO7 := Lib.hid (HO6.out.trans (only_of b7)); clear hb7 b7
        go_wp2
        go_ret
        exact ⟨none, 0, by rw [HRR.out]; rfl, by rw [HRR.out]; exact Ids.nil _, by rw [HDAe.out, HDCe.out]; exact HR7.out, HO7.out⟩
end Go.Proofs.YthbdjgebpjffgaaGreatDoor
