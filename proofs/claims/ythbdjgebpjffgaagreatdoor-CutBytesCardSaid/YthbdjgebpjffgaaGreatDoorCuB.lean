/-
  Package dots' Beyond and Fold, with what is known of the address of the slice that they give.
  Conditions: none.
-/
import Derived.Test.YthbdjgebpjffgaaGreatDoorDotE
import Derived.Test.YthbdjgebpjffgaaGreatDoorDotV
import Derived.Shelf.GgSortFunc.RowK
set_option linter.unusedVariables false
set_option linter.unusedSimpArgs false
namespace Go.Proofs.YthbdjgebpjffgaaGreatDoor
open Go.RowKit Go.Shelf Go.Lib Go.Sort

set_option maxRecDepth 100000 in
set_option maxHeartbeats 2000000 in
theorem beyondF_any (al : Option Addr) (len cap : Nat) (L : List (Int × Int)) (v : Nat → Int) (w : World) (hL : Ids w al len cap L) :
    Calls Tryz.prog 55 #[.slice al len cap, .agg #[.int .u32 (v 0), .int .u32 (v 1), .int .u32 (v 2), .int .u32 (v 3), .int .u32 (v 4), .int .u32 (v 5), .int .u32 (v 6), .int .u32 (v 7)]] w fun e w' => ∃ al2 cap2, e = .returned (.tuple #[.slice al2 (byR v L).length cap2, .int .i64 (chkS L)]) ∧ Ids w' al2 (byR v L).length cap2 (byR v L) ∧ Flat al2 ∧ Below w.heap.size w w' := by
  obtain ⟨ti, hi, hz0, hz1, hz2⟩ := info_parts Tryz.infoId
  have hb0 := (Below.refl w.heap.size w).alloc (Nat.le_refl _) (.cells #[.int .u32 (v 0), .int .u32 (v 1), .int .u32 (v 2), .int .u32 (v 3), .int .u32 (v 4), .int .u32 (v 5), .int .u32 (v 6), .int .u32 (v 7)] 24)
  have HL0 := Lib.hid hL
  have HL := Lib.hid (hL.below hb0)
  have HV0 := Lib.hid (Blk.new w #[.int .u32 (v 0), .int .u32 (v 1), .int .u32 (v 2), .int .u32 (v 3), .int .u32 (v 4), .int .u32 (v 5), .int .u32 (v 6), .int .u32 (v 7)] 24)
  have HB0 := Lib.hid hb0; clear hb0
  by_cases hc : chkS L = 0
  · have HT := Lib.hid hc
    have HUN : Hid (byR v L = byS v L) := Lib.hid (by unfold byR; rw [if_pos hc])
    have hlen : len ≤ 64 := by
      have := (chkS_zero hc).1
      have := hL.ln
      omega
    have hcap := hL.bd
    have hfit := hL.fit
    have HLL := Lib.hid hL.ln
    clear hL hc
    go_enter Tryz.func55, Tryz.ntmps55
    go_wp2_with fail
    refine (dCheck_any al len cap L _ HL.out).mono ?_
    rw [HT.out]
    rintro e w1 ⟨rfl, b1⟩
    have HV1 := Lib.hid (HV0.out.below b1)
    have HB1 := Lib.hid (below_then HB0.out b1); clear b1
    go_wp2
    go_loopw [7, 17] (fun vv s8 wr => ∃ k : Nat, s8 = .int .i64 k ∧ k ≤ len ∧ wr.ownsRow (w.heap.size + 1) 83 2 vv ((L.take k).filter fun x => !hasV v x.1 x.2).length (idCs ((L.take k).filter fun x => !hasV v x.1 x.2)) ∧ Blk wr w.heap.size #[.int .u32 (v 0), .int .u32 (v 1), .int .u32 (v 2), .int .u32 (v 3), .int .u32 (v 4), .int .u32 (v 5), .int .u32 (v 6), .int .u32 (v 7)] 24 ∧ Below w.heap.size w wr) (fun _ s8 _ => len - (intOf s8).toNat)
    case atStart => exact ⟨0, rfl, by omega, World.ownsRow_nil _ _ _ _, HV1.out, HB1.out⟩
    case round =>
      obtain ⟨k, rfl, hk, hown, hv, hb⟩ := hrel
      have HB := Lib.hid hb; clear hb
      obtain ⟨v0, v1, v2, v3, v4, v5, v6, v7⟩ : wr.cell? ⟨w.heap.size, 0, none⟩ = some (.int .u32 (v 0)) ∧ wr.cell? ⟨w.heap.size, 1, none⟩ = some (.int .u32 (v 1)) ∧ wr.cell? ⟨w.heap.size, 2, none⟩ = some (.int .u32 (v 2)) ∧ wr.cell? ⟨w.heap.size, 3, none⟩ = some (.int .u32 (v 3)) ∧ wr.cell? ⟨w.heap.size, 4, none⟩ = some (.int .u32 (v 4)) ∧ wr.cell? ⟨w.heap.size, 5, none⟩ = some (.int .u32 (v 5)) ∧ wr.cell? ⟨w.heap.size, 6, none⟩ = some (.int .u32 (v 6)) ∧ wr.cell? ⟨w.heap.size, 7, none⟩ = some (.int .u32 (v 7)) := ⟨vec_cell hv 0 (by omega), vec_cell hv 1 (by omega), vec_cell hv 2 (by omega), vec_cell hv 3 (by omega), vec_cell hv 4 (by omega), vec_cell hv 5 (by omega), vec_cell hv 6 (by omega), vec_cell hv 7 (by omega)⟩
      have HV := Lib.hid hv; clear hv
      by_cases hkl : k < len
      · obtain ⟨b, off, o, q, rfl, hx, i0, i1⟩ : IdN wr al L k := (HL0.out.below HB.out).nth k hkl
        have hY : BY wr w.heap.size v b (off + k * 2) o q wr := ⟨Below.refl _ _, HV.out, i0, i1⟩
        have htf := take_filter hx fun x => !hasV v x.1 x.2
        have hfl := filter_le L k fun x => !hasV v x.1 x.2
        clear hx
        generalize (L.take k).filter (fun x => !hasV v x.1 x.2) = F at hown htf hfl
        have HO := Lib.hid hown; clear hown
        cases hh : hasV v o q with
        | true =>
          simp only [hh, Bool.not_true, Bool.false_eq_true, if_false, List.append_nil] at htf
          have HTF := Lib.hid htf; clear htf
          have HH := Lib.hid hh; clear hh
          have HNB := Lib.hid (HB.out.alloc HB.out.size (.cells #[.int .i64 o, .int .u32 q] 83))
          have hbw := (Below.refl wr.heap.size wr).alloc (Nat.le_refl _) (.cells #[.int .i64 o, .int .u32 q] 83)
          have HBW := Lib.hid hbw; clear hbw
          have hwl : w.heap.size < wr.heap.size := HV.out.lt
          have hid := Blk.new wr #[.int .i64 o, .int .u32 q] 83
          have HID := Lib.hid hid; clear hid
          go_wp2_with fail
          refine (has_any v o q _).mono ?_
          rw [HH.out]
          rintro e w2 ⟨rfl, bb2⟩
          have b2 : Below wr.heap.size wr w2 := below_then HBW.out bb2
          have hid2 := HID.out.below bb2
          have k0 : w2.cell? ⟨wr.heap.size, 0, none⟩ = some (.int .i64 o) := by rw [Blk.cell hid2]; rfl
          have k1 : w2.cell? ⟨wr.heap.size, 1, none⟩ = some (.int .u32 q) := by rw [Blk.cell hid2]; rfl
          clear hid2 bb2
          have HO2 := Lib.hid (own_below HO.out b2)
          have HV2 := Lib.hid (HV.out.below b2)
          have HB2 := Lib.hid (HB.out.trans (b2.mono HB.out.size)); clear b2
          go_wp2
          go_roundw
          case rel => exact ⟨k + 1, by go_num, by omega, by rw [HTF.out]; exact HO2.out, HV2.out, HB2.out⟩
          case measure => simp [intOf]; omega
        | false =>
          simp only [hh, Bool.not_false, if_true] at htf
          have HTF := Lib.hid htf; clear htf
          have HH := Lib.hid hh; clear hh
          have HNB := Lib.hid (HB.out.alloc HB.out.size (.cells #[.int .i64 o, .int .u32 q] 83))
          have hbw := (Below.refl wr.heap.size wr).alloc (Nat.le_refl _) (.cells #[.int .i64 o, .int .u32 q] 83)
          have HBW := Lib.hid hbw; clear hbw
          have hwl : w.heap.size < wr.heap.size := HV.out.lt
          have hid := Blk.new wr #[.int .i64 o, .int .u32 q] 83
          have HID := Lib.hid hid; clear hid
          go_wp2_with fail
          refine (has_any v o q _).mono ?_
          rw [HH.out]
          rintro e w2 ⟨rfl, bb2⟩
          have b2 : Below wr.heap.size wr w2 := below_then HBW.out bb2
          have hid2 := HID.out.below bb2
          have k0 : w2.cell? ⟨wr.heap.size, 0, none⟩ = some (.int .i64 o) := by rw [Blk.cell hid2]; rfl
          have k1 : w2.cell? ⟨wr.heap.size, 1, none⟩ = some (.int .u32 q) := by rw [Blk.cell hid2]; rfl
          clear hid2 bb2
          have j0 := (b2.cell (p := ⟨b, off + k * 2, none⟩) (cellLt i0)).trans i0
          have j1 := (b2.cell (p := ⟨b, off + k * 2 + 1, none⟩) (cellLt i1)).trans i1
          have HO2 := Lib.hid (own_below HO.out b2)
          have HV2 := Lib.hid (HV.out.below b2)
          have HB2 := Lib.hid (HB.out.trans (b2.mono HB.out.size)); clear b2
          go_wp2_with (at_builtin; refine wpList_append_own _ rfl (.tmp 25) (.tmp 27) 25 rfl (w.heap.size + 1) 83 ti (.agg #[.int .i64 0, .int .u32 0]) 2 16 Tryz.underlying25 hi hz0 hz1 hz2 rfl (by decide) _ _ _ rfl (HO2.out.alloc _) ⟨w2.heap.size, 0, none⟩ 1 1 [.int .i64 o, .int .u32 q] rfl rfl ?c1 ?c2 ?c3 ?c4 ?c5 ?_)
          case c1 => exact newId_at _ _ _ _ rfl
          case c2 => intro u hu; simp at hu; rcases hu with rfl | rfl <;> rfl
          case c3 => unfold maxLen; omega
          case c4 => omega
          case c5 => have := HV2.out.lt; simp; omega
          intro v' w3 hown' hgrow hn'
          have HB3 : Hid (Below w.heap.size w w3) := Lib.hid ((HB2.out.alloc HB2.out.size _).grown hgrow (by have := HB2.out.size; simp; omega) (fun k hk => by have := own_base HO2.out k hk; omega))
          have HV3 : Hid (Blk w3 w.heap.size #[.int .u32 (v 0), .int .u32 (v 1), .int .u32 (v 2), .int .u32 (v 3), .int .u32 (v 4), .int .u32 (v 5), .int .u32 (v 6), .int .u32 (v 7)] 24) := Lib.hid ((hgrow.block w.heap.size (by have := HV2.out.lt; simp; omega) (fun e => by have := own_base HO2.out _ e.symm; omega)).trans (HV2.out.alloc _))
          have HO3 := Lib.hid hown'
          clear hown' hgrow hn'
          go_wp2
          go_roundw
          case rel => exact ⟨k + 1, by go_num, by omega, by rw [HTF.out, idCs_app, List.length_append]; exact HO3.out, HV3.out, HB3.out⟩
          case measure => simp [intOf]; omega
      · have hkk : (len : Int) ≤ k := by omega
        have e : (L.take k).filter (fun x => !hasV v x.1 x.2) = byR v L := by
          rw [HUN.out, byS, List.take_of_length_le (by have := HLL.out; omega)]
        rw [e] at hown
        obtain ⟨_, al4, cap4, rfl, hI4, hF4⟩ := own_ids hown
        have HI4 := Lib.hid hI4; have HF4 := Lib.hid hF4; clear hI4 hF4 hown e
        generalize hn : (byR v L).length = n at HI4 ⊢
        have HN := Lib.hid hn; clear hn
        go_wp2
        go_ret2
        exact ⟨al4, cap4, by rw [HN.out, HT.out]; rfl, by rw [HN.out]; exact HI4.out, HF4.out, HB.out⟩
  · have HUN : Hid (byR v L = []) := Lib.hid (by unfold byR; rw [if_neg hc])
    obtain ⟨c, hcc⟩ : ∃ c, chkS L = c := ⟨_, rfl⟩
    rw [hcc] at hc
    have hn : (c != 0) = true := by simpa using hc
    have HCC := Lib.hid hcc; clear hc hcc hL
    go_enter Tryz.func55, Tryz.ntmps55
    go_wp2_with fail
    refine (dCheck_any al len cap L _ HL.out).mono ?_
    rw [HCC.out]
    rintro e w1 ⟨rfl, b1⟩
    have HB1 := Lib.hid (below_then HB0.out b1); clear b1
    go_wp2
    go_ret2
    exact ⟨none, 0, by rw [HUN.out, HCC.out]; rfl, by rw [HUN.out]; exact Ids.nil _, .inl rfl, HB1.out⟩

set_option maxRecDepth 100000 in
set_option maxHeartbeats 4000000 in
theorem foldF_any (al : Option Addr) (len cap : Nat) (L : List (Int × Int)) (v : Nat → Int) (w : World) (hL : Ids w al len cap L) (hv : InB v) :
    Calls Tryz.prog 30 #[.agg #[.int .u32 (v 0), .int .u32 (v 1), .int .u32 (v 2), .int .u32 (v 3), .int .u32 (v 4), .int .u32 (v 5), .int .u32 (v 6), .int .u32 (v 7)], .slice al len cap] w fun e w' => ∃ al2 cap2, e = .returned (.tuple #[.agg #[.int .u32 (foV v L 0), .int .u32 (foV v L 1), .int .u32 (foV v L 2), .int .u32 (foV v L 3), .int .u32 (foV v L 4), .int .u32 (foV v L 5), .int .u32 (foV v L 6), .int .u32 (foV v L 7)], .slice al2 (foS v L).length cap2, .int .i64 (foC v L)]) ∧ Ids w' al2 (foS v L).length cap2 (foS v L) ∧ Flat al2 ∧ Below w.heap.size w w' := by
  have hb0 : Below w.heap.size w ((w.alloc (.cells #[.int .u32 (v 0), .int .u32 (v 1), .int .u32 (v 2), .int .u32 (v 3), .int .u32 (v 4), .int .u32 (v 5), .int .u32 (v 6), .int .u32 (v 7)] 24)).alloc (.cells #[.int .u32 0, .int .u32 0, .int .u32 0, .int .u32 0, .int .u32 0, .int .u32 0, .int .u32 0, .int .u32 0] 24)) := below_new ((Below.refl w.heap.size w).alloc (Nat.le_refl _) _) _
  have HL := Lib.hid hL
  have hbv : Blk ((w.alloc (.cells #[.int .u32 (v 0), .int .u32 (v 1), .int .u32 (v 2), .int .u32 (v 3), .int .u32 (v 4), .int .u32 (v 5), .int .u32 (v 6), .int .u32 (v 7)] 24)).alloc (.cells #[.int .u32 0, .int .u32 0, .int .u32 0, .int .u32 0, .int .u32 0, .int .u32 0, .int .u32 0, .int .u32 0] 24)) w.heap.size #[.int .u32 (v 0), .int .u32 (v 1), .int .u32 (v 2), .int .u32 (v 3), .int .u32 (v 4), .int .u32 (v 5), .int .u32 (v 6), .int .u32 (v 7)] 24 := (Blk.new w _ _).alloc _
  have hbz : Blk ((w.alloc (.cells #[.int .u32 (v 0), .int .u32 (v 1), .int .u32 (v 2), .int .u32 (v 3), .int .u32 (v 4), .int .u32 (v 5), .int .u32 (v 6), .int .u32 (v 7)] 24)).alloc (.cells #[.int .u32 0, .int .u32 0, .int .u32 0, .int .u32 0, .int .u32 0, .int .u32 0, .int .u32 0, .int .u32 0] 24)) (w.heap.size + 1) #[.int .u32 0, .int .u32 0, .int .u32 0, .int .u32 0, .int .u32 0, .int .u32 0, .int .u32 0, .int .u32 0] 24 := by
    have := Blk.new (w.alloc (.cells #[.int .u32 (v 0), .int .u32 (v 1), .int .u32 (v 2), .int .u32 (v 3), .int .u32 (v 4), .int .u32 (v 5), .int .u32 (v 6), .int .u32 (v 7)] 24)) #[.int .u32 0, .int .u32 0, .int .u32 0, .int .u32 0, .int .u32 0, .int .u32 0, .int .u32 0, .int .u32 0] 24
    simpa using this
  have HV0 := Lib.hid hbv
  have HZ0 := Lib.hid hbz
  have HB0 := Lib.hid hb0
  clear hbv hbz hb0
  by_cases hc : foC v L = 0
  · obtain ⟨c1, c2⟩ := fo_zero hc
    have HC1 := Lib.hid c1
    have HC2 := Lib.hid c2
    have HFV : Hid (foV v L = foldV v L) := Lib.hid (by unfold foV; rw [if_pos hc])
    have HFS : Hid (foS v L = byS (foldV v L) L) := Lib.hid (by unfold foS; rw [if_pos hc])
    have HC := Lib.hid hc
    have hlen : len ≤ 64 := by
      have := (chkS_zero c2).1
      have := hL.ln
      omega
    have hcap := hL.bd
    have hfit := hL.fit
    have HLL := Lib.hid hL.ln
    have HIN := Lib.hid hv
    clear hL hc c1 c2 hv
    go_enter Tryz.func30, Tryz.ntmps30
    go_wp2_with fail
    refine (vCheck_any v _).mono ?_
    rw [HC1.out]
    rintro e w1 ⟨rfl, b1⟩
    have HV1 := Lib.hid (HV0.out.below b1)
    have HZ1 := Lib.hid (HZ0.out.below b1)
    have HB1 := Lib.hid (below_then HB0.out b1); clear b1
    go_wp2_with fail
    refine (dCheck_any al len cap L _ (HL.out.below HB1.out)).mono ?_
    rw [HC2.out]
    rintro e w2 ⟨rfl, b2⟩
    have HV2 := Lib.hid ((HV1.out.below b2).alloc (.cells #[.int .i64 0, .int .i64 0] 29))
    have HZ2 := Lib.hid ((HZ1.out.below b2).alloc (.cells #[.int .i64 0, .int .i64 0] 29))
    have HB2 := Lib.hid (below_new (below_then HB1.out b2) (.cells #[.int .i64 0, .int .i64 0] 29)); clear b2
    go_wp2_with fail
    refine (orE_any w2.heap.size 0 0 _ (Blk.new _ _ _)).mono ?_
    rw [show orZ 0 0 = 0 from rfl]
    rintro e w3 ⟨rfl, rfl⟩
    go_wp2
    go_loopw [26] (fun s26 wr => ∃ k : Nat, s26 = .int .i64 k ∧ k ≤ len ∧ InB (foldV v (L.take k)) ∧ Blk wr w.heap.size #[.int .u32 (foldV v (L.take k) 0), .int .u32 (foldV v (L.take k) 1), .int .u32 (foldV v (L.take k) 2), .int .u32 (foldV v (L.take k) 3), .int .u32 (foldV v (L.take k) 4), .int .u32 (foldV v (L.take k) 5), .int .u32 (foldV v (L.take k) 6), .int .u32 (foldV v (L.take k) 7)] 24 ∧ Blk wr (w.heap.size + 1) #[.int .u32 0, .int .u32 0, .int .u32 0, .int .u32 0, .int .u32 0, .int .u32 0, .int .u32 0, .int .u32 0] 24 ∧ Below w.heap.size w wr) (fun s26 _ => len - (intOf s26).toNat)
    case atStart => exact ⟨0, rfl, by omega, HIN.out, HV2.out, HZ2.out, HB2.out⟩
    case round =>
      obtain ⟨k, rfl, hk, hin, hbv, hbz, hb⟩ := hrel
      have HB := Lib.hid hb; clear hb
      have HZ := Lib.hid hbz; clear hbz
      by_cases hkl : k < len
      · obtain ⟨b, off, o, q, rfl, hx, i0, i1⟩ := (HL.out.below HB.out).nth k hkl
        have hft := fold_take (v := v) hx
        have hin2 : InB (foldV v (L.take (k + 1))) := by rw [hft]; exact stepV_in hin _
        have HIN2 := Lib.hid hin2; clear hin2 hx
        generalize foldV v (L.take k) = u at hin hbv hft
        have HFT := Lib.hid hft; clear hft
        obtain ⟨v0, v1, v2, v3, v4, v5, v6, v7⟩ := vec_cells hbv
        have hwl : w.heap.size < wr.heap.size := hbv.lt
        have HV := Lib.hid hbv; clear hbv
        obtain ⟨u', c, htk⟩ : ∃ u' c, takeV u o q = (u', c) := ⟨_, _, rfl⟩
        have HTK := Lib.hid (take_val htk hin)
        have HTK0 := Lib.hid htk; clear htk hin
        have hid := Blk.new wr #[.int .i64 o, .int .u32 q] 83
        have hba := (Below.refl wr.heap.size wr).alloc (Nat.le_refl _) (.cells #[.int .i64 o, .int .u32 q] 83)
        have HBA := Lib.hid hba; clear hba hid
        by_cases hc : c = 0
        · subst hc
          have HST := Lib.hid (stepV_yes HTK0.out)
          go_wp2_with fail
          refine (HTK.out _).mono ?_
          rintro e w4 ⟨rfl, b4⟩
          have b5 := below_then HBA.out b4
          have HV5 := Lib.hid ((HV.out.below b5).alloc (.cells #[.int .u32 (u' 0), .int .u32 (u' 1), .int .u32 (u' 2), .int .u32 (u' 3), .int .u32 (u' 4), .int .u32 (u' 5), .int .u32 (u' 6), .int .u32 (u' 7)] 24))
          have HZ5 := Lib.hid ((HZ.out.below b5).alloc (.cells #[.int .u32 (u' 0), .int .u32 (u' 1), .int .u32 (u' 2), .int .u32 (u' 3), .int .u32 (u' 4), .int .u32 (u' 5), .int .u32 (u' 6), .int .u32 (u' 7)] 24))
          have HB5 := Lib.hid (below_new (HB.out.trans (b5.mono HB.out.size)) (.cells #[.int .u32 (u' 0), .int .u32 (u' 1), .int .u32 (u' 2), .int .u32 (u' 3), .int .u32 (u' 4), .int .u32 (u' 5), .int .u32 (u' 6), .int .u32 (u' 7)] 24))
          have HN5 := Lib.hid (Blk.new w4 #[.int .u32 (u' 0), .int .u32 (u' 1), .int .u32 (u' 2), .int .u32 (u' 3), .int .u32 (u' 4), .int .u32 (u' 5), .int .u32 (u' 6), .int .u32 (u' 7)] 24)
          clear b4 b5 v0 v1 v2 v3 v4 v5 v6 v7 i0 i1
          go_wp2_with (first | (refine wpList_load_row rfl 24 _ rfl w4.heap.size rfl 24 #[.int .u32 (u' 0), .int .u32 (u' 1), .int .u32 (u' 2), .int .u32 (u' 3), .int .u32 (u' 4), .int .u32 (u' 5), .int .u32 (u' 6), .int .u32 (u' 7)] (0, 0) _ HN5.out Tryz.underlying24 rfl (by kernel_rfl) ?_) | (refine wpList_store_row rfl 24 _ _ rfl w.heap.size #[.int .u32 (u' 0), .int .u32 (u' 1), .int .u32 (u' 2), .int .u32 (u' 3), .int .u32 (u' 4), .int .u32 (u' 5), .int .u32 (u' 6), .int .u32 (u' 7)] rfl rfl 24 _ HV5.out (by kernel_rfl) rfl (vec_one _) ?_))
          go_roundw
          case rel => exact ⟨k + 1, by go_num, by omega, HIN2.out, by rw [HFT.out, HST.out]; exact setRow_heap _ _ _ _ _ _ HV5.out, (setRow_other _ _ _ _ (by omega)).trans HZ5.out, below_setRow HB5.out (Nat.le_refl _) _⟩
          case measure => simp [intOf]; omega
        · have HST := Lib.hid (stepV_no HTK0.out hc)
          have hcf : (c == 0) = false := by simpa using hc
          clear hc
          go_wp2_with fail
          refine (HTK.out _).mono ?_
          rintro e w4 ⟨rfl, b4⟩
          have b5 := below_then HBA.out b4
          have HV5 := Lib.hid ((HV.out.below b5).alloc (.cells #[.int .u32 (u' 0), .int .u32 (u' 1), .int .u32 (u' 2), .int .u32 (u' 3), .int .u32 (u' 4), .int .u32 (u' 5), .int .u32 (u' 6), .int .u32 (u' 7)] 24))
          have HZ5 := Lib.hid ((HZ.out.below b5).alloc (.cells #[.int .u32 (u' 0), .int .u32 (u' 1), .int .u32 (u' 2), .int .u32 (u' 3), .int .u32 (u' 4), .int .u32 (u' 5), .int .u32 (u' 6), .int .u32 (u' 7)] 24))
          have HB5 := Lib.hid (below_new (HB.out.trans (b5.mono HB.out.size)) (.cells #[.int .u32 (u' 0), .int .u32 (u' 1), .int .u32 (u' 2), .int .u32 (u' 3), .int .u32 (u' 4), .int .u32 (u' 5), .int .u32 (u' 6), .int .u32 (u' 7)] 24))
          clear b4 b5 v0 v1 v2 v3 v4 v5 v6 v7 i0 i1
          go_wp2
          go_roundw
          case rel => exact ⟨k + 1, by go_num, by omega, HIN2.out, by rw [HFT.out, HST.out]; exact HV5.out, HZ5.out, HB5.out⟩
          case measure => simp [intOf]; omega
      · have hkk : (len : Int) ≤ k := by omega
        rw [List.take_of_length_le (by have := HLL.out; omega)] at hbv hin
        generalize foldV v L = u at hbv hin HFV HFS
        clear hin
        obtain ⟨v0, v1, v2, v3, v4, v5, v6, v7⟩ := vec_cells hbv
        have HV := Lib.hid hbv; clear hbv
        go_wp2_with fail
        have hby := beyondF_any al len cap L u wr (HL.out.below HB.out)
        rw [show byR u L = foS v L by rw [HFS.out]; unfold byR; rw [if_pos HC2.out], HC2.out] at hby
        refine hby.mono ?_
        clear hby
        rintro e w4 ⟨al4, cap4, rfl, hI4, hF4, b4⟩
        have HI4 := Lib.hid hI4; have HF4 := Lib.hid hF4; clear hI4 hF4
        have HV4 := Lib.hid (HV.out.below b4)
        have HZ4 := Lib.hid (HZ.out.below b4)
        have HB4 := Lib.hid (HB.out.trans (b4.mono HB.out.size)); clear b4 v0 v1 v2 v3 v4 v5 v6 v7
        generalize hn : (foS v L).length = n at HI4 ⊢
        have HN := Lib.hid hn; clear hn
        go_wp2_with (first | (refine wpList_load_row rfl 24 _ rfl w.heap.size rfl 24 #[.int .u32 (u 0), .int .u32 (u 1), .int .u32 (u 2), .int .u32 (u 3), .int .u32 (u 4), .int .u32 (u 5), .int .u32 (u 6), .int .u32 (u 7)] (0, 0) _ HV4.out Tryz.underlying24 rfl (by kernel_rfl) ?_) | (refine wpList_store_row rfl 24 _ _ rfl (w.heap.size + 1) #[.int .u32 (u 0), .int .u32 (u 1), .int .u32 (u 2), .int .u32 (u 3), .int .u32 (u 4), .int .u32 (u 5), .int .u32 (u 6), .int .u32 (u 7)] rfl rfl 24 _ HZ4.out (by kernel_rfl) rfl (vec_one _) ?_))
        have hR : Blk (w4.setRow (w.heap.size + 1) #[.int .u32 (u 0), .int .u32 (u 1), .int .u32 (u 2), .int .u32 (u 3), .int .u32 (u 4), .int .u32 (u 5), .int .u32 (u 6), .int .u32 (u 7)]) (w.heap.size + 1) #[.int .u32 (u 0), .int .u32 (u 1), .int .u32 (u 2), .int .u32 (u 3), .int .u32 (u 4), .int .u32 (u 5), .int .u32 (u 6), .int .u32 (u 7)] 24 := setRow_heap _ _ _ _ _ _ HZ4.out
        obtain ⟨r0, r1, r2, r3, r4, r5, r6, r7⟩ := vec_cells (v := u) hR
        refine bodyPost_ret (v := .tuple #[.agg #[.int .u32 (u 0), .int .u32 (u 1), .int .u32 (u 2), .int .u32 (u 3), .int .u32 (u 4), .int .u32 (u 5), .int .u32 (u 6), .int .u32 (u 7)], .slice al4 n cap4, .int .i64 0]) ?_ rfl ⟨al4, cap4, by rw [HFV.out, HN.out, HC.out], ?_, HF4.out, below_setRow HB4.out (by omega) _⟩
        · simp [results, Tryz.results30, go_sem, r0, r1, r2, r3, r4, r5, r6, r7]
        · rw [HN.out]; exact ids_row HI4.out HZ4.out _
  · have HFV : Hid (foV v L = zV) := Lib.hid (by unfold foV; rw [if_neg hc])
    have HFS : Hid (foS v L = []) := Lib.hid (by unfold foS; rw [if_neg hc])
    have HOR : Hid (orZ (chkV v) (chkS L) = foC v L) := Lib.hid rfl
    have hn : (foC v L != 0) = true := by simpa using hc
    generalize foC v L = c at hc hn HOR ⊢
    clear hc hL hv
    go_enter Tryz.func30, Tryz.ntmps30
    go_wp2_with fail
    refine (vCheck_any v _).mono ?_
    rintro e w1 ⟨rfl, b1⟩
    have HZ1 := Lib.hid (HZ0.out.below b1)
    have HB1 := Lib.hid (below_then HB0.out b1); clear b1
    go_wp2_with fail
    refine (dCheck_any al len cap L _ (HL.out.below HB1.out)).mono ?_
    rintro e w2 ⟨rfl, b2⟩
    have HZ2 := Lib.hid ((HZ1.out.below b2).alloc (.cells #[.int .i64 (chkV v), .int .i64 (chkS L)] 29))
    have HB2 := Lib.hid (below_new (below_then HB1.out b2) (.cells #[.int .i64 (chkV v), .int .i64 (chkS L)] 29)); clear b2
    go_wp2_with fail
    refine (orE_any w2.heap.size _ _ _ (Blk.new _ _ _)).mono ?_
    rw [HOR.out]
    rintro e w3 ⟨rfl, rfl⟩
    go_wp2_with (refine wpList_store_row rfl 24 _ _ rfl (w.heap.size + 1) #[.int .u32 0, .int .u32 0, .int .u32 0, .int .u32 0, .int .u32 0, .int .u32 0, .int .u32 0, .int .u32 0] rfl rfl 24 _ HZ2.out (by kernel_rfl) rfl (by kernel_rfl) ?_)
    have hR : Blk ((w2.alloc (.cells #[.int .i64 (chkV v), .int .i64 (chkS L)] 29)).setRow (w.heap.size + 1) #[.int .u32 0, .int .u32 0, .int .u32 0, .int .u32 0, .int .u32 0, .int .u32 0, .int .u32 0, .int .u32 0]) (w.heap.size + 1) #[.int .u32 0, .int .u32 0, .int .u32 0, .int .u32 0, .int .u32 0, .int .u32 0, .int .u32 0, .int .u32 0] 24 := setRow_heap _ _ _ _ _ _ HZ2.out
    have r0 : ((w2.alloc (.cells #[.int .i64 (chkV v), .int .i64 (chkS L)] 29)).setRow (w.heap.size + 1) #[.int .u32 0, .int .u32 0, .int .u32 0, .int .u32 0, .int .u32 0, .int .u32 0, .int .u32 0, .int .u32 0]).cell? ⟨w.heap.size + 1, 0, none⟩ = some (.int .u32 0) := by rw [Blk.cell hR]; rfl
    have r1 : ((w2.alloc (.cells #[.int .i64 (chkV v), .int .i64 (chkS L)] 29)).setRow (w.heap.size + 1) #[.int .u32 0, .int .u32 0, .int .u32 0, .int .u32 0, .int .u32 0, .int .u32 0, .int .u32 0, .int .u32 0]).cell? ⟨w.heap.size + 1, 1, none⟩ = some (.int .u32 0) := by rw [Blk.cell hR]; rfl
    have r2 : ((w2.alloc (.cells #[.int .i64 (chkV v), .int .i64 (chkS L)] 29)).setRow (w.heap.size + 1) #[.int .u32 0, .int .u32 0, .int .u32 0, .int .u32 0, .int .u32 0, .int .u32 0, .int .u32 0, .int .u32 0]).cell? ⟨w.heap.size + 1, 2, none⟩ = some (.int .u32 0) := by rw [Blk.cell hR]; rfl
    have r3 : ((w2.alloc (.cells #[.int .i64 (chkV v), .int .i64 (chkS L)] 29)).setRow (w.heap.size + 1) #[.int .u32 0, .int .u32 0, .int .u32 0, .int .u32 0, .int .u32 0, .int .u32 0, .int .u32 0, .int .u32 0]).cell? ⟨w.heap.size + 1, 3, none⟩ = some (.int .u32 0) := by rw [Blk.cell hR]; rfl
    have r4 : ((w2.alloc (.cells #[.int .i64 (chkV v), .int .i64 (chkS L)] 29)).setRow (w.heap.size + 1) #[.int .u32 0, .int .u32 0, .int .u32 0, .int .u32 0, .int .u32 0, .int .u32 0, .int .u32 0, .int .u32 0]).cell? ⟨w.heap.size + 1, 4, none⟩ = some (.int .u32 0) := by rw [Blk.cell hR]; rfl
    have r5 : ((w2.alloc (.cells #[.int .i64 (chkV v), .int .i64 (chkS L)] 29)).setRow (w.heap.size + 1) #[.int .u32 0, .int .u32 0, .int .u32 0, .int .u32 0, .int .u32 0, .int .u32 0, .int .u32 0, .int .u32 0]).cell? ⟨w.heap.size + 1, 5, none⟩ = some (.int .u32 0) := by rw [Blk.cell hR]; rfl
    have r6 : ((w2.alloc (.cells #[.int .i64 (chkV v), .int .i64 (chkS L)] 29)).setRow (w.heap.size + 1) #[.int .u32 0, .int .u32 0, .int .u32 0, .int .u32 0, .int .u32 0, .int .u32 0, .int .u32 0, .int .u32 0]).cell? ⟨w.heap.size + 1, 6, none⟩ = some (.int .u32 0) := by rw [Blk.cell hR]; rfl
    have r7 : ((w2.alloc (.cells #[.int .i64 (chkV v), .int .i64 (chkS L)] 29)).setRow (w.heap.size + 1) #[.int .u32 0, .int .u32 0, .int .u32 0, .int .u32 0, .int .u32 0, .int .u32 0, .int .u32 0, .int .u32 0]).cell? ⟨w.heap.size + 1, 7, none⟩ = some (.int .u32 0) := by rw [Blk.cell hR]; rfl
    refine bodyPost_ret (v := .tuple #[.agg #[.int .u32 0, .int .u32 0, .int .u32 0, .int .u32 0, .int .u32 0, .int .u32 0, .int .u32 0, .int .u32 0], .slice none 0 0, .int .i64 c]) ?_ rfl ⟨none, 0, by rw [HFV.out, HFS.out]; rfl, by rw [HFS.out]; exact Ids.nil _, .inl rfl, below_setRow HB2.out (by omega) _⟩
    simp [results, Tryz.results30, go_sem, r0, r1, r2, r3, r4, r5, r6, r7]
end Go.Proofs.YthbdjgebpjffgaaGreatDoor

/-
  What is held while cuts are handled: boxes and lists of names; package cut's Same and Has, and the document's.
  Conditions: none.
-/

namespace Go.Proofs.YthbdjgebpjffgaaGreatDoor
open Go.RowKit Go.Shelf Go.Lib Go.Sort

abbrev Bx := Nat × Array Value × TypeId
abbrev Rl := Option Addr × Nat × Nat × List (Int × Int)
/-- Boxes with their cells, slices with their lists; nothing that was has turned. -/
structure KS (w0 : World) (Bs : List Bx) (Rs : List Rl) (w : World) : Prop where
  bel : Below w0.heap.size w0 w
  bs : ∀ x, x ∈ Bs → Blk w x.1 x.2.1 x.2.2
  rs : ∀ r, r ∈ Rs → Ids w r.1 r.2.1 r.2.2.1 r.2.2.2
section
variable {w0 W w' : World} {Bs : List Bx} {Rs : List Rl}
theorem KS.nil (w : World) : KS w [] [] w := ⟨Below.refl _ _, nofun, nofun⟩
theorem KS.next (h : KS w0 Bs Rs W) (k : Below W.heap.size W w') : KS w0 Bs Rs w' := ⟨below_then h.bel k, fun x hx => (h.bs x hx).below k, fun r hr => (h.rs r hr).below k⟩
theorem KS.drew (h : KS w0 Bs Rs W) : KS w0 Bs Rs W.drew := h.next (Below.refl _ _).drew
theorem KS.alloc (h : KS w0 Bs Rs W) (x : Obj) : KS w0 Bs Rs (W.alloc x) := h.next ((Below.refl _ _).alloc (Nat.le_refl _) x)
theorem KS.add (h : KS w0 Bs Rs W) {al : Option Addr} {len cap : Nat} {L : List (Int × Int)} (k : Ids W al len cap L) : KS w0 Bs ((al, len, cap, L) :: Rs) W := ⟨h.bel, h.bs, fun r hr => by
  rcases List.mem_cons.1 hr with rfl | hr
  · exact k
  · exact h.rs r hr⟩
theorem KS.put (h : KS w0 Bs Rs W) {g : Nat} {cs : Array Value} {T : TypeId} (k : Blk W g cs T) : KS w0 ((g, cs, T) :: Bs) Rs W := ⟨h.bel, fun x hx => by
  rcases List.mem_cons.1 hx with rfl | hx
  · exact k
  · exact h.bs x hx, h.rs⟩
theorem KS.box (h : KS w0 Bs Rs W) {g : Nat} (hg : g = W.heap.size) (cs : Array Value) (T : TypeId) : KS w0 ((g, cs, T) :: Bs) Rs (W.alloc (.cells cs T)) := by
  subst hg; exact (h.alloc _).put (Blk.new _ _ _)
theorem KS.blk (h : KS w0 Bs Rs W) (i : Nat) {g : Nat} {cs : Array Value} {T : TypeId} (hi : Bs[i]? = some (g, cs, T)) : Blk W g cs T := h.bs _ (List.mem_of_getElem? hi)
theorem KS.ids (h : KS w0 Bs Rs W) (i : Nat) {al : Option Addr} {len cap : Nat} {L : List (Int × Int)} (hi : Rs[i]? = some (al, len, cap, L)) : Ids W al len cap L := h.rs _ (List.mem_of_getElem? hi)
theorem KS.drop (h : KS w0 Bs Rs W) {Bs' : List Bx} {Rs' : List Rl} (hb : ∀ x, x ∈ Bs' → x ∈ Bs) (hr : ∀ r, r ∈ Rs' → r ∈ Rs) : KS w0 Bs' Rs' W := ⟨h.bel, fun x hx => h.bs x (hb x hx), fun r hx => h.rs r (hr r hx)⟩
end
theorem cut_cells {w : World} {g : Nat} {v : Nat → Int} {al : Option Addr} {len cap : Nat} {T : TypeId} (h : Blk w g #[.int .u32 (v 0), .int .u32 (v 1), .int .u32 (v 2), .int .u32 (v 3), .int .u32 (v 4), .int .u32 (v 5), .int .u32 (v 6), .int .u32 (v 7), .slice al len cap] T) : w.cell? ⟨g, 0, none⟩ = some (.int .u32 (v 0)) ∧ w.cell? ⟨g, 1, none⟩ = some (.int .u32 (v 1)) ∧ w.cell? ⟨g, 2, none⟩ = some (.int .u32 (v 2)) ∧ w.cell? ⟨g, 3, none⟩ = some (.int .u32 (v 3)) ∧ w.cell? ⟨g, 4, none⟩ = some (.int .u32 (v 4)) ∧ w.cell? ⟨g, 5, none⟩ = some (.int .u32 (v 5)) ∧ w.cell? ⟨g, 6, none⟩ = some (.int .u32 (v 6)) ∧ w.cell? ⟨g, 7, none⟩ = some (.int .u32 (v 7)) ∧ w.cell? ⟨g, 8, none⟩ = some (.slice al len cap) :=
  ⟨by rw [Blk.cell h]; rfl, by rw [Blk.cell h]; rfl, by rw [Blk.cell h]; rfl, by rw [Blk.cell h]; rfl, by rw [Blk.cell h]; rfl, by rw [Blk.cell h]; rfl, by rw [Blk.cell h]; rfl, by rw [Blk.cell h]; rfl, by rw [Blk.cell h]; rfl⟩
theorem id_cells {w : World} {g : Nat} {o q : Int} {T : TypeId} (h : Blk w g #[.int .i64 o, .int .u32 q] T) : w.cell? ⟨g, 0, none⟩ = some (.int .i64 o) ∧ w.cell? ⟨g, 1, none⟩ = some (.int .u32 q) :=
  ⟨by rw [Blk.cell h]; rfl, by rw [Blk.cell h]; rfl⟩

/-! ### slices.Equal at names -/
set_option maxHeartbeats 400000 in
theorem equal_any (al al' : Option Addr) (len cap len' cap' : Nat) (L M : List (Int × Int)) (w : World) (h : Ids w al len cap L) (h' : Ids w al' len' cap' M) :
    Calls Tryz.prog 56 #[.slice al len cap, .slice al' len' cap'] w fun e w' => e = .returned (.bool (decide (L = M))) ∧ Below w.heap.size w w' := by
  have hcap := h.bd
  have hle := h.fit
  have HLL := Lib.hid h.ln
  have hcap' := h'.bd
  have hle' := h'.fit
  have HLL' := Lib.hid h'.ln
  have HI := Lib.hid h; clear h
  have HJ := Lib.hid h'; clear h'
  by_cases hlen : len = len'
  · subst hlen
    go_enter Tryz.func56, Tryz.ntmps56
    go_wp2
    go_loopw [13] (fun i wr => ∃ k : Nat, i = .int .i64 k ∧ k ≤ len ∧ (∀ j x y, j < k → L[j]? = some x → M[j]? = some y → x = y) ∧ Below w.heap.size w wr) (fun i _ => len - (intOf i).toNat)
    case atStart => exact ⟨0, rfl, by omega, fun j x y hj => by omega, Below.refl _ _⟩
    case round =>
      obtain ⟨k, rfl, hk, hold, hb⟩ := hrel
      have HV := Lib.hid hold; clear hold
      have HB := Lib.hid hb; clear hb
      by_cases hkl : k < len
      · obtain ⟨b, off, o, q, rfl, hx, i0, i1⟩ := ((HI.out.below HB.out).nth k hkl)
        obtain ⟨b', off', o', q', rfl, hy, j0, j1⟩ := ((HJ.out.below HB.out).nth k hkl)
        have HX := Lib.hid hx; clear hx
        have HY := Lib.hid hy; clear hy
        have heq := fun W => (same_id o q o' q' (.tmp 19) (.tmp 23) W).2.1
        have hgd := fun W => (same_id o q o' q' (.tmp 19) (.tmp 23) W).2.2.2
        by_cases hc : (o, q) = (o', q')
        · have hd : decide ((o, q) = (o', q')) = true := decide_eq_true hc
          simp only [hd, Bool.not_true] at heq
          have HC := Lib.hid hc
          clear hc hd
          go_wp2_with fail
          go_quiet (fail)
          go_wp2
          go_roundw
          case rel => exact ⟨k + 1, by go_num, by omega, fun j x y hj hx hy => by
            by_cases e : j = k
            · subst e; rw [HX.out] at hx; rw [HY.out] at hy; cases hx; cases hy; exact HC.out
            · exact HV.out j x y (by omega) hx hy, below_drewN HB.out _⟩
          case measure => simp [intOf]; omega
        · have hd : decide ((o, q) = (o', q')) = false := decide_eq_false hc
          simp only [hd, Bool.not_false] at heq
          have hv : Hid (decide (L = M) = false) := Lib.hid (decide_eq_false (list_ne HX.out HY.out hc))
          clear hc hd
          go_wp2_with fail
          go_quiet (fail)
          go_wp2
          go_ret
          exact ⟨by rw [hv.out]; rfl, below_drewN HB.out _⟩
      · have hv : Hid (decide (L = M) = true) := Lib.hid (decide_eq_true (list_eq (by have := HLL.out; have := HLL'.out; omega) fun j x y hj hx hy => HV.out j x y (by have := HLL.out; omega) hx hy))
        have hkk : (len : Int) ≤ k := by omega
        go_wp2
        go_ret
        exact ⟨by rw [hv.out]; rfl, HB.out⟩
  · have hv : Hid (decide (L = M) = false) := Lib.hid (decide_eq_false fun e => hlen (by rw [HLL.out, HLL'.out, e]))
    have hn : ((len : Int) != len') = true := by simp; omega
    clear hlen
    go_enter Tryz.func56, Tryz.ntmps56
    go_wp2
    go_ret
    exact ⟨by rw [hv.out]; rfl, Below.refl _ _⟩

/-! ### Same, Has: cut -/
set_option maxRecDepth 100000 in
set_option maxHeartbeats 1000000 in
theorem cSame_cut (a b : Nat → Int) (al al' : Option Addr) (len cap len' cap' : Nat) (A B : List (Int × Int)) (w : World) (hA : Ids w al len cap A) (hB : Ids w al' len' cap' B) :
    Calls Tryz.prog 31 #[.agg #[.int .u32 (a 0), .int .u32 (a 1), .int .u32 (a 2), .int .u32 (a 3), .int .u32 (a 4), .int .u32 (a 5), .int .u32 (a 6), .int .u32 (a 7), .slice al len cap], .agg #[.int .u32 (b 0), .int .u32 (b 1), .int .u32 (b 2), .int .u32 (b 3), .int .u32 (b 4), .int .u32 (b 5), .int .u32 (b 6), .int .u32 (b 7), .slice al' len' cap']] w fun e w' => e = .returned (.bool (eqC a A b B)) ∧ Below w.heap.size w w' := by
  have h0 := ((((KS.nil w).add hA).add hB).box rfl #[.int .u32 (a 0), .int .u32 (a 1), .int .u32 (a 2), .int .u32 (a 3), .int .u32 (a 4), .int .u32 (a 5), .int .u32 (a 6), .int .u32 (a 7), .slice al len cap] 32).box (g := w.heap.size + 1) (by simp) #[.int .u32 (b 0), .int .u32 (b 1), .int .u32 (b 2), .int .u32 (b 3), .int .u32 (b 4), .int .u32 (b 5), .int .u32 (b 6), .int .u32 (b 7), .slice al' len' cap'] 32
  have H0 := Lib.hid h0
  obtain ⟨a0, a1, a2, a3, a4, a5, a6, a7, a8⟩ := cut_cells (h0.blk 1 rfl)
  obtain ⟨b0, b1, b2, b3, b4, b5, b6, b7, b8⟩ := cut_cells (h0.blk 0 rfl)
  clear h0 hA hB
  have he : ∀ w, (Op.equalIn 10000 24 (.agg #[.int .u32 (a 0), .int .u32 (a 1), .int .u32 (a 2), .int .u32 (a 3), .int .u32 (a 4), .int .u32 (a 5), .int .u32 (a 6), .int .u32 (a 7)]) (.agg #[.int .u32 (b 0), .int .u32 (b 1), .int .u32 (b 2), .int .u32 (b 3), .int .u32 (b 4), .int .u32 (b 5), .int .u32 (b 6), .int .u32 (b 7)])).run Tryz.prog w = .ok (eqV a b) w := fun w => eql_vec 9998 a b w
  cases hab : eqV a b with
  | true =>
    have HE : Hid (eqC a A b B = decide (A = B)) := Lib.hid (by unfold eqC; rw [hab]; rfl)
    rw [hab] at he
    clear hab
    go_enter Tryz.func31, Tryz.ntmps31
    go_wp2_with fail
    refine (equal_any al al' len cap len' cap' A B _ (H0.out.ids 1 rfl) (H0.out.ids 0 rfl)).mono ?_
    rintro e w1 ⟨rfl, k1⟩
    have H1 := Lib.hid (H0.out.next k1); clear k1
    go_wp2
    go_ret
    exact ⟨by rw [HE.out]; rfl, H1.out.bel⟩
  | false =>
    have HE : Hid (eqC a A b B = false) := Lib.hid (by unfold eqC; rw [hab]; rfl)
    rw [hab] at he
    clear hab
    go_enter Tryz.func31, Tryz.ntmps31
    go_wp2
    go_ret
    exact ⟨by rw [HE.out]; rfl, H0.out.bel⟩

/-! ### Same, Has: selkieref08 -/
set_option maxRecDepth 100000 in
set_option maxHeartbeats 1000000 in
theorem rSame_cut (a b : Nat → Int) (al al' : Option Addr) (len cap len' cap' : Nat) (A B : List (Int × Int)) (w : World) (hA : Ids w al len cap A) (hB : Ids w al' len' cap' B) :
    Calls Tryz.prog 9 #[.agg #[.int .u32 (a 0), .int .u32 (a 1), .int .u32 (a 2), .int .u32 (a 3), .int .u32 (a 4), .int .u32 (a 5), .int .u32 (a 6), .int .u32 (a 7), .slice al len cap], .agg #[.int .u32 (b 0), .int .u32 (b 1), .int .u32 (b 2), .int .u32 (b 3), .int .u32 (b 4), .int .u32 (b 5), .int .u32 (b 6), .int .u32 (b 7), .slice al' len' cap']] w fun e w' => e = .returned (.bool (eqC a A b B)) ∧ Below w.heap.size w w' := by
  have h0 := ((((KS.nil w).add hA).add hB).box rfl #[.int .u32 (a 0), .int .u32 (a 1), .int .u32 (a 2), .int .u32 (a 3), .int .u32 (a 4), .int .u32 (a 5), .int .u32 (a 6), .int .u32 (a 7), .slice al len cap] 27).box (g := w.heap.size + 1) (by simp) #[.int .u32 (b 0), .int .u32 (b 1), .int .u32 (b 2), .int .u32 (b 3), .int .u32 (b 4), .int .u32 (b 5), .int .u32 (b 6), .int .u32 (b 7), .slice al' len' cap'] 27
  have H0 := Lib.hid h0
  obtain ⟨a0, a1, a2, a3, a4, a5, a6, a7, a8⟩ := cut_cells (h0.blk 1 rfl)
  obtain ⟨b0, b1, b2, b3, b4, b5, b6, b7, b8⟩ := cut_cells (h0.blk 0 rfl)
  clear h0 hA hB
  have he : ∀ w, (Op.equalIn 10000 24 (.agg #[.int .u32 (a 0), .int .u32 (a 1), .int .u32 (a 2), .int .u32 (a 3), .int .u32 (a 4), .int .u32 (a 5), .int .u32 (a 6), .int .u32 (a 7)]) (.agg #[.int .u32 (b 0), .int .u32 (b 1), .int .u32 (b 2), .int .u32 (b 3), .int .u32 (b 4), .int .u32 (b 5), .int .u32 (b 6), .int .u32 (b 7)])).run Tryz.prog w = .ok (eqV a b) w := fun w => eql_vec 9998 a b w
  cases hab : eqV a b with
  | true =>
    have HE : Hid (eqC a A b B = decide (A = B)) := Lib.hid (by unfold eqC; rw [hab]; rfl)
    rw [hab] at he
    clear hab
    go_enter Tryz.func9, Tryz.ntmps9
    go_wp2_with fail
    refine (same_any al al' len cap len' cap' A B _ (H0.out.ids 1 rfl) (H0.out.ids 0 rfl)).mono ?_
    rintro e w1 ⟨rfl, k1⟩
    have H1 := Lib.hid (H0.out.next k1); clear k1
    go_wp2
    go_ret
    exact ⟨by rw [HE.out]; rfl, H1.out.bel⟩
  | false =>
    have HE : Hid (eqC a A b B = false) := Lib.hid (by unfold eqC; rw [hab]; rfl)
    rw [hab] at he
    clear hab
    go_enter Tryz.func9, Tryz.ntmps9
    go_wp2
    go_ret
    exact ⟨by rw [HE.out]; rfl, H0.out.bel⟩

end Go.Proofs.YthbdjgebpjffgaaGreatDoor
