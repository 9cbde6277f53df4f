/-
  Package dots' Fold.
  Conditions: none.
-/
import Derived.Test.YthbdjgebpjffgaaGreatDoorDotU
set_option linter.unusedVariables false
set_option linter.unusedSimpArgs false
namespace Go.Proofs.YthbdjgebpjffgaaGreatDoor
open Go.RowKit Go.Shelf Go.Lib Go.Sort

/-- A vector with what of a list goes on from it. -/
def stepV (v : Nat → Int) (x : Int × Int) : Nat → Int := if (takeV v x.1 x.2).2 = 0 then (takeV v x.1 x.2).1 else v
def foldV (v : Nat → Int) (L : List (Int × Int)) : Nat → Int := L.foldl stepV v
def foC (v : Nat → Int) (L : List (Int × Int)) : Int := orZ (chkV v) (chkS L)
def InB (v : Nat → Int) : Prop := ∀ i, i < 8 → 0 ≤ v i ∧ v i ≤ 4294967295
theorem stepV_no {v : Nat → Int} {o q : Int} {u : Nat → Int} {c : Int} (h : takeV v o q = (u, c)) (hc : ¬ c = 0) : stepV v (o, q) = v := by unfold stepV; rw [h, if_neg hc]
theorem stepV_yes {v : Nat → Int} {o q : Int} {u : Nat → Int} (h : takeV v o q = (u, 0)) : stepV v (o, q) = u := by unfold stepV; rw [h, if_pos rfl]
theorem takeV_zero {v : Nat → Int} {o q : Int} (h : (takeV v o q).2 = 0) : okV v = true ∧ chk o q = 0 ∧ hasV v o q = false ∧ q = v o.toNat + 1 ∧ (takeV v o q).1 = setV v o.toNat q := by
  unfold takeV at h ⊢
  by_cases h1 : okV v = true
  · rw [if_pos h1] at h ⊢
    by_cases h2 : chk o q = 0
    · rw [if_pos h2] at h ⊢
      by_cases h3 : hasV v o q = true
      · rw [if_pos h3] at h; exact absurd h (by decide)
      · rw [if_neg h3] at h ⊢
        by_cases h4 : q = v o.toNat + 1
        · rw [if_pos h4] at h ⊢
          exact ⟨h1, h2, by simpa using h3, h4, rfl⟩
        · rw [if_neg h4] at h; exact absurd h (by decide)
    · rw [if_neg h2] at h; exact absurd h (by decide)
  · rw [if_neg h1] at h; exact absurd h (by decide)
theorem stepV_in {v : Nat → Int} (h : InB v) (x : Int × Int) : InB (stepV v x) := by
  unfold stepV
  split
  · rename_i hc
    obtain ⟨h1, h2, h3, h4, h5⟩ := takeV_zero hc
    rw [h5]
    have := chk_zero h2
    intro i hi
    unfold setV
    split
    · omega
    · exact h i hi
  · exact h
theorem fold_take {v : Nat → Int} {L : List (Int × Int)} {k : Nat} {x : Int × Int} (hx : L[k]? = some x) : foldV v (L.take (k + 1)) = stepV (foldV v (L.take k)) x := by
  have hk := (List.getElem?_eq_some_iff.1 hx).1
  have e := (List.getElem?_eq_some_iff.1 hx).2
  unfold foldV
  rw [List.take_succ_eq_append_getElem hk, e, List.foldl_append]; rfl
theorem take_val {v u : Nat → Int} {o q c : Int} (h : takeV v o q = (u, c)) (hv : InB v) (w : World) :
    Calls Tryz.prog 54 #[.agg #[.int .u32 (v 0), .int .u32 (v 1), .int .u32 (v 2), .int .u32 (v 3), .int .u32 (v 4), .int .u32 (v 5), .int .u32 (v 6), .int .u32 (v 7)], .agg #[.int .i64 o, .int .u32 q]] w fun e w' => e = .returned (.tuple #[.agg #[.int .u32 (u 0), .int .u32 (u 1), .int .u32 (u 2), .int .u32 (u 3), .int .u32 (u 4), .int .u32 (u 5), .int .u32 (u 6), .int .u32 (u 7)], .int .i64 c]) ∧ Below w.heap.size w w' :=
  (take_any v o q w hv).mono fun _ _ ⟨h1, h2⟩ => ⟨by rw [h1, h], h2⟩
theorem fo_zero {v : Nat → Int} {L : List (Int × Int)} (h : foC v L = 0) : chkV v = 0 ∧ chkS L = 0 := by
  unfold foC orZ at h
  by_cases h1 : chkV v = 0
  · rw [if_pos h1] at h; exact ⟨h1, h⟩
  · rw [if_neg h1] at h; exact absurd h h1
def foV (v : Nat → Int) (L : List (Int × Int)) : Nat → Int := if foC v L = 0 then foldV v L else zV
def foS (v : Nat → Int) (L : List (Int × Int)) : List (Int × Int) := if foC v L = 0 then byS (foldV v L) L else []

theorem ids_row {w : World} {al : Option Addr} {len cap g : Nat} {L : List (Int × Int)} (h : Ids w al len cap L) (hz : Blk w g #[.int .u32 0, .int .u32 0, .int .u32 0, .int .u32 0, .int .u32 0, .int .u32 0, .int .u32 0, .int .u32 0] 24) (cs : Array Value) : Ids (w.setRow g cs) al len cap L :=
  ⟨h.ln, h.fit, h.bd, h.nn, fun k hk => by
    obtain ⟨b, off, o, q, h1, h2, h3, h4⟩ := h.nth k hk
    have hb : b ≠ g := by
      intro e
      subst e
      rw [Blk.cell hz] at h3
      generalize off + k * 2 = j at h3
      match j, h3 with
      | 0, h3 => simp at h3
      | 1, h3 => simp at h3
      | 2, h3 => simp at h3
      | 3, h3 => simp at h3
      | 4, h3 => simp at h3
      | 5, h3 => simp at h3
      | 6, h3 => simp at h3
      | 7, h3 => simp at h3
      | j + 8, h3 => simp at h3
    have e1 : (w.setRow g cs).heap[b]? = w.heap[b]? := setRow_other _ _ _ _ (fun e => hb e)
    exact ⟨b, off, o, q, h1, h2, (World.cell?_of_block (a := ⟨b, off + k * 2, none⟩) e1).trans h3, (World.cell?_of_block (a := ⟨b, off + k * 2 + 1, none⟩) e1).trans h4⟩⟩

set_option maxRecDepth 100000 in
set_option maxHeartbeats 4000000 in
theorem fold_any (al : Option Addr) (len cap : Nat) (L : List (Int × Int)) (v : Nat → Int) (w : World) (hL : Ids w al len cap L) (hv : InB v) :
    Calls Tryz.prog 30 #[.agg #[.int .u32 (v 0), .int .u32 (v 1), .int .u32 (v 2), .int .u32 (v 3), .int .u32 (v 4), .int .u32 (v 5), .int .u32 (v 6), .int .u32 (v 7)], .slice al len cap] w fun e w' => ∃ al2 cap2, e = .returned (.tuple #[.agg #[.int .u32 (foV v L 0), .int .u32 (foV v L 1), .int .u32 (foV v L 2), .int .u32 (foV v L 3), .int .u32 (foV v L 4), .int .u32 (foV v L 5), .int .u32 (foV v L 6), .int .u32 (foV v L 7)], .slice al2 (foS v L).length cap2, .int .i64 (foC v L)]) ∧ Ids w' al2 (foS v L).length cap2 (foS v L) ∧ Below w.heap.size w w' := by
  have hb0 : Below w.heap.size w ((w.alloc (.cells #[.int .u32 (v 0), .int .u32 (v 1), .int .u32 (v 2), .int .u32 (v 3), .int .u32 (v 4), .int .u32 (v 5), .int .u32 (v 6), .int .u32 (v 7)] 24)).alloc (.cells #[.int .u32 0, .int .u32 0, .int .u32 0, .int .u32 0, .int .u32 0, .int .u32 0, .int .u32 0, .int .u32 0] 24)) := below_new ((Below.refl w.heap.size w).alloc (Nat.le_refl _) _) _
  have HL := Lib.hid hL
  have hbv : Blk ((w.alloc (.cells #[.int .u32 (v 0), .int .u32 (v 1), .int .u32 (v 2), .int .u32 (v 3), .int .u32 (v 4), .int .u32 (v 5), .int .u32 (v 6), .int .u32 (v 7)] 24)).alloc (.cells #[.int .u32 0, .int .u32 0, .int .u32 0, .int .u32 0, .int .u32 0, .int .u32 0, .int .u32 0, .int .u32 0] 24)) w.heap.size #[.int .u32 (v 0), .int .u32 (v 1), .int .u32 (v 2), .int .u32 (v 3), .int .u32 (v 4), .int .u32 (v 5), .int .u32 (v 6), .int .u32 (v 7)] 24 := (Blk.new w _ _).alloc _
  have hbz : Blk ((w.alloc (.cells #[.int .u32 (v 0), .int .u32 (v 1), .int .u32 (v 2), .int .u32 (v 3), .int .u32 (v 4), .int .u32 (v 5), .int .u32 (v 6), .int .u32 (v 7)] 24)).alloc (.cells #[.int .u32 0, .int .u32 0, .int .u32 0, .int .u32 0, .int .u32 0, .int .u32 0, .int .u32 0, .int .u32 0] 24)) (w.heap.size + 1) #[.int .u32 0, .int .u32 0, .int .u32 0, .int .u32 0, .int .u32 0, .int .u32 0, .int .u32 0, .int .u32 0] 24 := by
    have := Blk.new (w.alloc (.cells #[.int .u32 (v 0), .int .u32 (v 1), .int .u32 (v 2), .int .u32 (v 3), .int .u32 (v 4), .int .u32 (v 5), .int .u32 (v 6), .int .u32 (v 7)] 24)) #[.int .u32 0, .int .u32 0, .int .u32 0, .int .u32 0, .int .u32 0, .int .u32 0, .int .u32 0, .int .u32 0] 24
    simpa using this
  have HV0 := Lib.hid hbv
  have HZ0 := Lib.hid hbz
  have HB0 := Lib.hid hb0
  clear hbv hbz hb0
  by_cases hc : foC v L = 0
  · obtain ⟨c1, c2⟩ := fo_zero hc
    have HC1 := Lib.hid c1
    have HC2 := Lib.hid c2
    have HFV : Hid (foV v L = foldV v L) := Lib.hid (by unfold foV; rw [if_pos hc])
    have HFS : Hid (foS v L = byS (foldV v L) L) := Lib.hid (by unfold foS; rw [if_pos hc])
    have HC := Lib.hid hc
    have hlen : len ≤ 64 := by
      have := (chkS_zero c2).1
      have := hL.ln
      omega
    have hcap := hL.bd
    have hfit := hL.fit
    have HLL := Lib.hid hL.ln
    have HIN := Lib.hid hv
    clear hL hc c1 c2 hv
    go_enter Tryz.func30, Tryz.ntmps30
    go_wp2_with fail
    refine (vCheck_any v _).mono ?_
    rw [HC1.out]
    rintro e w1 ⟨rfl, b1⟩
    have HV1 := Lib.hid (HV0.out.below b1)
    have HZ1 := Lib.hid (HZ0.out.below b1)
    have HB1 := Lib.hid (below_then HB0.out b1); clear b1
    go_wp2_with fail
    refine (dCheck_any al len cap L _ (HL.out.below HB1.out)).mono ?_
    rw [HC2.out]
    rintro e w2 ⟨rfl, b2⟩
    have HV2 := Lib.hid ((HV1.out.below b2).alloc (.cells #[.int .i64 0, .int .i64 0] 29))
    have HZ2 := Lib.hid ((HZ1.out.below b2).alloc (.cells #[.int .i64 0, .int .i64 0] 29))
    have HB2 := Lib.hid (below_new (below_then HB1.out b2) (.cells #[.int .i64 0, .int .i64 0] 29)); clear b2
    go_wp2_with fail
    refine (orE_any w2.heap.size 0 0 _ (Blk.new _ _ _)).mono ?_
    rw [show orZ 0 0 = 0 from rfl]
    rintro e w3 ⟨rfl, rfl⟩
    go_wp2
    go_loopw [26] (fun s26 wr => ∃ k : Nat, s26 = .int .i64 k ∧ k ≤ len ∧ InB (foldV v (L.take k)) ∧ Blk wr w.heap.size #[.int .u32 (foldV v (L.take k) 0), .int .u32 (foldV v (L.take k) 1), .int .u32 (foldV v (L.take k) 2), .int .u32 (foldV v (L.take k) 3), .int .u32 (foldV v (L.take k) 4), .int .u32 (foldV v (L.take k) 5), .int .u32 (foldV v (L.take k) 6), .int .u32 (foldV v (L.take k) 7)] 24 ∧ Blk wr (w.heap.size + 1) #[.int .u32 0, .int .u32 0, .int .u32 0, .int .u32 0, .int .u32 0, .int .u32 0, .int .u32 0, .int .u32 0] 24 ∧ Below w.heap.size w wr) (fun s26 _ => len - (intOf s26).toNat)
    case atStart => exact ⟨0, rfl, by omega, HIN.out, HV2.out, HZ2.out, HB2.out⟩
    case round =>
      obtain ⟨k, rfl, hk, hin, hbv, hbz, hb⟩ := hrel
      have HB := Lib.hid hb; clear hb
      have HZ := Lib.hid hbz; clear hbz
      by_cases hkl : k < len
      · obtain ⟨b, off, o, q, rfl, hx, i0, i1⟩ := (HL.out.below HB.out).nth k hkl
        have hft := fold_take (v := v) hx
        have hin2 : InB (foldV v (L.take (k + 1))) := by rw [hft]; exact stepV_in hin _
        have HIN2 := Lib.hid hin2; clear hin2 hx
        generalize foldV v (L.take k) = u at hin hbv hft
        have HFT := Lib.hid hft; clear hft
        obtain ⟨v0, v1, v2, v3, v4, v5, v6, v7⟩ := vec_cells hbv
        have hwl : w.heap.size < wr.heap.size := hbv.lt
        have HV := Lib.hid hbv; clear hbv
        obtain ⟨u', c, htk⟩ : ∃ u' c, takeV u o q = (u', c) := ⟨_, _, rfl⟩
        have HTK := Lib.hid (take_val htk hin)
        have HTK0 := Lib.hid htk; clear htk hin
        have hid := Blk.new wr #[.int .i64 o, .int .u32 q] 83
        have hba := (Below.refl wr.heap.size wr).alloc (Nat.le_refl _) (.cells #[.int .i64 o, .int .u32 q] 83)
        have HBA := Lib.hid hba; clear hba hid
        by_cases hc : c = 0
        · subst hc
          have HST := Lib.hid (stepV_yes HTK0.out)
          go_wp2_with fail
          refine (HTK.out _).mono ?_
          rintro e w4 ⟨rfl, b4⟩
          have b5 := below_then HBA.out b4
          have HV5 := Lib.hid ((HV.out.below b5).alloc (.cells #[.int .u32 (u' 0), .int .u32 (u' 1), .int .u32 (u' 2), .int .u32 (u' 3), .int .u32 (u' 4), .int .u32 (u' 5), .int .u32 (u' 6), .int .u32 (u' 7)] 24))
          have HZ5 := Lib.hid ((HZ.out.below b5).alloc (.cells #[.int .u32 (u' 0), .int .u32 (u' 1), .int .u32 (u' 2), .int .u32 (u' 3), .int .u32 (u' 4), .int .u32 (u' 5), .int .u32 (u' 6), .int .u32 (u' 7)] 24))
          have HB5 := Lib.hid (below_new (HB.out.trans (b5.mono HB.out.size)) (.cells #[.int .u32 (u' 0), .int .u32 (u' 1), .int .u32 (u' 2), .int .u32 (u' 3), .int .u32 (u' 4), .int .u32 (u' 5), .int .u32 (u' 6), .int .u32 (u' 7)] 24))
          have HN5 := Lib.hid (Blk.new w4 #[.int .u32 (u' 0), .int .u32 (u' 1), .int .u32 (u' 2), .int .u32 (u' 3), .int .u32 (u' 4), .int .u32 (u' 5), .int .u32 (u' 6), .int .u32 (u' 7)] 24)
          clear b4 b5 v0 v1 v2 v3 v4 v5 v6 v7 i0 i1
          go_wp2_with (first | (refine wpList_load_row rfl 24 _ rfl w4.heap.size rfl 24 #[.int .u32 (u' 0), .int .u32 (u' 1), .int .u32 (u' 2), .int .u32 (u' 3), .int .u32 (u' 4), .int .u32 (u' 5), .int .u32 (u' 6), .int .u32 (u' 7)] (0, 0) _ HN5.out Tryz.underlying24 rfl (by kernel_rfl) ?_) | (refine wpList_store_row rfl 24 _ _ rfl w.heap.size #[.int .u32 (u' 0), .int .u32 (u' 1), .int .u32 (u' 2), .int .u32 (u' 3), .int .u32 (u' 4), .int .u32 (u' 5), .int .u32 (u' 6), .int .u32 (u' 7)] rfl rfl 24 _ HV5.out (by kernel_rfl) rfl (vec_one _) ?_))
          go_roundw
          case rel => exact ⟨k + 1, by go_num, by omega, HIN2.out, by rw [HFT.out, HST.out]; exact setRow_heap _ _ _ _ _ _ HV5.out, (setRow_other _ _ _ _ (by omega)).trans HZ5.out, below_setRow HB5.out (Nat.le_refl _) _⟩
          case measure => simp [intOf]; omega
        · have HST := Lib.hid (stepV_no HTK0.out hc)
          have hcf : (c == 0) = false := by simpa using hc
          clear hc
          go_wp2_with fail
          refine (HTK.out _).mono ?_
          rintro e w4 ⟨rfl, b4⟩
          have b5 := below_then HBA.out b4
          have HV5 := Lib.hid ((HV.out.below b5).alloc (.cells #[.int .u32 (u' 0), .int .u32 (u' 1), .int .u32 (u' 2), .int .u32 (u' 3), .int .u32 (u' 4), .int .u32 (u' 5), .int .u32 (u' 6), .int .u32 (u' 7)] 24))
          have HZ5 := Lib.hid ((HZ.out.below b5).alloc (.cells #[.int .u32 (u' 0), .int .u32 (u' 1), .int .u32 (u' 2), .int .u32 (u' 3), .int .u32 (u' 4), .int .u32 (u' 5), .int .u32 (u' 6), .int .u32 (u' 7)] 24))
          have HB5 := Lib.hid (below_new (HB.out.trans (b5.mono HB.out.size)) (.cells #[.int .u32 (u' 0), .int .u32 (u' 1), .int .u32 (u' 2), .int .u32 (u' 3), .int .u32 (u' 4), .int .u32 (u' 5), .int .u32 (u' 6), .int .u32 (u' 7)] 24))
          clear b4 b5 v0 v1 v2 v3 v4 v5 v6 v7 i0 i1
          go_wp2
          go_roundw
          case rel => exact ⟨k + 1, by go_num, by omega, HIN2.out, by rw [HFT.out, HST.out]; exact HV5.out, HZ5.out, HB5.out⟩
          case measure => simp [intOf]; omega
      · have hkk : (len : Int) ≤ k := by omega
        rw [List.take_of_length_le (by have := HLL.out; omega)] at hbv hin
        generalize foldV v L = u at hbv hin HFV HFS
        clear hin
        obtain ⟨v0, v1, v2, v3, v4, v5, v6, v7⟩ := vec_cells hbv
        have HV := Lib.hid hbv; clear hbv
        go_wp2_with fail
        have hby := beyond_any al len cap L u wr (HL.out.below HB.out)
        rw [show byR u L = foS v L by rw [HFS.out]; unfold byR; rw [if_pos HC2.out], HC2.out] at hby
        refine hby.mono ?_
        clear hby
        rintro e w4 ⟨al4, cap4, rfl, hI4, b4⟩
        have HI4 := Lib.hid hI4; clear hI4
        have HV4 := Lib.hid (HV.out.below b4)
        have HZ4 := Lib.hid (HZ.out.below b4)
        have HB4 := Lib.hid (HB.out.trans (b4.mono HB.out.size)); clear b4 v0 v1 v2 v3 v4 v5 v6 v7
        generalize hn : (foS v L).length = n at HI4 ⊢
        have HN := Lib.hid hn; clear hn
        go_wp2_with (first | (refine wpList_load_row rfl 24 _ rfl w.heap.size rfl 24 #[.int .u32 (u 0), .int .u32 (u 1), .int .u32 (u 2), .int .u32 (u 3), .int .u32 (u 4), .int .u32 (u 5), .int .u32 (u 6), .int .u32 (u 7)] (0, 0) _ HV4.out Tryz.underlying24 rfl (by kernel_rfl) ?_) | (refine wpList_store_row rfl 24 _ _ rfl (w.heap.size + 1) #[.int .u32 (u 0), .int .u32 (u 1), .int .u32 (u 2), .int .u32 (u 3), .int .u32 (u 4), .int .u32 (u 5), .int .u32 (u 6), .int .u32 (u 7)] rfl rfl 24 _ HZ4.out (by kernel_rfl) rfl (vec_one _) ?_))
        have hR : Blk (w4.setRow (w.heap.size + 1) #[.int .u32 (u 0), .int .u32 (u 1), .int .u32 (u 2), .int .u32 (u 3), .int .u32 (u 4), .int .u32 (u 5), .int .u32 (u 6), .int .u32 (u 7)]) (w.heap.size + 1) #[.int .u32 (u 0), .int .u32 (u 1), .int .u32 (u 2), .int .u32 (u 3), .int .u32 (u 4), .int .u32 (u 5), .int .u32 (u 6), .int .u32 (u 7)] 24 := setRow_heap _ _ _ _ _ _ HZ4.out
        obtain ⟨r0, r1, r2, r3, r4, r5, r6, r7⟩ := vec_cells (v := u) hR
        refine bodyPost_ret (v := .tuple #[.agg #[.int .u32 (u 0), .int .u32 (u 1), .int .u32 (u 2), .int .u32 (u 3), .int .u32 (u 4), .int .u32 (u 5), .int .u32 (u 6), .int .u32 (u 7)], .slice al4 n cap4, .int .i64 0]) ?_ rfl ⟨al4, cap4, by rw [HFV.out, HN.out, HC.out], ?_, below_setRow HB4.out (by omega) _⟩
        · simp [results, Tryz.results30, go_sem, r0, r1, r2, r3, r4, r5, r6, r7]
        · rw [HN.out]; exact ids_row HI4.out HZ4.out _
  · have HFV : Hid (foV v L = zV) := Lib.hid (by unfold foV; rw [if_neg hc])
    have HFS : Hid (foS v L = []) := Lib.hid (by unfold foS; rw [if_neg hc])
    have HOR : Hid (orZ (chkV v) (chkS L) = foC v L) := Lib.hid rfl
    have hn : (foC v L != 0) = true := by simpa using hc
    generalize foC v L = c at hc hn HOR ⊢
    clear hc hL hv
    go_enter Tryz.func30, Tryz.ntmps30
    go_wp2_with fail
    refine (vCheck_any v _).mono ?_
    rintro e w1 ⟨rfl, b1⟩
    have HZ1 := Lib.hid (HZ0.out.below b1)
    have HB1 := Lib.hid (below_then HB0.out b1); clear b1
    go_wp2_with fail
    refine (dCheck_any al len cap L _ (HL.out.below HB1.out)).mono ?_
    rintro e w2 ⟨rfl, b2⟩
    have HZ2 := Lib.hid ((HZ1.out.below b2).alloc (.cells #[.int .i64 (chkV v), .int .i64 (chkS L)] 29))
    have HB2 := Lib.hid (below_new (below_then HB1.out b2) (.cells #[.int .i64 (chkV v), .int .i64 (chkS L)] 29)); clear b2
    go_wp2_with fail
    refine (orE_any w2.heap.size _ _ _ (Blk.new _ _ _)).mono ?_
    rw [HOR.out]
    rintro e w3 ⟨rfl, rfl⟩
    go_wp2_with (refine wpList_store_row rfl 24 _ _ rfl (w.heap.size + 1) #[.int .u32 0, .int .u32 0, .int .u32 0, .int .u32 0, .int .u32 0, .int .u32 0, .int .u32 0, .int .u32 0] rfl rfl 24 _ HZ2.out (by kernel_rfl) rfl (by kernel_rfl) ?_)
    have hR : Blk ((w2.alloc (.cells #[.int .i64 (chkV v), .int .i64 (chkS L)] 29)).setRow (w.heap.size + 1) #[.int .u32 0, .int .u32 0, .int .u32 0, .int .u32 0, .int .u32 0, .int .u32 0, .int .u32 0, .int .u32 0]) (w.heap.size + 1) #[.int .u32 0, .int .u32 0, .int .u32 0, .int .u32 0, .int .u32 0, .int .u32 0, .int .u32 0, .int .u32 0] 24 := setRow_heap _ _ _ _ _ _ HZ2.out
    have r0 : ((w2.alloc (.cells #[.int .i64 (chkV v), .int .i64 (chkS L)] 29)).setRow (w.heap.size + 1) #[.int .u32 0, .int .u32 0, .int .u32 0, .int .u32 0, .int .u32 0, .int .u32 0, .int .u32 0, .int .u32 0]).cell? ⟨w.heap.size + 1, 0, none⟩ = some (.int .u32 0) := by rw [Blk.cell hR]; rfl
    have r1 : ((w2.alloc (.cells #[.int .i64 (chkV v), .int .i64 (chkS L)] 29)).setRow (w.heap.size + 1) #[.int .u32 0, .int .u32 0, .int .u32 0, .int .u32 0, .int .u32 0, .int .u32 0, .int .u32 0, .int .u32 0]).cell? ⟨w.heap.size + 1, 1, none⟩ = some (.int .u32 0) := by rw [Blk.cell hR]; rfl
    have r2 : ((w2.alloc (.cells #[.int .i64 (chkV v), .int .i64 (chkS L)] 29)).setRow (w.heap.size + 1) #[.int .u32 0, .int .u32 0, .int .u32 0, .int .u32 0, .int .u32 0, .int .u32 0, .int .u32 0, .int .u32 0]).cell? ⟨w.heap.size + 1, 2, none⟩ = some (.int .u32 0) := by rw [Blk.cell hR]; rfl
    have r3 : ((w2.alloc (.cells #[.int .i64 (chkV v), .int .i64 (chkS L)] 29)).setRow (w.heap.size + 1) #[.int .u32 0, .int .u32 0, .int .u32 0, .int .u32 0, .int .u32 0, .int .u32 0, .int .u32 0, .int .u32 0]).cell? ⟨w.heap.size + 1, 3, none⟩ = some (.int .u32 0) := by rw [Blk.cell hR]; rfl
    have r4 : ((w2.alloc (.cells #[.int .i64 (chkV v), .int .i64 (chkS L)] 29)).setRow (w.heap.size + 1) #[.int .u32 0, .int .u32 0, .int .u32 0, .int .u32 0, .int .u32 0, .int .u32 0, .int .u32 0, .int .u32 0]).cell? ⟨w.heap.size + 1, 4, none⟩ = some (.int .u32 0) := by rw [Blk.cell hR]; rfl
    have r5 : ((w2.alloc (.cells #[.int .i64 (chkV v), .int .i64 (chkS L)] 29)).setRow (w.heap.size + 1) #[.int .u32 0, .int .u32 0, .int .u32 0, .int .u32 0, .int .u32 0, .int .u32 0, .int .u32 0, .int .u32 0]).cell? ⟨w.heap.size + 1, 5, none⟩ = some (.int .u32 0) := by rw [Blk.cell hR]; rfl
    have r6 : ((w2.alloc (.cells #[.int .i64 (chkV v), .int .i64 (chkS L)] 29)).setRow (w.heap.size + 1) #[.int .u32 0, .int .u32 0, .int .u32 0, .int .u32 0, .int .u32 0, .int .u32 0, .int .u32 0, .int .u32 0]).cell? ⟨w.heap.size + 1, 6, none⟩ = some (.int .u32 0) := by rw [Blk.cell hR]; rfl
    have r7 : ((w2.alloc (.cells #[.int .i64 (chkV v), .int .i64 (chkS L)] 29)).setRow (w.heap.size + 1) #[.int .u32 0, .int .u32 0, .int .u32 0, .int .u32 0, .int .u32 0, .int .u32 0, .int .u32 0, .int .u32 0]).cell? ⟨w.heap.size + 1, 7, none⟩ = some (.int .u32 0) := by rw [Blk.cell hR]; rfl
    refine bodyPost_ret (v := .tuple #[.agg #[.int .u32 0, .int .u32 0, .int .u32 0, .int .u32 0, .int .u32 0, .int .u32 0, .int .u32 0, .int .u32 0], .slice none 0 0, .int .i64 c]) ?_ rfl ⟨none, 0, by rw [HFV.out, HFS.out]; rfl, by rw [HFS.out]; exact Ids.nil _, below_setRow HB2.out (by omega) _⟩
    simp [results, Tryz.results30, go_sem, r0, r1, r2, r3, r4, r5, r6, r7]
end Go.Proofs.YthbdjgebpjffgaaGreatDoor

/-
  What is left of a set folded into a vector: plain mathematics.
  Conditions: none.
-/

namespace Go.Proofs.YthbdjgebpjffgaaGreatDoor
open Go.RowKit

theorem le_grow (v : Nat → Int) (k : Nat) : leV v (setV v k (v k + 1)) = true := leV_iff.2 fun i _ => by
  unfold setV; split
  · rename_i h; subst h; omega
  · exact Int.le_refl _
theorem le_chain {a b c : Nat → Int} (h : leV a b = true) (k : leV b c = true) : leV a c = true := leV_iff.2 fun i hi => Int.le_trans (leV_iff.1 h i hi) (leV_iff.1 k i hi)
theorem has_mono {a b : Nat → Int} (h : leV a b = true) {o q : Int} (k : hasV a o q = true) : hasV b o q = true := by
  unfold hasV at *
  rw [Bool.and_eq_true, decide_eq_true_iff, decide_eq_true_iff] at *
  have := (chk_zero k.1).1
  exact ⟨k.1, Int.le_trans k.2 (leV_iff.1 h o.toNat (by omega))⟩
/-- One step. -/
theorem step_cases (v : Nat → Int) (x : Int × Int) :
    (∃ k : Nat, k < 8 ∧ x = ((k : Int), v k + 1) ∧ okV v = true ∧ chk x.1 x.2 = 0 ∧ (takeV v x.1 x.2).2 = 0 ∧ stepV v x = setV v k (v k + 1)) ∨ (¬ (takeV v x.1 x.2).2 = 0 ∧ stepV v x = v) := by
  by_cases h : (takeV v x.1 x.2).2 = 0
  · obtain ⟨h1, h2, _, h4, h5⟩ := takeV_zero h
    obtain ⟨k, hk, e⟩ := nat_of (chk_zero h2).1
    refine .inl ⟨k, hk, ?_, h1, h2, h, ?_⟩
    · rw [e, Int.toNat_natCast] at h4; exact Prod.ext e h4
    · unfold stepV; rw [if_pos h, h5, h4, e, Int.toNat_natCast]
  · exact .inr ⟨h, by unfold stepV; rw [if_neg h]⟩
theorem step_ok {v : Nat → Int} (h : okV v = true) (x : Int × Int) : okV (stepV v x) = true := by
  rcases step_cases v x with ⟨k, hk, hx, _, hc, _, e⟩ | ⟨_, e⟩
  · rw [e]
    have := chk_zero hc
    refine okV_iff.2 fun i hi => ?_
    have := okV_iff.1 h i hi
    rw [hx] at hc
    have := (chk_zero hc).2
    unfold setV; split <;> omega
  · rw [e]; exact h
theorem step_le (v : Nat → Int) (x : Int × Int) : leV v (stepV v x) = true := by
  rcases step_cases v x with ⟨k, hk, hx, _, _, _, e⟩ | ⟨_, e⟩
  · rw [e]; exact le_grow v k
  · rw [e]; exact leV_iff.2 fun _ _ => Int.le_refl _
theorem step_has {v : Nat → Int} {x : Int × Int} {o q : Int} (h : hasV (stepV v x) o q = true) : hasV v o q = true ∨ (o, q) = x := by
  rcases step_cases v x with ⟨k, hk, hx, _, _, _, e⟩ | ⟨_, e⟩
  · rw [e] at h
    unfold hasV at *
    rw [Bool.and_eq_true, decide_eq_true_iff, decide_eq_true_iff] at *
    obtain ⟨hc, hq⟩ := h
    unfold setV at hq
    split at hq
    · rename_i ho
      have := (chk_zero hc).1
      by_cases eq : q = v k + 1
      · exact .inr (by rw [hx]; exact Prod.ext (by show o = _; omega) eq)
      · refine .inl ⟨hc, ?_⟩; rw [ho]; omega
    · exact .inl ⟨hc, hq⟩
  · rw [e] at h; exact .inl h
theorem step_mine {v : Nat → Int} {x : Int × Int} (h : (takeV v x.1 x.2).2 = 0) : hasV (stepV v x) x.1 x.2 = true := by
  rcases step_cases v x with ⟨k, hk, hx, _, hc, _, e⟩ | ⟨h', _⟩
  · rw [e]; unfold hasV
    rw [Bool.and_eq_true, decide_eq_true_iff, decide_eq_true_iff]
    refine ⟨hc, ?_⟩
    rw [hx]; show v k + 1 ≤ setV v k (v k + 1) ((k : Int)).toNat
    rw [Int.toNat_natCast]; unfold setV; rw [if_pos rfl]; exact Int.le_refl _
  · exact absurd h h'
theorem foldV_cons (v : Nat → Int) (x : Int × Int) (L : List (Int × Int)) : foldV v (x :: L) = foldV (stepV v x) L := rfl
theorem foldV_ok : ∀ (L : List (Int × Int)) {v : Nat → Int}, okV v = true → okV (foldV v L) = true
  | [], _, h => h
  | x :: L, _, h => foldV_ok L (step_ok h x)
theorem foldV_in : ∀ (L : List (Int × Int)) {v : Nat → Int}, InB v → InB (foldV v L)
  | [], _, h => h
  | x :: L, _, h => foldV_in L (stepV_in h x)
theorem foldV_le : ∀ (L : List (Int × Int)) (v : Nat → Int), leV v (foldV v L) = true
  | [], _ => leV_iff.2 fun _ _ => Int.le_refl _
  | x :: L, v => le_chain (step_le v x) (foldV_le L (stepV v x))
theorem foldV_has : ∀ (L : List (Int × Int)) {v : Nat → Int} {o q : Int}, hasV (foldV v L) o q = true → hasV v o q = true ∨ (o, q) ∈ L
  | [], _, _, _, h => .inl h
  | x :: L, v, o, q, h => by
    rcases foldV_has L (v := stepV v x) h with h | h
    · rcases step_has h with h | h
      · exact .inl h
      · exact .inr (by rw [h]; exact List.mem_cons_self ..)
    · exact .inr (List.mem_cons_of_mem _ h)
/-- Nothing that comes later of an origin fills a gap before it. -/
theorem foldV_gap {o q : Int} (ho : 0 ≤ o) : ∀ (L : List (Int × Int)) {v : Nat → Int}, v o.toNat + 1 < q → (∀ z ∈ L, z.1 = o → q < z.2) → foldV v L o.toNat = v o.toNat
  | [], _, _, _ => rfl
  | x :: L, v, h, hz => by
    have hs : stepV v x o.toNat = v o.toNat := by
      rcases step_cases v x with ⟨k, hk, hx, _, _, _, e⟩ | ⟨_, e⟩
      · rw [e]; unfold setV; split
        · rename_i hk'
          have := hz x (List.mem_cons_self ..) (by rw [hx]; show (k : Int) = o; omega)
          rw [hx, ← hk'] at this
          have : q < v o.toNat + 1 := this
          omega
        · rfl
      · rw [e]
    rw [foldV_cons, foldV_gap ho L (by rw [hs]; exact h) fun z hm => hz z (List.mem_cons_of_mem _ hm), hs]
theorem foldV_left : ∀ (L : List (Int × Int)) {v : Nat → Int}, okV v = true → valS L = true → Asc L → ∀ x ∈ L, hasV (foldV v L) x.1 x.2 = false → ¬ x.2 = foldV v L x.1.toNat + 1
  | [], _, _, _, _, x, hx, _ => absurd hx (by simp)
  | y :: L, v, hok, hval, hasc, x, hx, hn => by
    obtain ⟨a1, a2⟩ := List.pairwise_cons.1 hasc
    have hvL : valS L = true := by
      unfold valS at hval ⊢
      rw [List.all_cons, Bool.and_eq_true] at hval
      exact hval.2
    rcases List.mem_cons.1 hx with rfl | hx
    · have hcx := valS_mem hval (List.mem_cons_self ..)
      have hr := (chk_zero hcx).1
      rw [foldV_cons] at hn ⊢
      by_cases ht : (takeV v x.1 x.2).2 = 0
      · rw [has_mono (foldV_le L _) (step_mine ht)] at hn; exact absurd hn (by decide)
      · have hst : stepV v x = v := by unfold stepV; rw [if_neg ht]
        rw [hst] at hn ⊢
        have hnv : ¬ hasV v x.1 x.2 = true := fun h => by rw [has_mono (foldV_le L _) h] at hn; exact absurd hn (by decide)
        have h1 : ¬ x.2 = v x.1.toNat + 1 := fun e => ht (by
          unfold takeV; rw [if_pos hok, if_pos hcx, if_neg hnv, if_pos e])
        have h2 : ¬ x.2 ≤ v x.1.toNat := fun h => hnv (by
          unfold hasV; rw [Bool.and_eq_true, decide_eq_true_iff, decide_eq_true_iff]; exact ⟨hcx, h⟩)
        rw [foldV_gap (q := x.2) hr.1 L (by omega) fun z hz e => by
          have := cf_lt.1 (a1 z hz); omega]
        exact h1
    · rw [foldV_cons] at hn ⊢
      exact foldV_left L (step_ok hok y) hvL a2 x hx hn
theorem foldV_stay : ∀ (L : List (Int × Int)) {v : Nat → Int}, (∀ x ∈ L, ¬ (takeV v x.1 x.2).2 = 0) → foldV v L = v
  | [], _, _ => rfl
  | x :: L, v, h => by
    have hst : stepV v x = v := by unfold stepV; rw [if_neg (h x (List.mem_cons_self ..))]
    rw [foldV_cons, hst]
    exact foldV_stay L fun z hz => h z (List.mem_cons_of_mem _ hz)

/-- What Fold leaves of a set. -/
structure Remn (v : Nat → Int) (A : List (Int × Int)) : Prop where
  c : foC v A = 0
  le : leV v (foV v A) = true
  inb : InB (foV v A)
  len : (foS v A).length ≤ 64
  has : ∀ o q, (hasV v o q || hasS A (o, q)) = (hasV (foV v A) o q || hasS (foS v A) (o, q))
  one : ∀ o q, (hasV (foV v A) o q && hasS (foS v A) (o, q)) = false
  gap : ∀ (k : Nat) (o q : Int), (foS v A)[k]? = some (o, q) → takeV (foV v A) o q = (zV, 17)
  c2 : foC (foV v A) (foS v A) = 0
  v2 : foV (foV v A) (foS v A) = foV v A
  s2 : foS (foV v A) (foS v A) = foS v A
theorem left_of {v : Nat → Int} {A : List (Int × Int)} (hv : chkV v = 0) (hin : InB v) (hA : chkS A = 0) : Remn v A := by
  have hok : okV v = true := by
    unfold chkV at hv
    by_cases h : okV v = true
    · exact h
    · rw [if_neg h] at hv; exact absurd hv (by decide)
  obtain ⟨a1, a2, a3⟩ := chkS_zero hA
  have hc : foC v A = 0 := by unfold foC; rw [hv]; exact hA
  have eV : foV v A = foldV v A := by unfold foV; rw [if_pos hc]
  have eS : foS v A = byS (foldV v A) A := by unfold foS; rw [if_pos hc]
  have ok2 := foldV_ok A hok
  have mem : ∀ x, x ∈ byS (foldV v A) A ↔ x ∈ A ∧ hasV (foldV v A) x.1 x.2 = false := by
    intro x; unfold byS; rw [List.mem_filter]; simp
  have hgap : ∀ x, x ∈ byS (foldV v A) A → takeV (foldV v A) x.1 x.2 = (zV, 17) := by
    intro x hx
    obtain ⟨m1, m2⟩ := (mem x).1 hx
    have := foldV_left A hok a2 a3 x m1 m2
    unfold takeV
    rw [if_pos ok2, if_pos (valS_mem a2 m1), if_neg (by rw [m2]; decide), if_neg this]
  have hlen : (byS (foldV v A) A).length ≤ 64 := Nat.le_trans (List.length_filter_le _ _) a1
  have hval : valS (byS (foldV v A) A) = true := by
    unfold valS; rw [List.all_eq_true]
    intro x hx
    have := valS_mem a2 ((mem x).1 hx).1
    simpa [okI] using this
  have hasc : Asc (byS (foldV v A) A) := List.Pairwise.sublist (List.filter_sublist) a3
  have hc2 : foC (foldV v A) (byS (foldV v A) A) = 0 := by
    unfold foC; rw [chkV_yes ok2]; exact chkS_ok (by omega) hval hasc
  have hst : foldV (foldV v A) (byS (foldV v A) A) = foldV v A := foldV_stay _ fun x hx => by rw [hgap x hx]; decide
  refine ⟨hc, ?_, ?_, ?_, ?_, ?_, ?_, ?_, ?_, ?_⟩
  · rw [eV]; exact foldV_le A v
  · rw [eV]; exact foldV_in A hin
  · rw [eS]; exact hlen
  · intro o q
    rw [eV, eS, Bool.eq_iff_iff, Bool.or_eq_true, Bool.or_eq_true]
    unfold hasS
    rw [decide_eq_true_iff, decide_eq_true_iff, mem]
    constructor
    · rintro (h | h)
      · exact .inl (has_mono (foldV_le A v) h)
      · by_cases hh : hasV (foldV v A) o q = true
        · exact .inl hh
        · exact .inr ⟨h, by simpa using hh⟩
    · rintro (h | h)
      · exact foldV_has A h
      · exact .inr h.1
  · intro o q
    rw [eV, eS]
    unfold hasS
    cases hh : hasV (foldV v A) o q
    · rfl
    · rw [Bool.true_and, decide_eq_false_iff_not, mem]
      rintro ⟨_, h⟩
      rw [hh] at h; exact absurd h (by decide)
  · intro k o q hk
    rw [eV]; rw [eS] at hk
    exact hgap (o, q) (List.mem_of_getElem? hk)
  · rw [eV, eS]; exact hc2
  · rw [eV, eS]; unfold foV; rw [if_pos hc2]; exact hst
  · rw [eV, eS]; unfold foS; rw [if_pos hc2, hst]
    unfold byS; rw [List.filter_filter]
    congr 1; funext x; simp
end Go.Proofs.YthbdjgebpjffgaaGreatDoor

/-
  Cuts in plain mathematics: what Make makes of a vector and a list, what a cut is, what it knows, and how two stand. They speak of no program.
  Conditions: none.
-/

namespace Go.Proofs.YthbdjgebpjffgaaGreatDoor
open Go.RowKit

/-- What Make tells of a vector and a list: what is wrong; the vector; the list. -/
def cmC (v : Nat → Int) (L : List (Int × Int)) : Int := orZ (chkV v) (mkC L)
def cmV (v : Nat → Int) (L : List (Int × Int)) : Nat → Int := if cmC v L = 0 then foV v (mkR L) else zV
def cmS (v : Nat → Int) (L : List (Int × Int)) : List (Int × Int) := if cmC v L = 0 then foS v (mkR L) else []
/-- Are two the same? -/
def eqC (a : Nat → Int) (A : List (Int × Int)) (b : Nat → Int) (B : List (Int × Int)) : Bool := eqV a b && decide (A = B)
/-- Is a name known? -/
def hasC (v : Nat → Int) (L : List (Int × Int)) (o q : Int) : Bool := hasV v o q || hasS L (o, q)
/-- Is all that the one knows known by the other? -/
def leC (a : Nat → Int) (A : List (Int × Int)) (b : Nat → Int) (B : List (Int × Int)) : Bool := leV a b && A.all fun x => hasC b B x.1 x.2
/-- A cut. -/
structure IsC (v : Nat → Int) (L : List (Int × Int)) : Prop where
  v0 : chkV v = 0
  s0 : chkS L = 0
  fv : eqV (foV v L) v = true
  fs : foS v L = L

theorem eqV_refl (a : Nat → Int) : eqV a a = true := eqV_iff.2 fun _ _ => rfl
theorem orZ_zero {a b : Int} (h : orZ a b = 0) : a = 0 ∧ b = 0 := by
  unfold orZ at h
  by_cases h1 : a = 0
  · rw [if_pos h1] at h; exact ⟨h1, h⟩
  · rw [if_neg h1] at h; exact absurd h h1
theorem orZ_both {a b : Int} (h : a = 0) (k : b = 0) : orZ a b = 0 := by unfold orZ; rw [if_pos h]; exact k
theorem okV_of {v : Nat → Int} (h : chkV v = 0) : okV v = true := by
  unfold chkV at h
  by_cases h1 : okV v = true
  · exact h1
  · rw [if_neg h1] at h; exact absurd h (by decide)
theorem cm_zero {v : Nat → Int} {L : List (Int × Int)} (h : cmC v L = 0) : chkV v = 0 ∧ mkC L = 0 := orZ_zero h
theorem cm_parts {v : Nat → Int} {L : List (Int × Int)} (h : cmC v L = 0) : cmV v L = foV v (setS L) ∧ cmS v L = foS v (setS L) := by
  have hm := (mkC_zero (cm_zero h).2).2.2.1
  unfold cmV cmS
  rw [if_pos h, if_pos h, hm]; exact ⟨rfl, rfl⟩
theorem cm_left {v : Nat → Int} {L : List (Int × Int)} (hin : InB v) (h : cmC v L = 0) : Remn v (setS L) := left_of (cm_zero h).1 hin (mkC_zero (cm_zero h).2).2.2.2
theorem cm_in {v : Nat → Int} (L : List (Int × Int)) (hin : InB v) : InB (cmV v L) := by
  by_cases h : cmC v L = 0
  · rw [(cm_parts h).1]; exact (cm_left hin h).inb
  · unfold cmV; rw [if_neg h]; intro i _; unfold zV; omega
theorem cm_len {v : Nat → Int} (L : List (Int × Int)) (hin : InB v) : (cmS v L).length ≤ 64 := by
  by_cases h : cmC v L = 0
  · rw [(cm_parts h).2]; exact (cm_left hin h).len
  · unfold cmS; rw [if_neg h]; simp
theorem cm_is {v : Nat → Int} {L : List (Int × Int)} (hin : InB v) (h : cmC v L = 0) : IsC (cmV v L) (cmS v L) := by
  obtain ⟨e1, e2⟩ := cm_parts h
  have hR := cm_left hin h
  obtain ⟨c1, c2⟩ := fo_zero hR.c2
  rw [e1, e2]
  exact ⟨c1, c2, by rw [hR.v2]; exact eqV_refl _, hR.s2⟩
theorem cm_has {v : Nat → Int} {L : List (Int × Int)} (hin : InB v) (h : cmC v L = 0) (o q : Int) : hasC (cmV v L) (cmS v L) o q = hasC v L o q := by
  obtain ⟨e1, e2⟩ := cm_parts h
  unfold hasC
  rw [e1, e2, ← (cm_left hin h).has o q]
  congr 1
  unfold hasS
  rw [Bool.eq_iff_iff, decide_eq_true_iff, decide_eq_true_iff, setS_mem]
theorem cm_le {v : Nat → Int} {L : List (Int × Int)} (hin : InB v) (h : cmC v L = 0) : leV v (cmV v L) = true := by
  rw [(cm_parts h).1]; exact (cm_left hin h).le
theorem is_set {L : List (Int × Int)} (h : chkS L = 0) : mkC L = 0 ∧ mkR L = L ∧ setS L = L := by
  obtain ⟨h1, h2, h3⟩ := chkS_zero h
  have e := setS_same h3
  obtain ⟨m1, m2⟩ := mkC_ok (L := L) (by omega) h2 (by rw [e]; omega)
  exact ⟨m1, by rw [m2, e], e⟩
theorem is_self {v : Nat → Int} {L : List (Int × Int)} (h : IsC v L) : cmC v L = 0 ∧ eqC (cmV v L) (cmS v L) v L = true := by
  obtain ⟨m1, m2, m3⟩ := is_set h.s0
  have hc : cmC v L = 0 := orZ_both h.v0 m1
  obtain ⟨e1, e2⟩ := cm_parts hc
  refine ⟨hc, ?_⟩
  unfold eqC
  rw [e1, e2, m3, h.fv, h.fs, decide_eq_true rfl]; rfl
theorem eqC_iff {a b : Nat → Int} {A B : List (Int × Int)} : eqC a A b B = true ↔ eqV a b = true ∧ A = B := by
  unfold eqC; rw [Bool.and_eq_true, decide_eq_true_iff]
theorem is_of {v : Nat → Int} {L : List (Int × Int)} (hin : InB v) (h : cmC v L = 0) (k : eqC (cmV v L) (cmS v L) v L = true) : IsC v L := by
  obtain ⟨k1, k2⟩ := eqC_iff.1 k
  have hI := cm_is hin h
  have hs : chkS L = 0 := by rw [← k2]; exact hI.s0
  obtain ⟨_, _, m3⟩ := is_set hs
  obtain ⟨e1, e2⟩ := cm_parts h
  rw [m3] at e1 e2
  exact ⟨(cm_zero h).1, hs, by rw [← e1]; exact k1, by rw [← e2]; exact k2⟩

/-! ### What is known -/
theorem is_beyond {v : Nat → Int} {L : List (Int × Int)} (h : IsC v L) {o q : Int} (hx : (o, q) ∈ L) : hasV v o q = false := by
  have hc : foC v L = 0 := by unfold foC; rw [h.v0]; exact h.s0
  have hf := h.fs
  unfold foS at hf; rw [if_pos hc] at hf
  rw [← hf] at hx
  unfold byS at hx
  have hn := (List.mem_filter.1 hx).2
  cases e : hasV v o q
  · rfl
  · have := has_mono (foldV_le L v) e
    simp only [this] at hn
    exact absurd hn (by decide)
theorem is_gap {v : Nat → Int} {L : List (Int × Int)} (h : IsC v L) {k : Nat} (hk : k < 8) : hasC v L (k : Int) (v k + 1) = false := by
  unfold hasC
  rw [Bool.or_eq_false_iff]
  have h1 : hasV v (k : Int) (v k + 1) = false := by
    unfold hasV
    rw [Int.toNat_natCast, decide_eq_false (p := v k + 1 ≤ v k) (by omega), Bool.and_false]
  refine ⟨h1, ?_⟩
  unfold hasS; rw [decide_eq_false_iff_not]
  intro hx
  have hc : foC v L = 0 := by unfold foC; rw [h.v0]; exact h.s0
  obtain ⟨_, a2, a3⟩ := chkS_zero h.s0
  have hv := h.fv
  have hf := h.fs
  unfold foV at hv; rw [if_pos hc] at hv
  unfold foS at hf; rw [if_pos hc] at hf
  have hn : hasV (foldV v L) (k : Int) (v k + 1) = false := by
    rw [← hf] at hx
    unfold byS at hx
    simpa using (List.mem_filter.1 hx).2
  refine foldV_left L (okV_of h.v0) a2 a3 _ hx hn ?_
  show v k + 1 = foldV v L ((k : Int)).toNat + 1
  rw [Int.toNat_natCast, eqV_iff.1 hv k hk]
theorem hasC_set {v : Nat → Int} {L : List (Int × Int)} {o q : Int} (h : (o, q) ∈ L) : hasC v L o q = true := by
  unfold hasC hasS; rw [decide_eq_true h, Bool.or_true]
theorem hasC_vec {v : Nat → Int} {L : List (Int × Int)} {o q : Int} (h : hasV v o q = true) : hasC v L o q = true := by unfold hasC; rw [h]; rfl
theorem leC_iff {a b : Nat → Int} {A B : List (Int × Int)} : leC a A b B = true ↔ leV a b = true ∧ ∀ o q, (o, q) ∈ A → hasC b B o q = true := by
  unfold leC
  rw [Bool.and_eq_true, List.all_eq_true]
  exact ⟨fun ⟨h1, h2⟩ => ⟨h1, fun o q hx => h2 (o, q) hx⟩, fun ⟨h1, h2⟩ => ⟨h1, fun x hx => h2 x.1 x.2 hx⟩⟩
theorem le_knows {a b : Nat → Int} {A B : List (Int × Int)} (h : leC a A b B = true) {o q : Int} (k : hasC a A o q = true) : hasC b B o q = true := by
  obtain ⟨h1, h2⟩ := leC_iff.1 h
  unfold hasC at k
  rw [Bool.or_eq_true] at k
  rcases k with k | k
  · exact hasC_vec (has_mono h1 k)
  · unfold hasS at k; exact h2 o q (decide_eq_true_iff.1 k)
theorem le_self (a : Nat → Int) (A : List (Int × Int)) : leC a A a A = true := leC_iff.2 ⟨leV_iff.2 fun _ _ => Int.le_refl _, fun _ _ h => hasC_set h⟩
theorem le_tra {a b c : Nat → Int} {A B C : List (Int × Int)} (h : leC a A b B = true) (k : leC b B c C = true) : leC a A c C = true :=
  leC_iff.2 ⟨le_chain (leC_iff.1 h).1 (leC_iff.1 k).1, fun o q hx => le_knows k ((leC_iff.1 h).2 o q hx)⟩
theorem le_anti {a b : Nat → Int} {A B : List (Int × Int)} (hA : IsC a A) (hB : IsC b B) (h : leC a A b B = true) (k : leC b B a A = true) : eqC a A b B = true := by
  obtain ⟨h1, h2⟩ := leC_iff.1 h
  obtain ⟨k1, k2⟩ := leC_iff.1 k
  refine eqC_iff.2 ⟨eqV_iff.2 fun i hi => Int.le_antisymm (leV_iff.1 h1 i hi) (leV_iff.1 k1 i hi), ?_⟩
  refine asc_unique (chkS_zero hA.s0).2.2 (chkS_zero hB.s0).2.2 fun x => ⟨fun hx => ?_, fun hx => ?_⟩
  · have := h2 x.1 x.2 hx
    unfold hasC at this
    rw [Bool.or_eq_true] at this
    rcases this with t | t
    · have := has_mono k1 t
      rw [is_beyond hA (o := x.1) (q := x.2) hx] at this; exact absurd this (by decide)
    · unfold hasS at t; exact decide_eq_true_iff.1 t
  · have := k2 x.1 x.2 hx
    unfold hasC at this
    rw [Bool.or_eq_true] at this
    rcases this with t | t
    · have := has_mono h1 t
      rw [is_beyond hB (o := x.1) (q := x.2) hx] at this; exact absurd this (by decide)
    · unfold hasS at t; exact decide_eq_true_iff.1 t
theorem le_eq {a b : Nat → Int} {A B : List (Int × Int)} (h : eqC a A b B = true) : leC a A b B = true ∧ leC b B a A = true := by
  obtain ⟨h1, rfl⟩ := eqC_iff.1 h
  have e := eqV_iff.1 h1
  exact ⟨leC_iff.2 ⟨leV_iff.2 fun i hi => Int.le_of_eq (e i hi), fun _ _ h => hasC_set h⟩, leC_iff.2 ⟨leV_iff.2 fun i hi => Int.le_of_eq (e i hi).symm, fun _ _ h => hasC_set h⟩⟩
theorem le_both {a b : Nat → Int} {A B : List (Int × Int)} (hA : IsC a A) (hB : IsC b B) : (leC a A b B && leC b B a A) = eqC a A b B := by
  rw [Bool.eq_iff_iff, Bool.and_eq_true]
  exact ⟨fun ⟨h, k⟩ => le_anti hA hB h k, fun h => le_eq h⟩

/-! ### Two together; one with one more -/
theorem join_in {a b : Nat → Int} (ha : InB a) (hb : InB b) : InB (joinV a b) := fun i hi => by
  have := ha i hi
  have := hb i hi
  unfold joinV; split <;> omega
theorem join_left (a b : Nat → Int) : leV a (joinV a b) = true := leV_iff.2 fun i _ => by unfold joinV; split <;> omega
theorem join_right (a b : Nat → Int) : leV b (joinV a b) = true := leV_iff.2 fun i _ => by unfold joinV; split <;> omega
theorem join_has (a b : Nat → Int) (o q : Int) : hasV (joinV a b) o q = (hasV a o q || hasV b o q) := by
  unfold hasV joinV
  rw [Bool.eq_iff_iff, Bool.or_eq_true, Bool.and_eq_true, Bool.and_eq_true, Bool.and_eq_true, decide_eq_true_iff, decide_eq_true_iff, decide_eq_true_iff, decide_eq_true_iff]
  split
  · constructor
    · rintro ⟨h1, h2⟩; exact .inr ⟨h1, h2⟩
    · rintro (⟨h1, h2⟩ | ⟨h1, h2⟩) <;> exact ⟨h1, by omega⟩
  · constructor
    · rintro ⟨h1, h2⟩; exact .inl ⟨h1, h2⟩
    · rintro (⟨h1, h2⟩ | ⟨h1, h2⟩) <;> exact ⟨h1, by omega⟩
theorem hasS_app (A B : List (Int × Int)) (x : Int × Int) : hasS (A ++ B) x = (hasS A x || hasS B x) := by
  unfold hasS
  rw [Bool.eq_iff_iff, Bool.or_eq_true, decide_eq_true_iff, decide_eq_true_iff, decide_eq_true_iff, List.mem_append]
/-- What Join makes. -/
theorem jo_facts {a b : Nat → Int} {A B : List (Int × Int)} (ha : InB a) (hb : InB b) (h : cmC (joinV a b) (A ++ B) = 0) :
    IsC (cmV (joinV a b) (A ++ B)) (cmS (joinV a b) (A ++ B)) ∧ (∀ o q, hasC (cmV (joinV a b) (A ++ B)) (cmS (joinV a b) (A ++ B)) o q = (hasC a A o q || hasC b B o q)) ∧
    leC a A (cmV (joinV a b) (A ++ B)) (cmS (joinV a b) (A ++ B)) = true ∧ leC b B (cmV (joinV a b) (A ++ B)) (cmS (joinV a b) (A ++ B)) = true := by
  have hin := join_in ha hb
  have hh : ∀ o q, hasC (cmV (joinV a b) (A ++ B)) (cmS (joinV a b) (A ++ B)) o q = (hasC a A o q || hasC b B o q) := fun o q => by
    rw [cm_has hin h]
    unfold hasC
    rw [join_has, hasS_app]
    cases hasV a o q <;> cases hasV b o q <;> cases hasS A (o, q) <;> cases hasS B (o, q) <;> rfl
  refine ⟨cm_is hin h, hh, leC_iff.2 ⟨le_chain (join_left a b) (cm_le hin h), fun o q hx => ?_⟩, leC_iff.2 ⟨le_chain (join_right a b) (cm_le hin h), fun o q hx => ?_⟩⟩
  · rw [hh, hasC_set hx]; rfl
  · rw [hh, hasC_set hx, Bool.or_true]
/-- What Add makes. -/
theorem ad_facts {a : Nat → Int} {A : List (Int × Int)} {o q : Int} (ha : InB a) (hn : hasC a A o q = false) (h : cmC a (A ++ [(o, q)]) = 0) :
    IsC (cmV a (A ++ [(o, q)])) (cmS a (A ++ [(o, q)])) ∧ hasC (cmV a (A ++ [(o, q)])) (cmS a (A ++ [(o, q)])) o q = true ∧
    leC a A (cmV a (A ++ [(o, q)])) (cmS a (A ++ [(o, q)])) = true ∧ leC (cmV a (A ++ [(o, q)])) (cmS a (A ++ [(o, q)])) a A = false := by
  have hh : hasC (cmV a (A ++ [(o, q)])) (cmS a (A ++ [(o, q)])) o q = true := by
    rw [cm_has ha h]; exact hasC_set (by simp)
  refine ⟨cm_is ha h, hh, leC_iff.2 ⟨cm_le ha h, fun x y hx => ?_⟩, ?_⟩
  · rw [cm_has ha h]; exact hasC_set (by simp [hx])
  · cases e : leC (cmV a (A ++ [(o, q)])) (cmS a (A ++ [(o, q)])) a A
    · rfl
    · rw [le_knows e hh] at hn; exact absurd hn (by decide)
end Go.Proofs.YthbdjgebpjffgaaGreatDoor
