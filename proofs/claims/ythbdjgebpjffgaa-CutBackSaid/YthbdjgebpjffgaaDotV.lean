/-
  Package dots' Fold.
  Conditions: none.
-/
import Derived.Test.YthbdjgebpjffgaaDotU
set_option linter.unusedVariables false
set_option linter.unusedSimpArgs false
namespace Go.Proofs.Ythbdjgebpjffgaa
open Go.RowKit Go.Shelf Go.Lib Go.Sort

/-- A vector with what of a list goes on from it. -/
def stepV (v : Nat → Int) (x : Int × Int) : Nat → Int := if (takeV v x.1 x.2).2 = 0 then (takeV v x.1 x.2).1 else v
def foldV (v : Nat → Int) (L : List (Int × Int)) : Nat → Int := L.foldl stepV v
def foC (v : Nat → Int) (L : List (Int × Int)) : Int := orZ (chkV v) (chkS L)
def InB (v : Nat → Int) : Prop := ∀ i, i < 8 → 0 ≤ v i ∧ v i ≤ 4294967295
theorem stepV_no {v : Nat → Int} {o q : Int} {u : Nat → Int} {c : Int} (h : takeV v o q = (u, c)) (hc : ¬ c = 0) : stepV v (o, q) = v := by unfold stepV; rw [h, if_neg hc]
theorem stepV_yes {v : Nat → Int} {o q : Int} {u : Nat → Int} (h : takeV v o q = (u, 0)) : stepV v (o, q) = u := by unfold stepV; rw [h, if_pos rfl]
theorem takeV_zero {v : Nat → Int} {o q : Int} (h : (takeV v o q).2 = 0) : okV v = true ∧ chk o q = 0 ∧ hasV v o q = false ∧ q = v o.toNat + 1 ∧ (takeV v o q).1 = setV v o.toNat q := by
  unfold takeV at h ⊢
  by_cases h1 : okV v = true
  · rw [if_pos h1] at h ⊢
    by_cases h2 : chk o q = 0
    · rw [if_pos h2] at h ⊢
      by_cases h3 : hasV v o q = true
      · rw [if_pos h3] at h; exact absurd h (by decide)
      · rw [if_neg h3] at h ⊢
        by_cases h4 : q = v o.toNat + 1
        · rw [if_pos h4] at h ⊢
          exact ⟨h1, h2, by simpa using h3, h4, rfl⟩
        · rw [if_neg h4] at h; exact absurd h (by decide)
    · rw [if_neg h2] at h; exact absurd h (by decide)
  · rw [if_neg h1] at h; exact absurd h (by decide)
theorem stepV_in {v : Nat → Int} (h : InB v) (x : Int × Int) : InB (stepV v x) := by
  unfold stepV
  split
  · rename_i hc
    obtain ⟨h1, h2, h3, h4, h5⟩ := takeV_zero hc
    rw [h5]
    have := chk_zero h2
    intro i hi
    unfold setV
    split
    · omega
    · exact h i hi
  · exact h
theorem fold_take {v : Nat → Int} {L : List (Int × Int)} {k : Nat} {x : Int × Int} (hx : L[k]? = some x) : foldV v (L.take (k + 1)) = stepV (foldV v (L.take k)) x := by
  have hk := (List.getElem?_eq_some_iff.1 hx).1
  have e := (List.getElem?_eq_some_iff.1 hx).2
  unfold foldV
  rw [List.take_succ_eq_append_getElem hk, e, List.foldl_append]; rfl
theorem take_val {v u : Nat → Int} {o q c : Int} (h : takeV v o q = (u, c)) (hv : InB v) (w : World) :
    Calls Try.prog 64 #[.agg #[.int .u32 (v 0), .int .u32 (v 1), .int .u32 (v 2), .int .u32 (v 3), .int .u32 (v 4), .int .u32 (v 5), .int .u32 (v 6), .int .u32 (v 7)], .agg #[.int .i64 o, .int .u32 q]] w fun e w' => e = .returned (.tuple #[.agg #[.int .u32 (u 0), .int .u32 (u 1), .int .u32 (u 2), .int .u32 (u 3), .int .u32 (u 4), .int .u32 (u 5), .int .u32 (u 6), .int .u32 (u 7)], .int .i64 c]) ∧ Below w.heap.size w w' :=
  (take_any v o q w hv).mono fun _ _ ⟨h1, h2⟩ => ⟨by rw [h1, h], h2⟩
theorem fo_zero {v : Nat → Int} {L : List (Int × Int)} (h : foC v L = 0) : chkV v = 0 ∧ chkS L = 0 := by
  unfold foC orZ at h
  by_cases h1 : chkV v = 0
  · rw [if_pos h1] at h; exact ⟨h1, h⟩
  · rw [if_neg h1] at h; exact absurd h h1
def foV (v : Nat → Int) (L : List (Int × Int)) : Nat → Int := if foC v L = 0 then foldV v L else zV
def foS (v : Nat → Int) (L : List (Int × Int)) : List (Int × Int) := if foC v L = 0 then byS (foldV v L) L else []

theorem ids_row {w : World} {al : Option Addr} {len cap g : Nat} {L : List (Int × Int)} (h : Ids w al len cap L) (hz : Blk w g #[.int .u32 0, .int .u32 0, .int .u32 0, .int .u32 0, .int .u32 0, .int .u32 0, .int .u32 0, .int .u32 0] 24) (cs : Array Value) : Ids (w.setRow g cs) al len cap L :=
  ⟨h.ln, h.fit, h.bd, h.nn, fun k hk => by
    obtain ⟨b, off, o, q, h1, h2, h3, h4⟩ := h.nth k hk
    have hb : b ≠ g := by
      intro e
      subst e
      rw [Blk.cell hz] at h3
      generalize off + k * 2 = j at h3
      match j, h3 with
      | 0, h3 => simp at h3
      | 1, h3 => simp at h3
      | 2, h3 => simp at h3
      | 3, h3 => simp at h3
      | 4, h3 => simp at h3
      | 5, h3 => simp at h3
      | 6, h3 => simp at h3
      | 7, h3 => simp at h3
      | j + 8, h3 => simp at h3
    have e1 : (w.setRow g cs).heap[b]? = w.heap[b]? := setRow_other _ _ _ _ (fun e => hb e)
    exact ⟨b, off, o, q, h1, h2, (World.cell?_of_block (a := ⟨b, off + k * 2, none⟩) e1).trans h3, (World.cell?_of_block (a := ⟨b, off + k * 2 + 1, none⟩) e1).trans h4⟩⟩

set_option maxRecDepth 100000 in
set_option maxHeartbeats 4000000 in
theorem fold_any (al : Option Addr) (len cap : Nat) (L : List (Int × Int)) (v : Nat → Int) (w : World) (hL : Ids w al len cap L) (hv : InB v) :
    Calls Try.prog 34 #[.agg #[.int .u32 (v 0), .int .u32 (v 1), .int .u32 (v 2), .int .u32 (v 3), .int .u32 (v 4), .int .u32 (v 5), .int .u32 (v 6), .int .u32 (v 7)], .slice al len cap] w fun e w' => ∃ al2 cap2, e = .returned (.tuple #[.agg #[.int .u32 (foV v L 0), .int .u32 (foV v L 1), .int .u32 (foV v L 2), .int .u32 (foV v L 3), .int .u32 (foV v L 4), .int .u32 (foV v L 5), .int .u32 (foV v L 6), .int .u32 (foV v L 7)], .slice al2 (foS v L).length cap2, .int .i64 (foC v L)]) ∧ Ids w' al2 (foS v L).length cap2 (foS v L) ∧ Below w.heap.size w w' := by
  have hb0 : Below w.heap.size w ((w.alloc (.cells #[.int .u32 (v 0), .int .u32 (v 1), .int .u32 (v 2), .int .u32 (v 3), .int .u32 (v 4), .int .u32 (v 5), .int .u32 (v 6), .int .u32 (v 7)] 24)).alloc (.cells #[.int .u32 0, .int .u32 0, .int .u32 0, .int .u32 0, .int .u32 0, .int .u32 0, .int .u32 0, .int .u32 0] 24)) := below_new ((Below.refl w.heap.size w).alloc (Nat.le_refl _) _) _
  have HL := Lib.hid hL
  have hbv : Blk ((w.alloc (.cells #[.int .u32 (v 0), .int .u32 (v 1), .int .u32 (v 2), .int .u32 (v 3), .int .u32 (v 4), .int .u32 (v 5), .int .u32 (v 6), .int .u32 (v 7)] 24)).alloc (.cells #[.int .u32 0, .int .u32 0, .int .u32 0, .int .u32 0, .int .u32 0, .int .u32 0, .int .u32 0, .int .u32 0] 24)) w.heap.size #[.int .u32 (v 0), .int .u32 (v 1), .int .u32 (v 2), .int .u32 (v 3), .int .u32 (v 4), .int .u32 (v 5), .int .u32 (v 6), .int .u32 (v 7)] 24 := (Blk.new w _ _).alloc _
  have hbz : Blk ((w.alloc (.cells #[.int .u32 (v 0), .int .u32 (v 1), .int .u32 (v 2), .int .u32 (v 3), .int .u32 (v 4), .int .u32 (v 5), .int .u32 (v 6), .int .u32 (v 7)] 24)).alloc (.cells #[.int .u32 0, .int .u32 0, .int .u32 0, .int .u32 0, .int .u32 0, .int .u32 0, .int .u32 0, .int .u32 0] 24)) (w.heap.size + 1) #[.int .u32 0, .int .u32 0, .int .u32 0, .int .u32 0, .int .u32 0, .int .u32 0, .int .u32 0, .int .u32 0] 24 := by
    have := Blk.new (w.alloc (.cells #[.int .u32 (v 0), .int .u32 (v 1), .int .u32 (v 2), .int .u32 (v 3), .int .u32 (v 4), .int .u32 (v 5), .int .u32 (v 6), .int .u32 (v 7)] 24)) #[.int .u32 0, .int .u32 0, .int .u32 0, .int .u32 0, .int .u32 0, .int .u32 0, .int .u32 0, .int .u32 0] 24
    simpa using this
  have HV0 := Lib.hid hbv
  have HZ0 := Lib.hid hbz
  have HB0 := Lib.hid hb0
  clear hbv hbz hb0
  by_cases hc : foC v L = 0
  · obtain ⟨c1, c2⟩ := fo_zero hc
    have HC1 := Lib.hid c1
    have HC2 := Lib.hid c2
    have HFV : Hid (foV v L = foldV v L) := Lib.hid (by unfold foV; rw [if_pos hc])
    have HFS : Hid (foS v L = byS (foldV v L) L) := Lib.hid (by unfold foS; rw [if_pos hc])
    have HC := Lib.hid hc
    have hlen : len ≤ 64 := by
      have := (chkS_zero c2).1
      have := hL.ln
      omega
    have hcap := hL.bd
    have hfit := hL.fit
    have HLL := Lib.hid hL.ln
    have HIN := Lib.hid hv
    clear hL hc c1 c2 hv
    go_enter Try.func34, Try.ntmps34
    go_wp2_with fail
    refine (vCheck_any v _).mono ?_
    rw [HC1.out]
    rintro e w1 ⟨rfl, b1⟩
    have HV1 := Lib.hid (HV0.out.below b1)
    have HZ1 := Lib.hid (HZ0.out.below b1)
    have HB1 := Lib.hid (below_then HB0.out b1); clear b1
    go_wp2_with fail
    refine (dCheck_any al len cap L _ (HL.out.below HB1.out)).mono ?_
    rw [HC2.out]
    rintro e w2 ⟨rfl, b2⟩
    have HV2 := Lib.hid ((HV1.out.below b2).alloc (.cells #[.int .i64 0, .int .i64 0] 32))
    have HZ2 := Lib.hid ((HZ1.out.below b2).alloc (.cells #[.int .i64 0, .int .i64 0] 32))
    have HB2 := Lib.hid (below_new (below_then HB1.out b2) (.cells #[.int .i64 0, .int .i64 0] 32)); clear b2
    go_wp2_with fail
    refine (orE_any w2.heap.size 0 0 _ (Blk.new _ _ _)).mono ?_
    rw [show orZ 0 0 = 0 from rfl]
    rintro e w3 ⟨rfl, rfl⟩
    go_wp2
    go_loopw [26] (fun s26 wr => ∃ k : Nat, s26 = .int .i64 k ∧ k ≤ len ∧ InB (foldV v (L.take k)) ∧ Blk wr w.heap.size #[.int .u32 (foldV v (L.take k) 0), .int .u32 (foldV v (L.take k) 1), .int .u32 (foldV v (L.take k) 2), .int .u32 (foldV v (L.take k) 3), .int .u32 (foldV v (L.take k) 4), .int .u32 (foldV v (L.take k) 5), .int .u32 (foldV v (L.take k) 6), .int .u32 (foldV v (L.take k) 7)] 24 ∧ Blk wr (w.heap.size + 1) #[.int .u32 0, .int .u32 0, .int .u32 0, .int .u32 0, .int .u32 0, .int .u32 0, .int .u32 0, .int .u32 0] 24 ∧ Below w.heap.size w wr) (fun s26 _ => len - (intOf s26).toNat)
    case atStart => exact ⟨0, rfl, by omega, HIN.out, HV2.out, HZ2.out, HB2.out⟩
    case round =>
      obtain ⟨k, rfl, hk, hin, hbv, hbz, hb⟩ := hrel
      have HB := Lib.hid hb; clear hb
      have HZ := Lib.hid hbz; clear hbz
      by_cases hkl : k < len
      · obtain ⟨b, off, o, q, rfl, hx, i0, i1⟩ := (HL.out.below HB.out).nth k hkl
        have hft := fold_take (v := v) hx
        have hin2 : InB (foldV v (L.take (k + 1))) := by rw [hft]; exact stepV_in hin _
        have HIN2 := Lib.hid hin2; clear hin2 hx
        generalize foldV v (L.take k) = u at hin hbv hft
        have HFT := Lib.hid hft; clear hft
        obtain ⟨v0, v1, v2, v3, v4, v5, v6, v7⟩ := vec_cells hbv
        have hwl : w.heap.size < wr.heap.size := hbv.lt
        have HV := Lib.hid hbv; clear hbv
        obtain ⟨u', c, htk⟩ : ∃ u' c, takeV u o q = (u', c) := ⟨_, _, rfl⟩
        have HTK := Lib.hid (take_val htk hin)
        have HTK0 := Lib.hid htk; clear htk hin
        have hid := Blk.new wr #[.int .i64 o, .int .u32 q] 29
        have hba := (Below.refl wr.heap.size wr).alloc (Nat.le_refl _) (.cells #[.int .i64 o, .int .u32 q] 29)
        have HBA := Lib.hid hba; clear hba hid
        by_cases hc : c = 0
        · subst hc
          have HST := Lib.hid (stepV_yes HTK0.out)
          go_wp2_with fail
          refine (HTK.out _).mono ?_
          rintro e w4 ⟨rfl, b4⟩
          have b5 := below_then HBA.out b4
          have HV5 := Lib.hid ((HV.out.below b5).alloc (.cells #[.int .u32 (u' 0), .int .u32 (u' 1), .int .u32 (u' 2), .int .u32 (u' 3), .int .u32 (u' 4), .int .u32 (u' 5), .int .u32 (u' 6), .int .u32 (u' 7)] 24))
          have HZ5 := Lib.hid ((HZ.out.below b5).alloc (.cells #[.int .u32 (u' 0), .int .u32 (u' 1), .int .u32 (u' 2), .int .u32 (u' 3), .int .u32 (u' 4), .int .u32 (u' 5), .int .u32 (u' 6), .int .u32 (u' 7)] 24))
          have HB5 := Lib.hid (below_new (HB.out.trans (b5.mono HB.out.size)) (.cells #[.int .u32 (u' 0), .int .u32 (u' 1), .int .u32 (u' 2), .int .u32 (u' 3), .int .u32 (u' 4), .int .u32 (u' 5), .int .u32 (u' 6), .int .u32 (u' 7)] 24))
          have HN5 := Lib.hid (Blk.new w4 #[.int .u32 (u' 0), .int .u32 (u' 1), .int .u32 (u' 2), .int .u32 (u' 3), .int .u32 (u' 4), .int .u32 (u' 5), .int .u32 (u' 6), .int .u32 (u' 7)] 24)
          clear b4 b5 v0 v1 v2 v3 v4 v5 v6 v7 i0 i1
          go_wp2_with (first | (refine wpList_load_row rfl 24 _ rfl w4.heap.size rfl 24 #[.int .u32 (u' 0), .int .u32 (u' 1), .int .u32 (u' 2), .int .u32 (u' 3), .int .u32 (u' 4), .int .u32 (u' 5), .int .u32 (u' 6), .int .u32 (u' 7)] (0, 0) _ HN5.out Try.underlying24 rfl (by kernel_rfl) ?_) | (refine wpList_store_row rfl 24 _ _ rfl w.heap.size #[.int .u32 (u' 0), .int .u32 (u' 1), .int .u32 (u' 2), .int .u32 (u' 3), .int .u32 (u' 4), .int .u32 (u' 5), .int .u32 (u' 6), .int .u32 (u' 7)] rfl rfl 24 _ HV5.out (by kernel_rfl) rfl (vec_one _) ?_))
          go_roundw
          case rel => exact ⟨k + 1, by go_num, by omega, HIN2.out, by rw [HFT.out, HST.out]; exact setRow_heap _ _ _ _ _ _ HV5.out, (setRow_other _ _ _ _ (by omega)).trans HZ5.out, below_setRow HB5.out (Nat.le_refl _) _⟩
          case measure => simp [intOf]; omega
        · have HST := Lib.hid (stepV_no HTK0.out hc)
          have hcf : (c == 0) = false := by simpa using hc
          clear hc
          go_wp2_with fail
          refine (HTK.out _).mono ?_
          rintro e w4 ⟨rfl, b4⟩
          have b5 := below_then HBA.out b4
          have HV5 := Lib.hid ((HV.out.below b5).alloc (.cells #[.int .u32 (u' 0), .int .u32 (u' 1), .int .u32 (u' 2), .int .u32 (u' 3), .int .u32 (u' 4), .int .u32 (u' 5), .int .u32 (u' 6), .int .u32 (u' 7)] 24))
          have HZ5 := Lib.hid ((HZ.out.below b5).alloc (.cells #[.int .u32 (u' 0), .int .u32 (u' 1), .int .u32 (u' 2), .int .u32 (u' 3), .int .u32 (u' 4), .int .u32 (u' 5), .int .u32 (u' 6), .int .u32 (u' 7)] 24))
          have HB5 := Lib.hid (below_new (HB.out.trans (b5.mono HB.out.size)) (.cells #[.int .u32 (u' 0), .int .u32 (u' 1), .int .u32 (u' 2), .int .u32 (u' 3), .int .u32 (u' 4), .int .u32 (u' 5), .int .u32 (u' 6), .int .u32 (u' 7)] 24))
          clear b4 b5 v0 v1 v2 v3 v4 v5 v6 v7 i0 i1
          go_wp2
          go_roundw
          case rel => exact ⟨k + 1, by go_num, by omega, HIN2.out, by rw [HFT.out, HST.out]; exact HV5.out, HZ5.out, HB5.out⟩
          case measure => simp [intOf]; omega
      · have hkk : (len : Int) ≤ k := by omega
        rw [List.take_of_length_le (by have := HLL.out; omega)] at hbv hin
        generalize foldV v L = u at hbv hin HFV HFS
        clear hin
        obtain ⟨v0, v1, v2, v3, v4, v5, v6, v7⟩ := vec_cells hbv
        have HV := Lib.hid hbv; clear hbv
        go_wp2_with fail
        have hby := beyond_any al len cap L u wr (HL.out.below HB.out)
        rw [show byR u L = foS v L by rw [HFS.out]; unfold byR; rw [if_pos HC2.out], HC2.out] at hby
        refine hby.mono ?_
        clear hby
        rintro e w4 ⟨al4, cap4, rfl, hI4, b4⟩
        have HI4 := Lib.hid hI4; clear hI4
        have HV4 := Lib.hid (HV.out.below b4)
        have HZ4 := Lib.hid (HZ.out.below b4)
        have HB4 := Lib.hid (HB.out.trans (b4.mono HB.out.size)); clear b4 v0 v1 v2 v3 v4 v5 v6 v7
        generalize hn : (foS v L).length = n at HI4 ⊢
        have HN := Lib.hid hn; clear hn
        go_wp2_with (first | (refine wpList_load_row rfl 24 _ rfl w.heap.size rfl 24 #[.int .u32 (u 0), .int .u32 (u 1), .int .u32 (u 2), .int .u32 (u 3), .int .u32 (u 4), .int .u32 (u 5), .int .u32 (u 6), .int .u32 (u 7)] (0, 0) _ HV4.out Try.underlying24 rfl (by kernel_rfl) ?_) | (refine wpList_store_row rfl 24 _ _ rfl (w.heap.size + 1) #[.int .u32 (u 0), .int .u32 (u 1), .int .u32 (u 2), .int .u32 (u 3), .int .u32 (u 4), .int .u32 (u 5), .int .u32 (u 6), .int .u32 (u 7)] rfl rfl 24 _ HZ4.out (by kernel_rfl) rfl (vec_one _) ?_))
        have hR : Blk (w4.setRow (w.heap.size + 1) #[.int .u32 (u 0), .int .u32 (u 1), .int .u32 (u 2), .int .u32 (u 3), .int .u32 (u 4), .int .u32 (u 5), .int .u32 (u 6), .int .u32 (u 7)]) (w.heap.size + 1) #[.int .u32 (u 0), .int .u32 (u 1), .int .u32 (u 2), .int .u32 (u 3), .int .u32 (u 4), .int .u32 (u 5), .int .u32 (u 6), .int .u32 (u 7)] 24 := setRow_heap _ _ _ _ _ _ HZ4.out
        obtain ⟨r0, r1, r2, r3, r4, r5, r6, r7⟩ := vec_cells (v := u) hR
        refine bodyPost_ret (v := .tuple #[.agg #[.int .u32 (u 0), .int .u32 (u 1), .int .u32 (u 2), .int .u32 (u 3), .int .u32 (u 4), .int .u32 (u 5), .int .u32 (u 6), .int .u32 (u 7)], .slice al4 n cap4, .int .i64 0]) ?_ rfl ⟨al4, cap4, by rw [HFV.out, HN.out, HC.out], ?_, below_setRow HB4.out (by omega) _⟩
        · simp [results, Try.results34, go_sem, r0, r1, r2, r3, r4, r5, r6, r7]
        · rw [HN.out]; exact ids_row HI4.out HZ4.out _
  · have HFV : Hid (foV v L = zV) := Lib.hid (by unfold foV; rw [if_neg hc])
    have HFS : Hid (foS v L = []) := Lib.hid (by unfold foS; rw [if_neg hc])
    have HOR : Hid (orZ (chkV v) (chkS L) = foC v L) := Lib.hid rfl
    have hn : (foC v L != 0) = true := by simpa using hc
    generalize foC v L = c at hc hn HOR ⊢
    clear hc hL hv
    go_enter Try.func34, Try.ntmps34
    go_wp2_with fail
    refine (vCheck_any v _).mono ?_
    rintro e w1 ⟨rfl, b1⟩
    have HZ1 := Lib.hid (HZ0.out.below b1)
    have HB1 := Lib.hid (below_then HB0.out b1); clear b1
    go_wp2_with fail
    refine (dCheck_any al len cap L _ (HL.out.below HB1.out)).mono ?_
    rintro e w2 ⟨rfl, b2⟩
    have HZ2 := Lib.hid ((HZ1.out.below b2).alloc (.cells #[.int .i64 (chkV v), .int .i64 (chkS L)] 32))
    have HB2 := Lib.hid (below_new (below_then HB1.out b2) (.cells #[.int .i64 (chkV v), .int .i64 (chkS L)] 32)); clear b2
    go_wp2_with fail
    refine (orE_any w2.heap.size _ _ _ (Blk.new _ _ _)).mono ?_
    rw [HOR.out]
    rintro e w3 ⟨rfl, rfl⟩
    go_wp2_with (refine wpList_store_row rfl 24 _ _ rfl (w.heap.size + 1) #[.int .u32 0, .int .u32 0, .int .u32 0, .int .u32 0, .int .u32 0, .int .u32 0, .int .u32 0, .int .u32 0] rfl rfl 24 _ HZ2.out (by kernel_rfl) rfl (by kernel_rfl) ?_)
    have hR : Blk ((w2.alloc (.cells #[.int .i64 (chkV v), .int .i64 (chkS L)] 32)).setRow (w.heap.size + 1) #[.int .u32 0, .int .u32 0, .int .u32 0, .int .u32 0, .int .u32 0, .int .u32 0, .int .u32 0, .int .u32 0]) (w.heap.size + 1) #[.int .u32 0, .int .u32 0, .int .u32 0, .int .u32 0, .int .u32 0, .int .u32 0, .int .u32 0, .int .u32 0] 24 := setRow_heap _ _ _ _ _ _ HZ2.out
    have r0 : ((w2.alloc (.cells #[.int .i64 (chkV v), .int .i64 (chkS L)] 32)).setRow (w.heap.size + 1) #[.int .u32 0, .int .u32 0, .int .u32 0, .int .u32 0, .int .u32 0, .int .u32 0, .int .u32 0, .int .u32 0]).cell? ⟨w.heap.size + 1, 0, none⟩ = some (.int .u32 0) := by rw [Blk.cell hR]; rfl
    have r1 : ((w2.alloc (.cells #[.int .i64 (chkV v), .int .i64 (chkS L)] 32)).setRow (w.heap.size + 1) #[.int .u32 0, .int .u32 0, .int .u32 0, .int .u32 0, .int .u32 0, .int .u32 0, .int .u32 0, .int .u32 0]).cell? ⟨w.heap.size + 1, 1, none⟩ = some (.int .u32 0) := by rw [Blk.cell hR]; rfl
    have r2 : ((w2.alloc (.cells #[.int .i64 (chkV v), .int .i64 (chkS L)] 32)).setRow (w.heap.size + 1) #[.int .u32 0, .int .u32 0, .int .u32 0, .int .u32 0, .int .u32 0, .int .u32 0, .int .u32 0, .int .u32 0]).cell? ⟨w.heap.size + 1, 2, none⟩ = some (.int .u32 0) := by rw [Blk.cell hR]; rfl
    have r3 : ((w2.alloc (.cells #[.int .i64 (chkV v), .int .i64 (chkS L)] 32)).setRow (w.heap.size + 1) #[.int .u32 0, .int .u32 0, .int .u32 0, .int .u32 0, .int .u32 0, .int .u32 0, .int .u32 0, .int .u32 0]).cell? ⟨w.heap.size + 1, 3, none⟩ = some (.int .u32 0) := by rw [Blk.cell hR]; rfl
    have r4 : ((w2.alloc (.cells #[.int .i64 (chkV v), .int .i64 (chkS L)] 32)).setRow (w.heap.size + 1) #[.int .u32 0, .int .u32 0, .int .u32 0, .int .u32 0, .int .u32 0, .int .u32 0, .int .u32 0, .int .u32 0]).cell? ⟨w.heap.size + 1, 4, none⟩ = some (.int .u32 0) := by rw [Blk.cell hR]; rfl
    have r5 : ((w2.alloc (.cells #[.int .i64 (chkV v), .int .i64 (chkS L)] 32)).setRow (w.heap.size + 1) #[.int .u32 0, .int .u32 0, .int .u32 0, .int .u32 0, .int .u32 0, .int .u32 0, .int .u32 0, .int .u32 0]).cell? ⟨w.heap.size + 1, 5, none⟩ = some (.int .u32 0) := by rw [Blk.cell hR]; rfl
    have r6 : ((w2.alloc (.cells #[.int .i64 (chkV v), .int .i64 (chkS L)] 32)).setRow (w.heap.size + 1) #[.int .u32 0, .int .u32 0, .int .u32 0, .int .u32 0, .int .u32 0, .int .u32 0, .int .u32 0, .int .u32 0]).cell? ⟨w.heap.size + 1, 6, none⟩ = some (.int .u32 0) := by rw [Blk.cell hR]; rfl
    have r7 : ((w2.alloc (.cells #[.int .i64 (chkV v), .int .i64 (chkS L)] 32)).setRow (w.heap.size + 1) #[.int .u32 0, .int .u32 0, .int .u32 0, .int .u32 0, .int .u32 0, .int .u32 0, .int .u32 0, .int .u32 0]).cell? ⟨w.heap.size + 1, 7, none⟩ = some (.int .u32 0) := by rw [Blk.cell hR]; rfl
    refine bodyPost_ret (v := .tuple #[.agg #[.int .u32 0, .int .u32 0, .int .u32 0, .int .u32 0, .int .u32 0, .int .u32 0, .int .u32 0, .int .u32 0], .slice none 0 0, .int .i64 c]) ?_ rfl ⟨none, 0, by rw [HFV.out, HFS.out]; rfl, by rw [HFS.out]; exact Ids.nil _, below_setRow HB2.out (by omega) _⟩
    simp [results, Try.results34, go_sem, r0, r1, r2, r3, r4, r5, r6, r7]
end Go.Proofs.Ythbdjgebpjffgaa
