/-
  Package cut's Make, and the document's: what is wrong with a vector and a list, or the cut that knows both.
  Conditions: none.
-/
import Derived.Test.YthbdjgebpjffgaaGreatDoorCuB
import Derived.Test.YthbdjgebpjffgaaGreatDoorDfH
set_option linter.unusedVariables false
set_option linter.unusedSimpArgs false
namespace Go.Proofs.YthbdjgebpjffgaaGreatDoor
open Go.RowKit Go.Shelf Go.Lib Go.Sort

theorem int_neC {w : World} {g b j : Nat} {T : TypeId} {o : Int} (hz : Blk w g #[.int .u32 0, .int .u32 0, .int .u32 0, .int .u32 0, .int .u32 0, .int .u32 0, .int .u32 0, .int .u32 0, .slice none 0 0] T) (h : w.cell? ⟨b, j, none⟩ = some (.int .i64 o)) : b ≠ g := by
  intro e
  subst e
  rw [Blk.cell hz] at h
  match j, h with
  | 0, h => simp at h
  | 1, h => simp at h
  | 2, h => simp at h
  | 3, h => simp at h
  | 4, h => simp at h
  | 5, h => simp at h
  | 6, h => simp at h
  | 7, h => simp at h
  | 8, h => simp at h
  | j + 9, h => simp at h
/-- A list stays when a box that held a zero cut is filled. -/
theorem ids_rowC {w : World} {al : Option Addr} {len cap g : Nat} {T : TypeId} {L : List (Int × Int)} (h : Ids w al len cap L) (hz : Blk w g #[.int .u32 0, .int .u32 0, .int .u32 0, .int .u32 0, .int .u32 0, .int .u32 0, .int .u32 0, .int .u32 0, .slice none 0 0] T) (cs : Array Value) : Ids (w.setRow g cs) al len cap L :=
  ⟨h.ln, h.fit, h.bd, h.nn, fun k hk => by
    obtain ⟨b, off, o, q, h1, h2, h3, h4⟩ := h.nth k hk
    have hb := int_neC hz h3
    have e1 : (w.setRow g cs).heap[b]? = w.heap[b]? := setRow_other _ _ _ _ (fun e => hb e)
    exact ⟨b, off, o, q, h1, h2, (World.cell?_of_block (a := ⟨b, off + k * 2, none⟩) e1).trans h3, (World.cell?_of_block (a := ⟨b, off + k * 2 + 1, none⟩) e1).trans h4⟩⟩
theorem cut_one (v : Nat → Int) (al : Option Addr) (len cap : Nat) : (#[.int .u32 (v 0), .int .u32 (v 1), .int .u32 (v 2), .int .u32 (v 3), .int .u32 (v 4), .int .u32 (v 5), .int .u32 (v 6), .int .u32 (v 7), .slice al len cap] : Array Value).all (·.oneCell') = true := by kernel_rfl
theorem cm_bad {v : Nat → Int} {L : List (Int × Int)} (h : ¬ cmC v L = 0) : cmV v L = zV ∧ cmS v L = [] := ⟨by unfold cmV; rw [if_neg h], by unfold cmS; rw [if_neg h]⟩
theorem cm_vec {v : Nat → Int} (L : List (Int × Int)) (h : ¬ chkV v = 0) : cmC v L = chkV v := by unfold cmC orZ; rw [if_neg h]
theorem cm_set {v : Nat → Int} (L : List (Int × Int)) (h : chkV v = 0) : cmC v L = mkC L := by unfold cmC orZ; rw [if_pos h]

/-! ### Make: cut -/
/-! ### Make: selkieref08 -/
set_option maxRecDepth 100000 in
set_option maxHeartbeats 2000000 in
theorem rMake_cut (v : Nat → Int) (al : Option Addr) (len cap : Nat) (L : List (Int × Int)) (w : World) (hL : Ids w al len cap L) (hv : InB v) :
    Calls Tryz.prog 40 #[.agg #[.int .u32 (v 0), .int .u32 (v 1), .int .u32 (v 2), .int .u32 (v 3), .int .u32 (v 4), .int .u32 (v 5), .int .u32 (v 6), .int .u32 (v 7)], .slice al len cap] w fun e w' => ∃ al2 cap2, e = .returned (.tuple #[.agg #[.int .u32 (cmV v L 0), .int .u32 (cmV v L 1), .int .u32 (cmV v L 2), .int .u32 (cmV v L 3), .int .u32 (cmV v L 4), .int .u32 (cmV v L 5), .int .u32 (cmV v L 6), .int .u32 (cmV v L 7), .slice al2 (cmS v L).length cap2], .int .i64 (cmC v L)]) ∧ Ids w' al2 (cmS v L).length cap2 (cmS v L) ∧ Below w.heap.size w w' := by
  have hcap := hL.bd
  have hfit := hL.fit
  have HLN := Lib.hid hL.ln
  have H0 := Lib.hid ((((KS.nil w).add hL).box rfl #[.int .u32 (v 0), .int .u32 (v 1), .int .u32 (v 2), .int .u32 (v 3), .int .u32 (v 4), .int .u32 (v 5), .int .u32 (v 6), .int .u32 (v 7)] 24).box (g := w.heap.size + 1) (by simp) #[.int .u32 0, .int .u32 0, .int .u32 0, .int .u32 0, .int .u32 0, .int .u32 0, .int .u32 0, .int .u32 0, .slice none 0 0] 27)
  have HIN := Lib.hid hv
  have HL := Lib.hid hL
  clear hL hv
  by_cases hc : cmC v L = 0
  · obtain ⟨hc1, hc2⟩ := cm_zero hc
    obtain ⟨hp1, hp2⟩ := cm_parts hc
    obtain ⟨_, hA64, hA1, hA2⟩ := mkC_zero hc2
    have HV0 := Lib.hid hc1
    have HM0 := Lib.hid hc2
    have HM1 := Lib.hid hA1
    have HR := Lib.hid (left_of hc1 HIN.out hA2)
    have HC := Lib.hid hc
    have HP := Lib.hid (And.intro hp1 hp2)
    clear hc hc1 hc2 hA1 hp1 hp2 hA2
    have hle : ¬ ((1024 : Int) < len) := by
      have h1 : ¬ 1024 < L.length := fun h => by
        have := (mkC_long h).1
        rw [HM0.out] at this; exact absurd this (by decide)
      rw [← HLN.out] at h1; omega
    go_enter Tryz.func40, Tryz.ntmps40
    go_wp2_with fail
    refine (rvCheck_any v _).mono ?_
    rw [HV0.out]
    rintro e w1 ⟨rfl, b1⟩
    have H1 := Lib.hid (H0.out.next b1); clear b1
    have hmk := rMake_any al len cap L w1 (H1.out.ids 0 rfl)
    rw [HM0.out, HM1.out] at hmk
    go_wp2_with fail
    refine hmk.mono ?_
    clear hmk
    rintro e w2 ⟨al2, cap2, rfl, hI2, b2⟩
    have h2 := (H1.out.next b2).add hI2
    have H2 := Lib.hid h2
    obtain ⟨v0, v1, v2, v3, v4, v5, v6, v7⟩ := vec_cells (h2.blk 1 rfl)
    clear b2 hI2 h2
    have hfo := rfold_any al2 _ cap2 (setS L) v w2 (H2.out.ids 0 rfl) HIN.out
    rw [HR.out.c] at hfo
    generalize hu : foV v (setS L) = u at hfo HP
    generalize hr : foS v (setS L) = R at hfo HP
    generalize (setS L).length = nA at hfo H2 ⊢
    clear hu hr
    go_wp2_with fail
    refine hfo.mono ?_
    clear hfo
    rintro e w3 ⟨al3, cap3, rfl, hI3, b3⟩
    skip
    have h3 := ((H2.out.next b3).add hI3).box (g := w3.heap.size) rfl #[.int .u32 (u 0), .int .u32 (u 1), .int .u32 (u 2), .int .u32 (u 3), .int .u32 (u 4), .int .u32 (u 5), .int .u32 (u 6), .int .u32 (u 7)] 24
    have HZ := Lib.hid (h3.blk 1 rfl)
    have HU := Lib.hid (h3.blk 0 rfl)
    have HB := Lib.hid h3.bel
    have HI3 := Lib.hid (h3.ids 0 rfl)
    clear b3 hI3 h3 v0 v1 v2 v3 v4 v5 v6 v7
    generalize hn : R.length = n at HI3 ⊢
    have HN := Lib.hid hn; clear hn
    go_wp2_with (first | (refine wpList_load_row rfl 24 _ rfl w3.heap.size rfl 24 #[.int .u32 (u 0), .int .u32 (u 1), .int .u32 (u 2), .int .u32 (u 3), .int .u32 (u 4), .int .u32 (u 5), .int .u32 (u 6), .int .u32 (u 7)] (0, 0) _ HU.out Tryz.underlying24 rfl (by kernel_rfl) ?_) | (refine wpList_store_row rfl 27 _ _ rfl (w.heap.size + 1) #[.int .u32 (u 0), .int .u32 (u 1), .int .u32 (u 2), .int .u32 (u 3), .int .u32 (u 4), .int .u32 (u 5), .int .u32 (u 6), .int .u32 (u 7), .slice al3 n cap3] rfl rfl 27 _ HZ.out (by kernel_rfl) rfl (cut_one _ _ _ _) ?_))
    have hR := setRow_heap _ _ _ #[.int .u32 (u 0), .int .u32 (u 1), .int .u32 (u 2), .int .u32 (u 3), .int .u32 (u 4), .int .u32 (u 5), .int .u32 (u 6), .int .u32 (u 7), .slice al3 n cap3] _ _ HZ.out
    obtain ⟨r0, r1, r2, r3, r4, r5, r6, r7, r8⟩ := cut_cells hR
    refine bodyPost_ret (v := .tuple #[.agg #[.int .u32 (u 0), .int .u32 (u 1), .int .u32 (u 2), .int .u32 (u 3), .int .u32 (u 4), .int .u32 (u 5), .int .u32 (u 6), .int .u32 (u 7), .slice al3 n cap3], .int .i64 0]) ?_ rfl ⟨al3, cap3, by rw [HP.out.1, HP.out.2, HC.out, HN.out], ?_, below_setRow HB.out (by omega) _⟩
    · simp [results, Tryz.results40, go_sem, r0, r1, r2, r3, r4, r5, r6, r7, r8]
    · rw [HP.out.2, HN.out]; exact ids_rowC HI3.out HZ.out _
  · have HE := Lib.hid (cm_bad hc)
    by_cases hc1 : chkV v = 0
    · have HV0 := Lib.hid hc1
      have hcm := cm_set L hc1
      rw [hcm] at hc ⊢
      clear hc1 hcm
      have hn : (mkC L != 0) = true := by simpa using hc
      have HMR : Hid (mkR L = []) := Lib.hid (by unfold mkR; rw [if_neg hc])
      clear hc
      by_cases hl : 1024 < len
      · have HCC : Hid (mkC L = 8) := Lib.hid (mkC_long (by rw [← HLN.out]; exact hl)).1
        go_enter Tryz.func40, Tryz.ntmps40
        go_wp2_with fail
        refine (rvCheck_any v _).mono ?_
        rw [HV0.out]
        rintro e w1 ⟨rfl, b1⟩
        have HZ := Lib.hid ((H0.out.next b1).blk 0 rfl)
        have HB := Lib.hid (H0.out.next b1).bel; clear b1
        go_wp2_with (refine wpList_store_row rfl 27 _ _ rfl (w.heap.size + 1) #[.int .u32 0, .int .u32 0, .int .u32 0, .int .u32 0, .int .u32 0, .int .u32 0, .int .u32 0, .int .u32 0, .slice none 0 0] rfl rfl 27 _ HZ.out (by kernel_rfl) rfl (by kernel_rfl) ?_)
        have hR := setRow_heap _ _ _ #[.int .u32 0, .int .u32 0, .int .u32 0, .int .u32 0, .int .u32 0, .int .u32 0, .int .u32 0, .int .u32 0, .slice none 0 0] _ _ HZ.out
        obtain ⟨r0, r1, r2, r3, r4, r5, r6, r7, r8⟩ := cut_cells (v := zV) (al := none) (len := 0) (cap := 0) hR
        refine bodyPost_ret (v := .tuple #[.agg #[.int .u32 0, .int .u32 0, .int .u32 0, .int .u32 0, .int .u32 0, .int .u32 0, .int .u32 0, .int .u32 0, .slice none 0 0], .int .i64 8]) ?_ rfl ⟨none, 0, by rw [HE.out.1, HE.out.2, HCC.out]; rfl, by rw [HE.out.2]; exact Ids.nil _, below_setRow HB.out (by omega) _⟩
        simp [results, Tryz.results40, go_sem, r0, r1, r2, r3, r4, r5, r6, r7, r8, zV]
      have hle : ¬ ((1024 : Int) < len) := by omega
      clear hl
      obtain ⟨c, hcc⟩ : ∃ c, mkC L = c := ⟨_, rfl⟩
      have HCC := Lib.hid hcc
      rw [hcc] at hn
      clear hcc
      go_enter Tryz.func40, Tryz.ntmps40
      go_wp2_with fail
      refine (rvCheck_any v _).mono ?_
      rw [HV0.out]
      rintro e w1 ⟨rfl, b1⟩
      have H1 := Lib.hid (H0.out.next b1); clear b1
      have hmk := rMake_any al len cap L w1 (H1.out.ids 0 rfl)
      rw [HMR.out, HCC.out] at hmk
      go_wp2_with fail
      refine hmk.mono ?_
      clear hmk
      rintro e w2 ⟨al2, cap2, rfl, hI2, b2⟩
      have h2 := H1.out.next b2
      have HZ := Lib.hid (h2.blk 0 rfl)
      have HB := Lib.hid h2.bel
      clear b2 hI2 h2
      go_wp2_with (refine wpList_store_row rfl 27 _ _ rfl (w.heap.size + 1) #[.int .u32 0, .int .u32 0, .int .u32 0, .int .u32 0, .int .u32 0, .int .u32 0, .int .u32 0, .int .u32 0, .slice none 0 0] rfl rfl 27 _ HZ.out (by kernel_rfl) rfl (by kernel_rfl) ?_)
      have hR := setRow_heap _ _ _ #[.int .u32 0, .int .u32 0, .int .u32 0, .int .u32 0, .int .u32 0, .int .u32 0, .int .u32 0, .int .u32 0, .slice none 0 0] _ _ HZ.out
      obtain ⟨r0, r1, r2, r3, r4, r5, r6, r7, r8⟩ := cut_cells (v := zV) (al := none) (len := 0) (cap := 0) hR
      refine bodyPost_ret (v := .tuple #[.agg #[.int .u32 0, .int .u32 0, .int .u32 0, .int .u32 0, .int .u32 0, .int .u32 0, .int .u32 0, .int .u32 0, .slice none 0 0], .int .i64 c]) ?_ rfl ⟨none, 0, by rw [HE.out.1, HE.out.2, HCC.out]; rfl, by rw [HE.out.2]; exact Ids.nil _, below_setRow HB.out (by omega) _⟩
      simp [results, Tryz.results40, go_sem, r0, r1, r2, r3, r4, r5, r6, r7, r8, zV]
    · have hcm := cm_vec L hc1
      rw [hcm]
      have hn : (chkV v != 0) = true := by simpa using hc1
      clear hcm hc hc1
      obtain ⟨c, hcc⟩ : ∃ c, chkV v = c := ⟨_, rfl⟩
      have HCC := Lib.hid hcc
      rw [hcc] at hn
      clear hcc
      go_enter Tryz.func40, Tryz.ntmps40
      go_wp2_with fail
      refine (rvCheck_any v _).mono ?_
      rw [HCC.out]
      rintro e w1 ⟨rfl, b1⟩
      have h1 := H0.out.next b1
      have HZ := Lib.hid (h1.blk 0 rfl)
      have HB := Lib.hid h1.bel
      clear b1 h1
      go_wp2_with (refine wpList_store_row rfl 27 _ _ rfl (w.heap.size + 1) #[.int .u32 0, .int .u32 0, .int .u32 0, .int .u32 0, .int .u32 0, .int .u32 0, .int .u32 0, .int .u32 0, .slice none 0 0] rfl rfl 27 _ HZ.out (by kernel_rfl) rfl (by kernel_rfl) ?_)
      have hR := setRow_heap _ _ _ #[.int .u32 0, .int .u32 0, .int .u32 0, .int .u32 0, .int .u32 0, .int .u32 0, .int .u32 0, .int .u32 0, .slice none 0 0] _ _ HZ.out
      obtain ⟨r0, r1, r2, r3, r4, r5, r6, r7, r8⟩ := cut_cells (v := zV) (al := none) (len := 0) (cap := 0) hR
      refine bodyPost_ret (v := .tuple #[.agg #[.int .u32 0, .int .u32 0, .int .u32 0, .int .u32 0, .int .u32 0, .int .u32 0, .int .u32 0, .int .u32 0, .slice none 0 0], .int .i64 c]) ?_ rfl ⟨none, 0, by rw [HE.out.1, HE.out.2, HCC.out]; rfl, by rw [HE.out.2]; exact Ids.nil _, below_setRow HB.out (by omega) _⟩
      simp [results, Tryz.results40, go_sem, r0, r1, r2, r3, r4, r5, r6, r7, r8, zV]
end Go.Proofs.YthbdjgebpjffgaaGreatDoor

/-
  What is wrong with a cut: package cut's Check and the document's.
  Conditions: none.
-/

namespace Go.Proofs.YthbdjgebpjffgaaGreatDoor
open Go.RowKit Go.Shelf Go.Lib Go.Sort

/-- What package cut tells. -/
def ckC (v : Nat → Int) (L : List (Int × Int)) : Int := if foC v L = 0 then (if eqC (foV v L) (foS v L) v L = true then 0 else 3) else foC v L
/-- What the document says. -/
def ckD (v : Nat → Int) (L : List (Int × Int)) : Int := if orZ (chkV v) (chkS L) = 0 then (if eqC (cmV v L) (cmS v L) v L = true then 0 else 3) else orZ (chkV v) (chkS L)
theorem ckC_iff {v : Nat → Int} {L : List (Int × Int)} (_hin : InB v) : ckC v L = 0 ↔ IsC v L := by
  unfold ckC
  constructor
  · intro h
    by_cases hc : foC v L = 0
    · rw [if_pos hc] at h
      by_cases he : eqC (foV v L) (foS v L) v L = true
      · obtain ⟨k1, k2⟩ := eqC_iff.1 he
        obtain ⟨c1, c2⟩ := fo_zero hc
        exact ⟨c1, c2, k1, k2⟩
      · rw [if_neg he] at h; exact absurd h (by decide)
    · rw [if_neg hc] at h; exact absurd h hc
  · intro h
    have hc : foC v L = 0 := orZ_both h.v0 h.s0
    rw [if_pos hc, if_pos (eqC_iff.2 ⟨h.fv, h.fs⟩)]
theorem cm_ofD {v : Nat → Int} {L : List (Int × Int)} (h : orZ (chkV v) (chkS L) = 0) : cmC v L = 0 := by
  obtain ⟨h1, h2⟩ := orZ_zero h
  exact orZ_both h1 (is_set h2).1
theorem ckD_iff {v : Nat → Int} {L : List (Int × Int)} (hin : InB v) : ckD v L = 0 ↔ IsC v L := by
  unfold ckD
  constructor
  · intro h
    by_cases hc : orZ (chkV v) (chkS L) = 0
    · rw [if_pos hc] at h
      by_cases he : eqC (cmV v L) (cmS v L) v L = true
      · exact is_of hin (cm_ofD hc) he
      · rw [if_neg he] at h; exact absurd h (by decide)
    · rw [if_neg hc] at h; exact absurd h hc
  · intro h
    rw [if_pos (orZ_both h.v0 h.s0), if_pos (is_self h).2]

/-- Both tell the same. -/
theorem ckC_ckD (v : Nat → Int) (L : List (Int × Int)) (_hin : InB v) : ckC v L = ckD v L := by
  show (if orZ (chkV v) (chkS L) = 0 then (if eqC (foV v L) (foS v L) v L = true then 0 else 3) else orZ (chkV v) (chkS L)) = ckD v L
  unfold ckD
  by_cases hc : orZ (chkV v) (chkS L) = 0
  · obtain ⟨e1, e2⟩ := cm_parts (cm_ofD hc)
    rw [(is_set (orZ_zero hc).2).2.2] at e1 e2
    rw [if_pos hc, if_pos hc, e1, e2]
  · rw [if_neg hc, if_neg hc]

set_option maxRecDepth 100000 in
set_option maxHeartbeats 2000000 in
theorem cCheck_any (v : Nat → Int) (al : Option Addr) (len cap : Nat) (L : List (Int × Int)) (w : World) (hL : Ids w al len cap L) (_hF : Flat al) (hv : InB v) :
    Calls Tryz.prog 16 #[.agg #[.int .u32 (v 0), .int .u32 (v 1), .int .u32 (v 2), .int .u32 (v 3), .int .u32 (v 4), .int .u32 (v 5), .int .u32 (v 6), .int .u32 (v 7), .slice al len cap]] w fun e w' => e = .returned (.int .i64 (ckC v L)) ∧ Below w.heap.size w w' := by
  have h0 := ((KS.nil w).add hL).box rfl #[.int .u32 (v 0), .int .u32 (v 1), .int .u32 (v 2), .int .u32 (v 3), .int .u32 (v 4), .int .u32 (v 5), .int .u32 (v 6), .int .u32 (v 7), .slice al len cap] 32
  have H0 := Lib.hid h0
  obtain ⟨a0, a1, a2, a3, a4, a5, a6, a7, a8⟩ := cut_cells (h0.blk 0 rfl)
  have hmk := foldF_any al len cap L v _ (h0.ids 0 rfl) hv
  clear h0 hL hv
  by_cases hc : foC v L = 0
  · have HCK : Hid (ckC v L = if eqC (foV v L) (foS v L) v L = true then 0 else 3) := Lib.hid (by unfold ckC; rw [if_pos hc])
    rw [hc] at hmk
    clear hc
    generalize (foS v L).length = n at hmk
    generalize foS v L = R at hmk HCK
    generalize foV v L = u at hmk HCK
    go_enter Tryz.func16, Tryz.ntmps16
    go_wp2_with fail
    refine hmk.mono ?_
    clear hmk
    rintro e w1 ⟨al2, cap2, rfl, hI2, _, b1⟩
    have h1 := ((H0.out.next b1).add hI2).box (g := w1.heap.size) rfl #[.int .u32 (u 0), .int .u32 (u 1), .int .u32 (u 2), .int .u32 (u 3), .int .u32 (u 4), .int .u32 (u 5), .int .u32 (u 6), .int .u32 (u 7)] 24
    have H1 := Lib.hid h1
    have HX := Lib.hid (h1.blk 0 rfl)
    have HY := Lib.hid (h1.blk 1 rfl)
    clear h1 hI2 b1 a0 a1 a2 a3 a4 a5 a6 a7 a8
    have hsm := cSame_cut u v al2 al n cap2 len cap R L _ (H1.out.ids 0 rfl) (H1.out.ids 1 rfl)
    cases he : eqC u R v L with
    | true =>
      rw [he] at hsm HCK
      clear he
      go_wp2_with (first | (refine wpList_load_row rfl 24 _ rfl w1.heap.size rfl 24 #[.int .u32 (u 0), .int .u32 (u 1), .int .u32 (u 2), .int .u32 (u 3), .int .u32 (u 4), .int .u32 (u 5), .int .u32 (u 6), .int .u32 (u 7)] (0, 0) _ HX.out Tryz.underlying24 rfl (by kernel_rfl) ?_) | (refine wpList_load_row rfl 32 _ rfl w.heap.size rfl 32 #[.int .u32 (v 0), .int .u32 (v 1), .int .u32 (v 2), .int .u32 (v 3), .int .u32 (v 4), .int .u32 (v 5), .int .u32 (v 6), .int .u32 (v 7), .slice al len cap] (0, 0) _ HY.out Tryz.underlying32 rfl (by kernel_rfl) ?_))
      refine hsm.mono ?_
      clear hsm
      rintro e w2 ⟨rfl, b2⟩
      have HB := Lib.hid (H1.out.next b2).bel; clear b2
      go_wp2
      go_ret
      exact ⟨by rw [HCK.out]; rfl, HB.out⟩
    | false =>
      rw [he] at hsm HCK
      clear he
      go_wp2_with (first | (refine wpList_load_row rfl 24 _ rfl w1.heap.size rfl 24 #[.int .u32 (u 0), .int .u32 (u 1), .int .u32 (u 2), .int .u32 (u 3), .int .u32 (u 4), .int .u32 (u 5), .int .u32 (u 6), .int .u32 (u 7)] (0, 0) _ HX.out Tryz.underlying24 rfl (by kernel_rfl) ?_) | (refine wpList_load_row rfl 32 _ rfl w.heap.size rfl 32 #[.int .u32 (v 0), .int .u32 (v 1), .int .u32 (v 2), .int .u32 (v 3), .int .u32 (v 4), .int .u32 (v 5), .int .u32 (v 6), .int .u32 (v 7), .slice al len cap] (0, 0) _ HY.out Tryz.underlying32 rfl (by kernel_rfl) ?_))
      refine hsm.mono ?_
      clear hsm
      rintro e w2 ⟨rfl, b2⟩
      have HB := Lib.hid (H1.out.next b2).bel; clear b2
      go_wp2
      go_ret
      exact ⟨by rw [HCK.out]; rfl, HB.out⟩
  · have HCK : Hid (ckC v L = foC v L) := Lib.hid (by unfold ckC; rw [if_neg hc])
    have hn : (foC v L != 0) = true := by simpa using hc
    generalize foC v L = c at hn hmk HCK
    generalize (foS v L).length = n at hmk
    generalize foS v L = R at hmk
    generalize foV v L = u at hmk
    clear hc
    go_enter Tryz.func16, Tryz.ntmps16
    go_wp2_with fail
    refine hmk.mono ?_
    clear hmk
    rintro e w1 ⟨al2, cap2, rfl, hI2, _, b1⟩
    have HB := Lib.hid (((H0.out.next b1).box (g := w1.heap.size) rfl #[.int .u32 (u 0), .int .u32 (u 1), .int .u32 (u 2), .int .u32 (u 3), .int .u32 (u 4), .int .u32 (u 5), .int .u32 (u 6), .int .u32 (u 7)] 24).bel)
    clear hI2 b1
    go_wp2
    go_ret
    exact ⟨by rw [HCK.out]; rfl, HB.out⟩

set_option maxRecDepth 100000 in
set_option maxHeartbeats 2000000 in
theorem rCheck_any (v : Nat → Int) (al : Option Addr) (len cap : Nat) (L : List (Int × Int)) (w : World) (hL : Ids w al len cap L) (hv : InB v) :
    Calls Tryz.prog 19 #[.agg #[.int .u32 (v 0), .int .u32 (v 1), .int .u32 (v 2), .int .u32 (v 3), .int .u32 (v 4), .int .u32 (v 5), .int .u32 (v 6), .int .u32 (v 7), .slice al len cap]] w fun e w' => e = .returned (.int .i64 (ckD v L)) ∧ Below w.heap.size w w' := by
  have h0 := ((KS.nil w).add hL).box rfl #[.int .u32 (v 0), .int .u32 (v 1), .int .u32 (v 2), .int .u32 (v 3), .int .u32 (v 4), .int .u32 (v 5), .int .u32 (v 6), .int .u32 (v 7), .slice al len cap] 27
  have H0 := Lib.hid h0
  have HIN := Lib.hid hv
  obtain ⟨a0, a1, a2, a3, a4, a5, a6, a7, a8⟩ := cut_cells (h0.blk 0 rfl)
  clear h0 hL hv
  by_cases hc1 : chkV v = 0
  · have HV0 := Lib.hid hc1
    by_cases hc2 : chkS L = 0
    · have HS0 := Lib.hid hc2
      have hc := orZ_both hc1 hc2
      have HCK : Hid (ckD v L = if eqC (cmV v L) (cmS v L) v L = true then 0 else 3) := Lib.hid (by unfold ckD; rw [if_pos hc])
      have HC := Lib.hid (cm_ofD hc)
      clear hc1 hc2 hc
      go_enter Tryz.func19, Tryz.ntmps19
      go_wp2_with fail
      refine (rvCheck_any v _).mono ?_
      rw [HV0.out]
      rintro e w1 ⟨rfl, b1⟩
      have h1 := H0.out.next b1
      have H1 := Lib.hid h1
      have e8 := (cut_cells (h1.blk 0 rfl)).2.2.2.2.2.2.2.2
      clear h1 b1 a0 a1 a2 a3 a4 a5 a6 a7 a8
      go_wp2_with fail
      refine (rdCheck_any al len cap L _ (H1.out.ids 0 rfl)).mono ?_
      rw [HS0.out]
      rintro e w2 ⟨rfl, b2⟩
      have h2 := H1.out.next b2
      have H2 := Lib.hid h2
      obtain ⟨a0, a1, a2, a3, a4, a5, a6, a7, a8⟩ := cut_cells (h2.blk 0 rfl)
      have hmk := rMake_cut v al len cap L _ (h2.ids 0 rfl) HIN.out
      rw [HC.out] at hmk
      clear h2 b2 e8
      generalize (cmS v L).length = n at hmk
      generalize cmS v L = R at hmk HCK
      generalize cmV v L = u at hmk HCK
      go_wp2_with fail
      refine hmk.mono ?_
      clear hmk
      rintro e w3 ⟨al2, cap2, rfl, hI2, b3⟩
      have h3 := ((H2.out.next b3).add hI2).box (g := w3.heap.size) rfl #[.int .u32 (u 0), .int .u32 (u 1), .int .u32 (u 2), .int .u32 (u 3), .int .u32 (u 4), .int .u32 (u 5), .int .u32 (u 6), .int .u32 (u 7), .slice al2 n cap2] 27
      have H3 := Lib.hid h3
      have HX := Lib.hid (h3.blk 0 rfl)
      have HY := Lib.hid (h3.blk 1 rfl)
      clear h3 hI2 b3 a0 a1 a2 a3 a4 a5 a6 a7 a8
      have hsm := rSame_cut u v al2 al n cap2 len cap R L _ (H3.out.ids 0 rfl) (H3.out.ids 1 rfl)
      cases he : eqC u R v L with
      | true =>
        rw [he] at hsm HCK
        clear he
        go_wp2_with (first | (refine wpList_load_row rfl 27 _ rfl w3.heap.size rfl 27 #[.int .u32 (u 0), .int .u32 (u 1), .int .u32 (u 2), .int .u32 (u 3), .int .u32 (u 4), .int .u32 (u 5), .int .u32 (u 6), .int .u32 (u 7), .slice al2 n cap2] (0, 0) _ HX.out Tryz.underlying27 rfl (by kernel_rfl) ?_) | (refine wpList_load_row rfl 27 _ rfl w.heap.size rfl 27 #[.int .u32 (v 0), .int .u32 (v 1), .int .u32 (v 2), .int .u32 (v 3), .int .u32 (v 4), .int .u32 (v 5), .int .u32 (v 6), .int .u32 (v 7), .slice al len cap] (0, 0) _ HY.out Tryz.underlying27 rfl (by kernel_rfl) ?_))
        refine hsm.mono ?_
        clear hsm
        rintro e w4 ⟨rfl, b4⟩
        have HB := Lib.hid (H3.out.next b4).bel; clear b4
        go_wp2
        go_ret
        exact ⟨by rw [HCK.out]; rfl, HB.out⟩
      | false =>
        rw [he] at hsm HCK
        clear he
        go_wp2_with (first | (refine wpList_load_row rfl 27 _ rfl w3.heap.size rfl 27 #[.int .u32 (u 0), .int .u32 (u 1), .int .u32 (u 2), .int .u32 (u 3), .int .u32 (u 4), .int .u32 (u 5), .int .u32 (u 6), .int .u32 (u 7), .slice al2 n cap2] (0, 0) _ HX.out Tryz.underlying27 rfl (by kernel_rfl) ?_) | (refine wpList_load_row rfl 27 _ rfl w.heap.size rfl 27 #[.int .u32 (v 0), .int .u32 (v 1), .int .u32 (v 2), .int .u32 (v 3), .int .u32 (v 4), .int .u32 (v 5), .int .u32 (v 6), .int .u32 (v 7), .slice al len cap] (0, 0) _ HY.out Tryz.underlying27 rfl (by kernel_rfl) ?_))
        refine hsm.mono ?_
        clear hsm
        rintro e w4 ⟨rfl, b4⟩
        have HB := Lib.hid (H3.out.next b4).bel; clear b4
        go_wp2
        go_ret
        exact ⟨by rw [HCK.out]; rfl, HB.out⟩
    · have hcd : ckD v L = chkS L := by
        have hor : orZ (chkV v) (chkS L) = chkS L := by unfold orZ; rw [if_pos hc1]
        unfold ckD; rw [hor, if_neg hc2]
      have HCK := Lib.hid hcd
      have hn : (chkS L != 0) = true := by simpa using hc2
      clear hc1 hc2 hcd
      go_enter Tryz.func19, Tryz.ntmps19
      go_wp2_with fail
      refine (rvCheck_any v _).mono ?_
      rw [HV0.out]
      rintro e w1 ⟨rfl, b1⟩
      have h1 := H0.out.next b1
      have H1 := Lib.hid h1
      have e8 := (cut_cells (h1.blk 0 rfl)).2.2.2.2.2.2.2.2
      clear h1 b1 a0 a1 a2 a3 a4 a5 a6 a7 a8
      have hck := rdCheck_any al len cap L _ (H1.out.ids 0 rfl)
      generalize chkS L = c at hck hn HCK
      go_wp2_with fail
      refine hck.mono ?_
      clear hck
      rintro e w2 ⟨rfl, b2⟩
      have HB := Lib.hid (H1.out.next b2).bel; clear b2
      go_wp2
      go_ret
      exact ⟨by rw [HCK.out]; rfl, HB.out⟩
  · have hcd : ckD v L = chkV v := by
      have hor : orZ (chkV v) (chkS L) = chkV v := by unfold orZ; rw [if_neg hc1]
      unfold ckD; rw [hor, if_neg hc1]
    have HCK := Lib.hid hcd
    have hn : (chkV v != 0) = true := by simpa using hc1
    have hz : (chkV v == 0) = false := by simpa using hc1
    clear hc1 hcd
    have hck := rvCheck_any v (w.alloc (.cells #[.int .u32 (v 0), .int .u32 (v 1), .int .u32 (v 2), .int .u32 (v 3), .int .u32 (v 4), .int .u32 (v 5), .int .u32 (v 6), .int .u32 (v 7), .slice al len cap] 27))
    generalize chkV v = c at hck hn hz HCK
    go_enter Tryz.func19, Tryz.ntmps19
    go_wp2_with fail
    refine hck.mono ?_
    clear hck
    rintro e w1 ⟨rfl, b1⟩
    have HB := Lib.hid (H0.out.next b1).bel; clear b1
    go_wp2
    go_ret
    exact ⟨by rw [HCK.out]; rfl, HB.out⟩
end Go.Proofs.YthbdjgebpjffgaaGreatDoor
