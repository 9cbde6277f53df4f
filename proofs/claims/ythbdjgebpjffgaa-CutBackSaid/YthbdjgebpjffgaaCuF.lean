/-
  What is wrong with a cut: package cut's Check and the document's.
  Conditions: none.
-/
import Derived.Test.YthbdjgebpjffgaaCuD
set_option linter.unusedVariables false
set_option linter.unusedSimpArgs false
namespace Go.Proofs.Ythbdjgebpjffgaa
open Go.RowKit Go.Shelf Go.Lib Go.Sort

/-- What package cut tells. -/
def ckC (v : Nat → Int) (L : List (Int × Int)) : Int := if foC v L = 0 then (if eqC (foV v L) (foS v L) v L = true then 0 else 3) else foC v L
/-- What the document says. -/
def ckD (v : Nat → Int) (L : List (Int × Int)) : Int := if orZ (chkV v) (chkS L) = 0 then (if eqC (cmV v L) (cmS v L) v L = true then 0 else 3) else orZ (chkV v) (chkS L)
theorem ckC_iff {v : Nat → Int} {L : List (Int × Int)} (_hin : InB v) : ckC v L = 0 ↔ IsC v L := by
  unfold ckC
  constructor
  · intro h
    by_cases hc : foC v L = 0
    · rw [if_pos hc] at h
      by_cases he : eqC (foV v L) (foS v L) v L = true
      · obtain ⟨k1, k2⟩ := eqC_iff.1 he
        obtain ⟨c1, c2⟩ := fo_zero hc
        exact ⟨c1, c2, k1, k2⟩
      · rw [if_neg he] at h; exact absurd h (by decide)
    · rw [if_neg hc] at h; exact absurd h hc
  · intro h
    have hc : foC v L = 0 := orZ_both h.v0 h.s0
    rw [if_pos hc, if_pos (eqC_iff.2 ⟨h.fv, h.fs⟩)]
theorem cm_ofD {v : Nat → Int} {L : List (Int × Int)} (h : orZ (chkV v) (chkS L) = 0) : cmC v L = 0 := by
  obtain ⟨h1, h2⟩ := orZ_zero h
  exact orZ_both h1 (is_set h2).1
theorem ckD_iff {v : Nat → Int} {L : List (Int × Int)} (hin : InB v) : ckD v L = 0 ↔ IsC v L := by
  unfold ckD
  constructor
  · intro h
    by_cases hc : orZ (chkV v) (chkS L) = 0
    · rw [if_pos hc] at h
      by_cases he : eqC (cmV v L) (cmS v L) v L = true
      · exact is_of hin (cm_ofD hc) he
      · rw [if_neg he] at h; exact absurd h (by decide)
    · rw [if_neg hc] at h; exact absurd h hc
  · intro h
    rw [if_pos (orZ_both h.v0 h.s0), if_pos (is_self h).2]

/-- Both tell the same. -/
theorem ckC_ckD (v : Nat → Int) (L : List (Int × Int)) (_hin : InB v) : ckC v L = ckD v L := by
  show (if orZ (chkV v) (chkS L) = 0 then (if eqC (foV v L) (foS v L) v L = true then 0 else 3) else orZ (chkV v) (chkS L)) = ckD v L
  unfold ckD
  by_cases hc : orZ (chkV v) (chkS L) = 0
  · obtain ⟨e1, e2⟩ := cm_parts (cm_ofD hc)
    rw [(is_set (orZ_zero hc).2).2.2] at e1 e2
    rw [if_pos hc, if_pos hc, e1, e2]
  · rw [if_neg hc, if_neg hc]

set_option maxRecDepth 100000 in
set_option maxHeartbeats 2000000 in
theorem cCheck_any (v : Nat → Int) (al : Option Addr) (len cap : Nat) (L : List (Int × Int)) (w : World) (hL : Ids w al len cap L) (_hF : Flat al) (hv : InB v) :
    Calls Try.prog 16 #[.agg #[.int .u32 (v 0), .int .u32 (v 1), .int .u32 (v 2), .int .u32 (v 3), .int .u32 (v 4), .int .u32 (v 5), .int .u32 (v 6), .int .u32 (v 7), .slice al len cap]] w fun e w' => e = .returned (.int .i64 (ckC v L)) ∧ Below w.heap.size w w' := by
  have h0 := ((KS.nil w).add hL).box rfl #[.int .u32 (v 0), .int .u32 (v 1), .int .u32 (v 2), .int .u32 (v 3), .int .u32 (v 4), .int .u32 (v 5), .int .u32 (v 6), .int .u32 (v 7), .slice al len cap] 31
  have H0 := Lib.hid h0
  obtain ⟨a0, a1, a2, a3, a4, a5, a6, a7, a8⟩ := cut_cells (h0.blk 0 rfl)
  have hmk := foldF_any al len cap L v _ (h0.ids 0 rfl) hv
  clear h0 hL hv
  by_cases hc : foC v L = 0
  · have HCK : Hid (ckC v L = if eqC (foV v L) (foS v L) v L = true then 0 else 3) := Lib.hid (by unfold ckC; rw [if_pos hc])
    rw [hc] at hmk
    clear hc
    generalize (foS v L).length = n at hmk
    generalize foS v L = R at hmk HCK
    generalize foV v L = u at hmk HCK
    go_enter Try.func16, Try.ntmps16
    go_wp2_with fail
    refine hmk.mono ?_
    clear hmk
    rintro e w1 ⟨al2, cap2, rfl, hI2, _, b1⟩
    have h1 := ((H0.out.next b1).add hI2).box (g := w1.heap.size) rfl #[.int .u32 (u 0), .int .u32 (u 1), .int .u32 (u 2), .int .u32 (u 3), .int .u32 (u 4), .int .u32 (u 5), .int .u32 (u 6), .int .u32 (u 7)] 24
    have H1 := Lib.hid h1
    have HX := Lib.hid (h1.blk 0 rfl)
    have HY := Lib.hid (h1.blk 1 rfl)
    clear h1 hI2 b1 a0 a1 a2 a3 a4 a5 a6 a7 a8
    have hsm := cSame_cut u v al2 al n cap2 len cap R L _ (H1.out.ids 0 rfl) (H1.out.ids 1 rfl)
    cases he : eqC u R v L with
    | true =>
      rw [he] at hsm HCK
      clear he
      go_wp2_with (first | (refine wpList_load_row rfl 24 _ rfl w1.heap.size rfl 24 #[.int .u32 (u 0), .int .u32 (u 1), .int .u32 (u 2), .int .u32 (u 3), .int .u32 (u 4), .int .u32 (u 5), .int .u32 (u 6), .int .u32 (u 7)] (0, 0) _ HX.out Try.underlying24 rfl (by kernel_rfl) ?_) | (refine wpList_load_row rfl 31 _ rfl w.heap.size rfl 31 #[.int .u32 (v 0), .int .u32 (v 1), .int .u32 (v 2), .int .u32 (v 3), .int .u32 (v 4), .int .u32 (v 5), .int .u32 (v 6), .int .u32 (v 7), .slice al len cap] (0, 0) _ HY.out Try.underlying31 rfl (by kernel_rfl) ?_))
      refine hsm.mono ?_
      clear hsm
      rintro e w2 ⟨rfl, b2⟩
      have HB := Lib.hid (H1.out.next b2).bel; clear b2
      go_wp2
      go_ret
      exact ⟨by rw [HCK.out]; rfl, HB.out⟩
    | false =>
      rw [he] at hsm HCK
      clear he
      go_wp2_with (first | (refine wpList_load_row rfl 24 _ rfl w1.heap.size rfl 24 #[.int .u32 (u 0), .int .u32 (u 1), .int .u32 (u 2), .int .u32 (u 3), .int .u32 (u 4), .int .u32 (u 5), .int .u32 (u 6), .int .u32 (u 7)] (0, 0) _ HX.out Try.underlying24 rfl (by kernel_rfl) ?_) | (refine wpList_load_row rfl 31 _ rfl w.heap.size rfl 31 #[.int .u32 (v 0), .int .u32 (v 1), .int .u32 (v 2), .int .u32 (v 3), .int .u32 (v 4), .int .u32 (v 5), .int .u32 (v 6), .int .u32 (v 7), .slice al len cap] (0, 0) _ HY.out Try.underlying31 rfl (by kernel_rfl) ?_))
      refine hsm.mono ?_
      clear hsm
      rintro e w2 ⟨rfl, b2⟩
      have HB := Lib.hid (H1.out.next b2).bel; clear b2
      go_wp2
      go_ret
      exact ⟨by rw [HCK.out]; rfl, HB.out⟩
  · have HCK : Hid (ckC v L = foC v L) := Lib.hid (by unfold ckC; rw [if_neg hc])
    have hn : (foC v L != 0) = true := by simpa using hc
    generalize foC v L = c at hn hmk HCK
    generalize (foS v L).length = n at hmk
    generalize foS v L = R at hmk
    generalize foV v L = u at hmk
    clear hc
    go_enter Try.func16, Try.ntmps16
    go_wp2_with fail
    refine hmk.mono ?_
    clear hmk
    rintro e w1 ⟨al2, cap2, rfl, hI2, _, b1⟩
    have HB := Lib.hid (((H0.out.next b1).box (g := w1.heap.size) rfl #[.int .u32 (u 0), .int .u32 (u 1), .int .u32 (u 2), .int .u32 (u 3), .int .u32 (u 4), .int .u32 (u 5), .int .u32 (u 6), .int .u32 (u 7)] 24).bel)
    clear hI2 b1
    go_wp2
    go_ret
    exact ⟨by rw [HCK.out]; rfl, HB.out⟩

set_option maxRecDepth 100000 in
set_option maxHeartbeats 2000000 in
theorem rCheck_any (v : Nat → Int) (al : Option Addr) (len cap : Nat) (L : List (Int × Int)) (w : World) (hL : Ids w al len cap L) (hv : InB v) :
    Calls Try.prog 17 #[.agg #[.int .u32 (v 0), .int .u32 (v 1), .int .u32 (v 2), .int .u32 (v 3), .int .u32 (v 4), .int .u32 (v 5), .int .u32 (v 6), .int .u32 (v 7), .slice al len cap]] w fun e w' => e = .returned (.int .i64 (ckD v L)) ∧ Below w.heap.size w w' := by
  have h0 := ((KS.nil w).add hL).box rfl #[.int .u32 (v 0), .int .u32 (v 1), .int .u32 (v 2), .int .u32 (v 3), .int .u32 (v 4), .int .u32 (v 5), .int .u32 (v 6), .int .u32 (v 7), .slice al len cap] 27
  have H0 := Lib.hid h0
  have HIN := Lib.hid hv
  obtain ⟨a0, a1, a2, a3, a4, a5, a6, a7, a8⟩ := cut_cells (h0.blk 0 rfl)
  clear h0 hL hv
  by_cases hc1 : chkV v = 0
  · have HV0 := Lib.hid hc1
    by_cases hc2 : chkS L = 0
    · have HS0 := Lib.hid hc2
      have hc := orZ_both hc1 hc2
      have HCK : Hid (ckD v L = if eqC (cmV v L) (cmS v L) v L = true then 0 else 3) := Lib.hid (by unfold ckD; rw [if_pos hc])
      have HC := Lib.hid (cm_ofD hc)
      clear hc1 hc2 hc
      go_enter Try.func17, Try.ntmps17
      go_wp2_with fail
      refine (rvCheck_any v _).mono ?_
      rw [HV0.out]
      rintro e w1 ⟨rfl, b1⟩
      have h1 := H0.out.next b1
      have H1 := Lib.hid h1
      have e8 := (cut_cells (h1.blk 0 rfl)).2.2.2.2.2.2.2.2
      clear h1 b1 a0 a1 a2 a3 a4 a5 a6 a7 a8
      go_wp2_with fail
      refine (rdCheck_any al len cap L _ (H1.out.ids 0 rfl)).mono ?_
      rw [HS0.out]
      rintro e w2 ⟨rfl, b2⟩
      have h2 := H1.out.next b2
      have H2 := Lib.hid h2
      obtain ⟨a0, a1, a2, a3, a4, a5, a6, a7, a8⟩ := cut_cells (h2.blk 0 rfl)
      have hmk := rMake_cut v al len cap L _ (h2.ids 0 rfl) HIN.out
      rw [HC.out] at hmk
      clear h2 b2 e8
      generalize (cmS v L).length = n at hmk
      generalize cmS v L = R at hmk HCK
      generalize cmV v L = u at hmk HCK
      go_wp2_with fail
      refine hmk.mono ?_
      clear hmk
      rintro e w3 ⟨al2, cap2, rfl, hI2, b3⟩
      have h3 := ((H2.out.next b3).add hI2).box (g := w3.heap.size) rfl #[.int .u32 (u 0), .int .u32 (u 1), .int .u32 (u 2), .int .u32 (u 3), .int .u32 (u 4), .int .u32 (u 5), .int .u32 (u 6), .int .u32 (u 7), .slice al2 n cap2] 27
      have H3 := Lib.hid h3
      have HX := Lib.hid (h3.blk 0 rfl)
      have HY := Lib.hid (h3.blk 1 rfl)
      clear h3 hI2 b3 a0 a1 a2 a3 a4 a5 a6 a7 a8
      have hsm := rSame_cut u v al2 al n cap2 len cap R L _ (H3.out.ids 0 rfl) (H3.out.ids 1 rfl)
      cases he : eqC u R v L with
      | true =>
        rw [he] at hsm HCK
        clear he
        go_wp2_with (first | (refine wpList_load_row rfl 27 _ rfl w3.heap.size rfl 27 #[.int .u32 (u 0), .int .u32 (u 1), .int .u32 (u 2), .int .u32 (u 3), .int .u32 (u 4), .int .u32 (u 5), .int .u32 (u 6), .int .u32 (u 7), .slice al2 n cap2] (0, 0) _ HX.out Try.underlying27 rfl (by kernel_rfl) ?_) | (refine wpList_load_row rfl 27 _ rfl w.heap.size rfl 27 #[.int .u32 (v 0), .int .u32 (v 1), .int .u32 (v 2), .int .u32 (v 3), .int .u32 (v 4), .int .u32 (v 5), .int .u32 (v 6), .int .u32 (v 7), .slice al len cap] (0, 0) _ HY.out Try.underlying27 rfl (by kernel_rfl) ?_))
        refine hsm.mono ?_
        clear hsm
        rintro e w4 ⟨rfl, b4⟩
        have HB := Lib.hid (H3.out.next b4).bel; clear b4
        go_wp2
        go_ret
        exact ⟨by rw [HCK.out]; rfl, HB.out⟩
      | false =>
        rw [he] at hsm HCK
        clear he
        go_wp2_with (first | (refine wpList_load_row rfl 27 _ rfl w3.heap.size rfl 27 #[.int .u32 (u 0), .int .u32 (u 1), .int .u32 (u 2), .int .u32 (u 3), .int .u32 (u 4), .int .u32 (u 5), .int .u32 (u 6), .int .u32 (u 7), .slice al2 n cap2] (0, 0) _ HX.out Try.underlying27 rfl (by kernel_rfl) ?_) | (refine wpList_load_row rfl 27 _ rfl w.heap.size rfl 27 #[.int .u32 (v 0), .int .u32 (v 1), .int .u32 (v 2), .int .u32 (v 3), .int .u32 (v 4), .int .u32 (v 5), .int .u32 (v 6), .int .u32 (v 7), .slice al len cap] (0, 0) _ HY.out Try.underlying27 rfl (by kernel_rfl) ?_))
        refine hsm.mono ?_
        clear hsm
        rintro e w4 ⟨rfl, b4⟩
        have HB := Lib.hid (H3.out.next b4).bel; clear b4
        go_wp2
        go_ret
        exact ⟨by rw [HCK.out]; rfl, HB.out⟩
    · have hcd : ckD v L = chkS L := by
        have hor : orZ (chkV v) (chkS L) = chkS L := by unfold orZ; rw [if_pos hc1]
        unfold ckD; rw [hor, if_neg hc2]
      have HCK := Lib.hid hcd
      have hn : (chkS L != 0) = true := by simpa using hc2
      clear hc1 hc2 hcd
      go_enter Try.func17, Try.ntmps17
      go_wp2_with fail
      refine (rvCheck_any v _).mono ?_
      rw [HV0.out]
      rintro e w1 ⟨rfl, b1⟩
      have h1 := H0.out.next b1
      have H1 := Lib.hid h1
      have e8 := (cut_cells (h1.blk 0 rfl)).2.2.2.2.2.2.2.2
      clear h1 b1 a0 a1 a2 a3 a4 a5 a6 a7 a8
      have hck := rdCheck_any al len cap L _ (H1.out.ids 0 rfl)
      generalize chkS L = c at hck hn HCK
      go_wp2_with fail
      refine hck.mono ?_
      clear hck
      rintro e w2 ⟨rfl, b2⟩
      have HB := Lib.hid (H1.out.next b2).bel; clear b2
      go_wp2
      go_ret
      exact ⟨by rw [HCK.out]; rfl, HB.out⟩
  · have hcd : ckD v L = chkV v := by
      have hor : orZ (chkV v) (chkS L) = chkV v := by unfold orZ; rw [if_neg hc1]
      unfold ckD; rw [hor, if_neg hc1]
    have HCK := Lib.hid hcd
    have hn : (chkV v != 0) = true := by simpa using hc1
    have hz : (chkV v == 0) = false := by simpa using hc1
    clear hc1 hcd
    have hck := rvCheck_any v (w.alloc (.cells #[.int .u32 (v 0), .int .u32 (v 1), .int .u32 (v 2), .int .u32 (v 3), .int .u32 (v 4), .int .u32 (v 5), .int .u32 (v 6), .int .u32 (v 7), .slice al len cap] 27))
    generalize chkV v = c at hck hn hz HCK
    go_enter Try.func17, Try.ntmps17
    go_wp2_with fail
    refine hck.mono ?_
    clear hck
    rintro e w1 ⟨rfl, b1⟩
    have HB := Lib.hid (H0.out.next b1).bel; clear b1
    go_wp2
    go_ret
    exact ⟨by rw [HCK.out]; rfl, HB.out⟩
end Go.Proofs.Ythbdjgebpjffgaa
