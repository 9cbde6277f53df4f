/-
  What is wrong with a list that is to be a set: package dots' Check and the document's.
  Conditions: none.
-/
import Derived.Test.YthbdjgebpjffgaaGreatDoorDotD
import Derived.Test.YthbdjgebpjffgaaGreatDoorVecH
set_option linter.unusedVariables false
set_option linter.unusedSimpArgs false
namespace Go.Proofs.YthbdjgebpjffgaaGreatDoor
open Go.RowKit Go.Shelf Go.Lib

/-- Two names of a list that came in; nothing that was has turned. -/
structure C4 (w0 : World) (b p o' : Nat) (o q x y : Int) (w : World) : Prop where
  bel : Below w0.heap.size w0 w
  i0 : w0.cell? ⟨b, p, none⟩ = some (.int .i64 o)
  i1 : w0.cell? ⟨b, p + 1, none⟩ = some (.int .u32 q)
  j0 : w0.cell? ⟨b, o', none⟩ = some (.int .i64 x)
  j1 : w0.cell? ⟨b, o' + 1, none⟩ = some (.int .u32 y)
section
variable {w0 w w' : World} {b p o' : Nat} {o q x y : Int}
theorem C4.drew (h : C4 w0 b p o' o q x y w) : C4 w0 b p o' o q x y w.drew := ⟨⟨h.bel.os, h.bel.tape, h.bel.output, h.bel.size, h.bel.block⟩, h.i0, h.i1, h.j0, h.j1⟩
theorem C4.next (h : C4 w0 b p o' o q x y w) (k : Below w.heap.size w w') : C4 w0 b p o' o q x y w' := ⟨below_then h.bel k, h.i0, h.i1, h.j0, h.j1⟩
theorem C4.cells (h : C4 w0 b p o' o q x y w) : w.cell? ⟨b, p, none⟩ = some (.int .i64 o) ∧ w.cell? ⟨b, p + 1, none⟩ = some (.int .u32 q) ∧ w.cell? ⟨b, o', none⟩ = some (.int .i64 x) ∧ w.cell? ⟨b, o' + 1, none⟩ = some (.int .u32 y) ∧ C4 w0 b p o' o q x y w :=
  ⟨(h.bel.cell (p := ⟨b, p, none⟩) (cellLt h.i0)).trans h.i0, (h.bel.cell (p := ⟨b, p + 1, none⟩) (cellLt h.i1)).trans h.i1, (h.bel.cell (p := ⟨b, o', none⟩) (cellLt h.j0)).trans h.j0, (h.bel.cell (p := ⟨b, o' + 1, none⟩) (cellLt h.j1)).trans h.j1, h⟩
theorem C4.held {A B C D : Prop} (h : A ∧ B ∧ C ∧ D ∧ C4 w0 b p o' o q x y w) : C4 w0 b p o' o q x y w := h.2.2.2.2
theorem compare_C4 (a c a' c' : Int) (r : Int) (hr : cmpI a c a' c' = r) (h : C4 w0 b p o' o q x y w) :
    Calls Tryz.prog 58 #[.agg #[.int .i64 a, .int .u32 c], .agg #[.int .i64 a', .int .u32 c']] w fun e w' => e = .returned (.int .i64 r) ∧ C4 w0 b p o' o q x y w' :=
  (compare_any a c a' c' w).mono fun _ _ ⟨h1, h2⟩ => ⟨hr ▸ h1, h.next h2⟩
theorem rcompare_C4 (a c a' c' : Int) (r : Int) (hr : cmpI a c a' c' = r) (hc : 0 ≤ c ∧ c ≤ 4294967295) (hc' : 0 ≤ c' ∧ c' ≤ 4294967295) (h : C4 w0 b p o' o q x y w) :
    Calls Tryz.prog 62 #[.agg #[.int .i64 a, .int .u32 c], .agg #[.int .i64 a', .int .u32 c']] w fun e w' => e = .returned (.int .i64 r) ∧ C4 w0 b p o' o q x y w' :=
  (rcompare_any a c a' c' w hc hc').mono fun _ _ ⟨h1, h2⟩ => ⟨hr ▸ h1, h.next h2⟩
end
theorem seq_bd {o q : Int} (h : chk o q = 0) : 0 ≤ q ∧ q ≤ 4294967295 := by have := chk_zero h; omega
theorem Ids.two {w : World} {al : Option Addr} {len cap : Nat} {L : List (Int × Int)} (h : Ids w al len cap L) {k m : Nat} (hm : m = k + 1) (h1 : m < len) : ∃ (b off : Nat) (o q x y : Int), al = some ⟨b, off, none⟩ ∧ L[k]? = some (o, q) ∧ L[m]? = some (x, y) ∧ C4 w b (off + k * 2) (off + m * 2) o q x y w := by
  subst hm
  obtain ⟨b, off, o, q, e, hx, i0, i1⟩ := h.nth k (by omega)
  obtain ⟨b', off', x, y, e', hy, j0, j1⟩ := h.nth (k + 1) h1
  subst e
  simp only [Option.some.injEq, Addr.mk.injEq, and_true] at e'
  obtain ⟨rfl, rfl⟩ := e'
  exact ⟨b, off, o, q, x, y, rfl, hx, hy, Below.refl _ _, i0, i1, j0, j1⟩

set_option maxHeartbeats 1000000 in
theorem dCheck_any (al : Option Addr) (len cap : Nat) (L : List (Int × Int)) (w : World) (h : Ids w al len cap L) :
    Calls Tryz.prog 32 #[.slice al len cap] w fun e w' => e = .returned (.int .i64 (chkS L)) ∧ Below w.heap.size w w' := by
  have hcap := h.bd
  have hfit := h.fit
  have HLL := Lib.hid h.ln
  have HI := Lib.hid h; clear h
  by_cases h64 : 64 < len
  · have HC : Hid (chkS L = 8) := Lib.hid (chkS_long (by rw [← HLL.out]; exact h64))
    go_enter Tryz.func32, Tryz.ntmps32
    go_wp2
    go_ret
    exact ⟨by rw [HC.out]; rfl, Below.refl _ _⟩
  · have h64' : ¬ 64 < L.length := by rw [← HLL.out]; exact h64
    have H64 := Lib.hid h64'; clear h64'
    cases hv : valS L with
    | false =>
      have HV := Lib.hid hv; clear hv
      have HC : Hid (chkS L = 2) := Lib.hid (chkS_range H64.out HV.out)
      go_enter Tryz.func32, Tryz.ntmps32
      go_wp2_with fail
      refine (valid_any al len cap L w HI.out).mono ?_
      rw [HV.out]
      rintro e w1 ⟨rfl, b1⟩
      go_wp2
      go_ret
      exact ⟨by rw [HC.out]; rfl, b1⟩
    | true =>
      have HV := Lib.hid hv; clear hv
      go_enter Tryz.func32, Tryz.ntmps32
      go_wp2_with fail
      refine (valid_any al len cap L w HI.out).mono ?_
      rw [HV.out]
      rintro e w1 ⟨rfl, b1⟩
      have HB1 := Lib.hid b1; clear b1
      go_wp2
      go_loopw [3] (fun i wr => ∃ k m : Nat, i = .int .i64 (m : Int) ∧ m = k + 1 ∧ (k = 0 ∨ m ≤ len) ∧ (∀ j x y, j < k → L[j]? = some x → L[j + 1]? = some y → cf x y < 0) ∧ Below w.heap.size w wr) (fun i _ => len + 1 - (intOf i).toNat)
      case atStart => exact ⟨0, 1, rfl, rfl, .inl rfl, fun j x y hj => by omega, HB1.out⟩
      case round =>
        obtain ⟨k, m, rfl, hm, hk, hold, hb⟩ := hrel
        have HM := Lib.hid hm; clear hm
        have HO := Lib.hid hold; clear hold
        have HB := Lib.hid hb; clear hb
        by_cases hkl : m < len
        · obtain ⟨b, off, o, q, x, y, rfl, hx, hy, hC⟩ := (HI.out.below HB.out).two HM.out hkl
          have HX := Lib.hid hx; clear hx
          have HY := Lib.hid hy; clear hy
          clear hk
          have hw : IntKind.i64.wrap ((m : Int) - 1) = (k : Int) := by have := HM.out; rw [IntKind.wrap_i64]; omega
          have hkn : k < len := by have := HM.out; omega
          by_cases hc : cmpI o q x y < 0
          · obtain ⟨r, hr⟩ : ∃ r, cmpI o q x y = r := ⟨_, rfl⟩
            have hr0 : ¬ 0 ≤ r := by omega
            have HR := Lib.hid hr
            have HC := Lib.hid hc
            clear hr hc
            go_wp2_with fail
            go_region_held3 (fun w' => w'.cell? ⟨b, off + k * 2, none⟩ = some (.int .i64 o) ∧ w'.cell? ⟨b, off + k * 2 + 1, none⟩ = some (.int .u32 q) ∧ w'.cell? ⟨b, off + m * 2, none⟩ = some (.int .i64 x) ∧ w'.cell? ⟨b, off + m * 2 + 1, none⟩ = some (.int .u32 y) ∧ C4 wr b (off + k * 2) (off + m * 2) o q x y w') (first | exact C4.cells (by assumption) | exact C4.cells (C4.drew (by assumption)) | exact C4.cells (C4.drew (C4.held (by assumption)))) ((go_at_call 58; refine (compare_C4 (w0 := wr) (b := b) (p := off + k * 2) (o' := off + m * 2) (o := o) (q := q) (x := x) (y := y) _ _ _ _ r HR.out (by first | assumption | exact C4.held (by assumption))).mono ?_; rintro e w2 ⟨rfl, hJ⟩))
            all_goals
              have HB2 : Hid (Below w.heap.size w w2) := Lib.hid (HB.out.trans (hJ.bel.mono HB.out.size))
              go_wp2
              go_roundw
              case rel => exact ⟨m, m + 1, by go_num, rfl, by omega, fun j x' y' hj hx' hy' => by
                have hmm := HM.out
                by_cases e : j = k
                · subst e; rw [HX.out] at hx'; rw [← hmm, HY.out] at hy'; cases hx'; cases hy'; exact HC.out
                · exact HO.out j x' y' (by omega) hx' hy', HB2.out⟩
              case measure => simp [intOf]; omega
          · have HCS : Hid (chkS L = 3) := Lib.hid (chkS_field H64.out HV.out (asc_no HX.out (HM.out ▸ HY.out) hc))
            obtain ⟨r, hr⟩ : ∃ r, cmpI o q x y = r := ⟨_, rfl⟩
            have hr0 : 0 ≤ r := by omega
            have HR := Lib.hid hr
            clear hr hc
            go_wp2_with fail
            go_region_held3 (fun w' => w'.cell? ⟨b, off + k * 2, none⟩ = some (.int .i64 o) ∧ w'.cell? ⟨b, off + k * 2 + 1, none⟩ = some (.int .u32 q) ∧ w'.cell? ⟨b, off + m * 2, none⟩ = some (.int .i64 x) ∧ w'.cell? ⟨b, off + m * 2 + 1, none⟩ = some (.int .u32 y) ∧ C4 wr b (off + k * 2) (off + m * 2) o q x y w') (first | exact C4.cells (by assumption) | exact C4.cells (C4.drew (by assumption)) | exact C4.cells (C4.drew (C4.held (by assumption)))) ((go_at_call 58; refine (compare_C4 (w0 := wr) (b := b) (p := off + k * 2) (o' := off + m * 2) (o := o) (q := q) (x := x) (y := y) _ _ _ _ r HR.out (by first | assumption | exact C4.held (by assumption))).mono ?_; rintro e w2 ⟨rfl, hJ⟩))
            all_goals
              have HB2 : Hid (Below w.heap.size w w2) := Lib.hid (HB.out.trans (hJ.bel.mono HB.out.size))
              go_wp2
              go_ret
              exact ⟨by rw [HCS.out]; rfl, HB2.out⟩
        · have HCS : Hid (chkS L = 0) := Lib.hid (chkS_ok H64.out HV.out (asc_yes fun j x y hx hy => HO.out j x y (by
            have := (List.getElem?_eq_some_iff.1 hy).1
            have := HLL.out
            have := HM.out
            omega) hx hy))
          have hkk : (len : Int) ≤ (m : Int) := by omega
          clear hk
          go_wp2
          go_ret
          exact ⟨by rw [HCS.out]; rfl, HB.out⟩
set_option maxHeartbeats 1000000 in
theorem rdCheck_any (al : Option Addr) (len cap : Nat) (L : List (Int × Int)) (w : World) (h : Ids w al len cap L) :
    Calls Tryz.prog 39 #[.slice al len cap] w fun e w' => e = .returned (.int .i64 (chkS L)) ∧ Below w.heap.size w w' := by
  have hcap := h.bd
  have hfit := h.fit
  have HLL := Lib.hid h.ln
  have HI := Lib.hid h; clear h
  by_cases h64 : 64 < len
  · have HC : Hid (chkS L = 8) := Lib.hid (chkS_long (by rw [← HLL.out]; exact h64))
    go_enter Tryz.func39, Tryz.ntmps39
    go_wp2
    go_ret
    exact ⟨by rw [HC.out]; rfl, Below.refl _ _⟩
  · have h64' : ¬ 64 < L.length := by rw [← HLL.out]; exact h64
    have H64 := Lib.hid h64'; clear h64'
    cases hv : valS L with
    | false =>
      have HV := Lib.hid hv; clear hv
      have HC : Hid (chkS L = 2) := Lib.hid (chkS_range H64.out HV.out)
      go_enter Tryz.func39, Tryz.ntmps39
      go_wp2_with fail
      refine (names_any al len cap L w HI.out).mono ?_
      rw [HV.out]
      rintro e w1 ⟨rfl, b1⟩
      go_wp2
      go_ret
      exact ⟨by rw [HC.out]; rfl, b1⟩
    | true =>
      have HV := Lib.hid hv; clear hv
      go_enter Tryz.func39, Tryz.ntmps39
      go_wp2_with fail
      refine (names_any al len cap L w HI.out).mono ?_
      rw [HV.out]
      rintro e w1 ⟨rfl, b1⟩
      have HB1 := Lib.hid b1; clear b1
      go_wp2
      go_loopw [3] (fun i wr => ∃ k m : Nat, i = .int .i64 (m : Int) ∧ m = k + 1 ∧ (k = 0 ∨ m ≤ len) ∧ (∀ j x y, j < k → L[j]? = some x → L[j + 1]? = some y → cf x y < 0) ∧ Below w.heap.size w wr) (fun i _ => len + 1 - (intOf i).toNat)
      case atStart => exact ⟨0, 1, rfl, rfl, .inl rfl, fun j x y hj => by omega, HB1.out⟩
      case round =>
        obtain ⟨k, m, rfl, hm, hk, hold, hb⟩ := hrel
        have HM := Lib.hid hm; clear hm
        have HO := Lib.hid hold; clear hold
        have HB := Lib.hid hb; clear hb
        by_cases hkl : m < len
        · obtain ⟨b, off, o, q, x, y, rfl, hx, hy, hC⟩ := (HI.out.below HB.out).two HM.out hkl
          have HX := Lib.hid hx; clear hx
          have HY := Lib.hid hy; clear hy
          have HQ := Lib.hid (seq_bd (valS_at HV.out HX.out))
          have HY2 := Lib.hid (seq_bd (valS_at HV.out HY.out))
          clear hk
          have hw : IntKind.i64.wrap ((m : Int) - 1) = (k : Int) := by have := HM.out; rw [IntKind.wrap_i64]; omega
          have hkn : k < len := by have := HM.out; omega
          by_cases hc : cmpI o q x y < 0
          · obtain ⟨r, hr⟩ : ∃ r, cmpI o q x y = r := ⟨_, rfl⟩
            have hr0 : ¬ 0 ≤ r := by omega
            have HR := Lib.hid hr
            have HC := Lib.hid hc
            clear hr hc
            go_wp2_with fail
            go_region_held3 (fun w' => w'.cell? ⟨b, off + k * 2, none⟩ = some (.int .i64 o) ∧ w'.cell? ⟨b, off + k * 2 + 1, none⟩ = some (.int .u32 q) ∧ w'.cell? ⟨b, off + m * 2, none⟩ = some (.int .i64 x) ∧ w'.cell? ⟨b, off + m * 2 + 1, none⟩ = some (.int .u32 y) ∧ C4 wr b (off + k * 2) (off + m * 2) o q x y w') (first | exact C4.cells (by assumption) | exact C4.cells (C4.drew (by assumption)) | exact C4.cells (C4.drew (C4.held (by assumption)))) ((go_at_call 62; refine (rcompare_C4 (w0 := wr) (b := b) (p := off + k * 2) (o' := off + m * 2) (o := o) (q := q) (x := x) (y := y) _ _ _ _ r HR.out HQ.out HY2.out (by first | assumption | exact C4.held (by assumption))).mono ?_; rintro e w2 ⟨rfl, hJ⟩))
            all_goals
              have HB2 : Hid (Below w.heap.size w w2) := Lib.hid (HB.out.trans (hJ.bel.mono HB.out.size))
              go_wp2
              go_roundw
              case rel => exact ⟨m, m + 1, by go_num, rfl, by omega, fun j x' y' hj hx' hy' => by
                have hmm := HM.out
                by_cases e : j = k
                · subst e; rw [HX.out] at hx'; rw [← hmm, HY.out] at hy'; cases hx'; cases hy'; exact HC.out
                · exact HO.out j x' y' (by omega) hx' hy', HB2.out⟩
              case measure => simp [intOf]; omega
          · have HCS : Hid (chkS L = 3) := Lib.hid (chkS_field H64.out HV.out (asc_no HX.out (HM.out ▸ HY.out) hc))
            obtain ⟨r, hr⟩ : ∃ r, cmpI o q x y = r := ⟨_, rfl⟩
            have hr0 : 0 ≤ r := by omega
            have HR := Lib.hid hr
            clear hr hc
            go_wp2_with fail
            go_region_held3 (fun w' => w'.cell? ⟨b, off + k * 2, none⟩ = some (.int .i64 o) ∧ w'.cell? ⟨b, off + k * 2 + 1, none⟩ = some (.int .u32 q) ∧ w'.cell? ⟨b, off + m * 2, none⟩ = some (.int .i64 x) ∧ w'.cell? ⟨b, off + m * 2 + 1, none⟩ = some (.int .u32 y) ∧ C4 wr b (off + k * 2) (off + m * 2) o q x y w') (first | exact C4.cells (by assumption) | exact C4.cells (C4.drew (by assumption)) | exact C4.cells (C4.drew (C4.held (by assumption)))) ((go_at_call 62; refine (rcompare_C4 (w0 := wr) (b := b) (p := off + k * 2) (o' := off + m * 2) (o := o) (q := q) (x := x) (y := y) _ _ _ _ r HR.out HQ.out HY2.out (by first | assumption | exact C4.held (by assumption))).mono ?_; rintro e w2 ⟨rfl, hJ⟩))
            all_goals
              have HB2 : Hid (Below w.heap.size w w2) := Lib.hid (HB.out.trans (hJ.bel.mono HB.out.size))
              go_wp2
              go_ret
              exact ⟨by rw [HCS.out]; rfl, HB2.out⟩
        · have HCS : Hid (chkS L = 0) := Lib.hid (chkS_ok H64.out HV.out (asc_yes fun j x y hx hy => HO.out j x y (by
            have := (List.getElem?_eq_some_iff.1 hy).1
            have := HLL.out
            have := HM.out
            omega) hx hy))
          have hkk : (len : Int) ≤ (m : Int) := by omega
          clear hk
          go_wp2
          go_ret
          exact ⟨by rw [HCS.out]; rfl, HB.out⟩
end Go.Proofs.YthbdjgebpjffgaaGreatDoor
