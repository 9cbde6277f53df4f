/-
  The document's example of layer 8 comes out as it says.
  Conditions: none.
-/
import Derived.Test.YthbdjgebpjffgaaCuG
import Derived.Test.YthbdjgebpjffgaaVecG
set_option linter.unusedVariables false
set_option linter.unusedSimpArgs false
namespace Go.Proofs.Ythbdjgebpjffgaa
open Go.RowKit Go.Shelf Go.Lib Go.Sort

theorem fun8_inx (x : Int) (h : 0 ≤ x ∧ x ≤ 9) : InB (fun8 0 x 0 0 0 0 0 0) := by
  intro i hi
  match i, hi with
  | 0, _ => simp [fun8]
  | 1, _ => simp [fun8]; omega
  | 2, _ => simp [fun8]
  | 3, _ => simp [fun8]
  | 4, _ => simp [fun8]
  | 5, _ => simp [fun8]
  | 6, _ => simp [fun8]
  | 7, _ => simp [fun8]
theorem ck1 : cmC (fun8 0 2 0 0 0 0 0 0) [(1, 4)] = 0 ∧ cmS (fun8 0 2 0 0 0 0 0 0) [(1, 4)] = [(1, 4)] := by decide +kernel
theorem ck2 : cmV (fun8 0 2 0 0 0 0 0 0) [(1, 4)] 0 = 0 ∧ cmV (fun8 0 2 0 0 0 0 0 0) [(1, 4)] 1 = 2 ∧ cmV (fun8 0 2 0 0 0 0 0 0) [(1, 4)] 2 = 0 ∧ cmV (fun8 0 2 0 0 0 0 0 0) [(1, 4)] 3 = 0 ∧ cmV (fun8 0 2 0 0 0 0 0 0) [(1, 4)] 4 = 0 ∧ cmV (fun8 0 2 0 0 0 0 0 0) [(1, 4)] 5 = 0 ∧ cmV (fun8 0 2 0 0 0 0 0 0) [(1, 4)] 6 = 0 ∧ cmV (fun8 0 2 0 0 0 0 0 0) [(1, 4)] 7 = 0 := by decide +kernel
theorem ck3 : adC (fun8 0 2 0 0 0 0 0 0) [(1, 4)] 1 3 = 0 ∧ adS (fun8 0 2 0 0 0 0 0 0) [(1, 4)] 1 3 = [] := by decide +kernel
theorem ck4 : adV (fun8 0 2 0 0 0 0 0 0) [(1, 4)] 1 3 0 = 0 ∧ adV (fun8 0 2 0 0 0 0 0 0) [(1, 4)] 1 3 1 = 4 ∧ adV (fun8 0 2 0 0 0 0 0 0) [(1, 4)] 1 3 2 = 0 ∧ adV (fun8 0 2 0 0 0 0 0 0) [(1, 4)] 1 3 3 = 0 ∧ adV (fun8 0 2 0 0 0 0 0 0) [(1, 4)] 1 3 4 = 0 ∧ adV (fun8 0 2 0 0 0 0 0 0) [(1, 4)] 1 3 5 = 0 ∧ adV (fun8 0 2 0 0 0 0 0 0) [(1, 4)] 1 3 6 = 0 ∧ adV (fun8 0 2 0 0 0 0 0 0) [(1, 4)] 1 3 7 = 0 := by decide +kernel
theorem ck5 : joC (fun8 0 2 0 0 0 0 0 0) [(1, 4)] (fun8 0 4 0 0 0 0 0 0) [] = 0 ∧ joS (fun8 0 2 0 0 0 0 0 0) [(1, 4)] (fun8 0 4 0 0 0 0 0 0) [] = [] := by decide +kernel
theorem ck6 : joV (fun8 0 2 0 0 0 0 0 0) [(1, 4)] (fun8 0 4 0 0 0 0 0 0) [] 0 = 0 ∧ joV (fun8 0 2 0 0 0 0 0 0) [(1, 4)] (fun8 0 4 0 0 0 0 0 0) [] 1 = 4 ∧ joV (fun8 0 2 0 0 0 0 0 0) [(1, 4)] (fun8 0 4 0 0 0 0 0 0) [] 2 = 0 ∧ joV (fun8 0 2 0 0 0 0 0 0) [(1, 4)] (fun8 0 4 0 0 0 0 0 0) [] 3 = 0 ∧ joV (fun8 0 2 0 0 0 0 0 0) [(1, 4)] (fun8 0 4 0 0 0 0 0 0) [] 4 = 0 ∧ joV (fun8 0 2 0 0 0 0 0 0) [(1, 4)] (fun8 0 4 0 0 0 0 0 0) [] 5 = 0 ∧ joV (fun8 0 2 0 0 0 0 0 0) [(1, 4)] (fun8 0 4 0 0 0 0 0 0) [] 6 = 0 ∧ joV (fun8 0 2 0 0 0 0 0 0) [(1, 4)] (fun8 0 4 0 0 0 0 0 0) [] 7 = 0 := by decide +kernel
theorem ck7 : leP (fun8 0 2 0 0 0 0 0 0) [(1, 4)] (fun8 0 4 0 0 0 0 0 0) [] = true ∧ leP (fun8 0 4 0 0 0 0 0 0) [] (fun8 0 2 0 0 0 0 0 0) [(1, 4)] = false ∧ eqC (fun8 0 4 0 0 0 0 0 0) [] (fun8 0 4 0 0 0 0 0 0) [] = true ∧ hasC (fun8 0 2 0 0 0 0 0 0) [(1, 4)] 1 4 = true ∧ hasC (fun8 0 2 0 0 0 0 0 0) [(1, 4)] 1 3 = false := by decide +kernel

theorem lit_cut {w : World} {g : Nat} {x : Int} {al : Option Addr} {len cap : Nat} {T : TypeId} (h : Blk w g #[.int .u32 0, .int .u32 x, .int .u32 0, .int .u32 0, .int .u32 0, .int .u32 0, .int .u32 0, .int .u32 0, .slice al len cap] T) : w.cell? ⟨g, 0, none⟩ = some (.int .u32 0) ∧ w.cell? ⟨g, 1, none⟩ = some (.int .u32 x) ∧ w.cell? ⟨g, 2, none⟩ = some (.int .u32 0) ∧ w.cell? ⟨g, 3, none⟩ = some (.int .u32 0) ∧ w.cell? ⟨g, 4, none⟩ = some (.int .u32 0) ∧ w.cell? ⟨g, 5, none⟩ = some (.int .u32 0) ∧ w.cell? ⟨g, 6, none⟩ = some (.int .u32 0) ∧ w.cell? ⟨g, 7, none⟩ = some (.int .u32 0) ∧ w.cell? ⟨g, 8, none⟩ = some (.slice al len cap) :=
  ⟨by rw [Blk.cell h]; rfl, by rw [Blk.cell h]; rfl, by rw [Blk.cell h]; rfl, by rw [Blk.cell h]; rfl, by rw [Blk.cell h]; rfl, by rw [Blk.cell h]; rfl, by rw [Blk.cell h]; rfl, by rw [Blk.cell h]; rfl, by rw [Blk.cell h]; rfl⟩
theorem mk_lit (w : World) :
    Calls Try.prog 9 #[.agg #[.int .u32 0, .int .u32 2, .int .u32 0, .int .u32 0, .int .u32 0, .int .u32 0, .int .u32 0, .int .u32 0], .slice (some ⟨w.heap.size, 0, none⟩) 1 1] (w.alloc (.cells #[.int .i64 1, .int .u32 4] 29)) fun e w' => ∃ al cap, e = .returned (.tuple #[.agg #[.int .u32 0, .int .u32 2, .int .u32 0, .int .u32 0, .int .u32 0, .int .u32 0, .int .u32 0, .int .u32 0, .slice al 1 cap], .int .i64 0]) ∧ Ids w' al 1 cap [(1, 4)] ∧ Flat al ∧ Below w.heap.size w w' := by
  have h := cMake_cut (fun8 0 2 0 0 0 0 0 0) _ _ _ [(1, 4)] _ (lit1 (Blk.new w #[.int .i64 1, .int .u32 4] 29)) (.inr ⟨_, _, rfl⟩) (fun8_inx 2 (by omega))
  obtain ⟨e0, e1, e2, e3, e4, e5, e6, e7⟩ := ck2
  rw [ck1.1, ck1.2, e0, e1, e2, e3, e4, e5, e6, e7] at h
  exact h.mono fun _ _ ⟨al, cap, h1, h2, h3, h4⟩ => ⟨al, cap, h1, h2, h3, ((Below.refl _ w).alloc (Nat.le_refl _) _).trans (h4.mono (by simp))⟩
theorem ad_lit (al : Option Addr) (cap : Nat) (w : World) (h : Ids w al 1 cap [(1, 4)]) (hF : Flat al) :
    Calls Try.prog 11 #[.agg #[.int .u32 0, .int .u32 2, .int .u32 0, .int .u32 0, .int .u32 0, .int .u32 0, .int .u32 0, .int .u32 0, .slice al 1 cap], .agg #[.int .i64 1, .int .u32 3]] w fun e w' => ∃ al2 cap2, e = .returned (.tuple #[.agg #[.int .u32 0, .int .u32 4, .int .u32 0, .int .u32 0, .int .u32 0, .int .u32 0, .int .u32 0, .int .u32 0, .slice al2 0 cap2], .int .i64 0]) ∧ Ids w' al2 0 cap2 [] ∧ Flat al2 ∧ Below w.heap.size w w' := by
  have h := cAdd_any (fun8 0 2 0 0 0 0 0 0) al 1 cap [(1, 4)] 1 3 w h hF (fun8_inx 2 (by omega))
  obtain ⟨e0, e1, e2, e3, e4, e5, e6, e7⟩ := ck4
  rw [ck3.1, ck3.2, e0, e1, e2, e3, e4, e5, e6, e7] at h
  exact h
theorem jo_lit (al al' : Option Addr) (cap cap' : Nat) (w : World) (h : Ids w al 1 cap [(1, 4)]) (h' : Ids w al' 0 cap' []) (hF : Flat al) (hF' : Flat al') :
    Calls Try.prog 21 #[.agg #[.int .u32 0, .int .u32 2, .int .u32 0, .int .u32 0, .int .u32 0, .int .u32 0, .int .u32 0, .int .u32 0, .slice al 1 cap], .agg #[.int .u32 0, .int .u32 4, .int .u32 0, .int .u32 0, .int .u32 0, .int .u32 0, .int .u32 0, .int .u32 0, .slice al' 0 cap']] w fun e w' => ∃ al2 cap2, e = .returned (.tuple #[.agg #[.int .u32 0, .int .u32 4, .int .u32 0, .int .u32 0, .int .u32 0, .int .u32 0, .int .u32 0, .int .u32 0, .slice al2 0 cap2], .int .i64 0]) ∧ Ids w' al2 0 cap2 [] ∧ Flat al2 ∧ Below w.heap.size w w' := by
  have h := cJoin_any (fun8 0 2 0 0 0 0 0 0) (fun8 0 4 0 0 0 0 0 0) al al' 1 cap 0 cap' [(1, 4)] [] w h h' hF hF' (fun8_inx 2 (by omega)) (fun8_inx 4 (by omega))
  obtain ⟨e0, e1, e2, e3, e4, e5, e6, e7⟩ := ck6
  rw [ck5.1, ck5.2, e0, e1, e2, e3, e4, e5, e6, e7] at h
  exact h
theorem le_lit (al al' : Option Addr) (cap cap' : Nat) (w : World) (h : Ids w al 1 cap [(1, 4)]) (h' : Ids w al' 0 cap' []) (hF : Flat al) (hF' : Flat al') :
    Calls Try.prog 23 #[.agg #[.int .u32 0, .int .u32 2, .int .u32 0, .int .u32 0, .int .u32 0, .int .u32 0, .int .u32 0, .int .u32 0, .slice al 1 cap], .agg #[.int .u32 0, .int .u32 4, .int .u32 0, .int .u32 0, .int .u32 0, .int .u32 0, .int .u32 0, .int .u32 0, .slice al' 0 cap']] w fun e w' => e = .returned (.bool true) ∧ Below w.heap.size w w' := by
  have h := cLE_any (fun8 0 2 0 0 0 0 0 0) (fun8 0 4 0 0 0 0 0 0) al al' 1 cap 0 cap' [(1, 4)] [] w h h' hF hF' (fun8_inx 2 (by omega)) (fun8_inx 4 (by omega))
  rw [ck7.1] at h
  exact h
theorem le_lit2 (al al' : Option Addr) (cap cap' : Nat) (w : World) (h : Ids w al 1 cap [(1, 4)]) (h' : Ids w al' 0 cap' []) (hF : Flat al) (hF' : Flat al') :
    Calls Try.prog 23 #[.agg #[.int .u32 0, .int .u32 4, .int .u32 0, .int .u32 0, .int .u32 0, .int .u32 0, .int .u32 0, .int .u32 0, .slice al' 0 cap'], .agg #[.int .u32 0, .int .u32 2, .int .u32 0, .int .u32 0, .int .u32 0, .int .u32 0, .int .u32 0, .int .u32 0, .slice al 1 cap]] w fun e w' => e = .returned (.bool false) ∧ Below w.heap.size w w' := by
  have h := cLE_any (fun8 0 4 0 0 0 0 0 0) (fun8 0 2 0 0 0 0 0 0) al' al 0 cap' 1 cap [] [(1, 4)] w h' h hF' hF (fun8_inx 4 (by omega)) (fun8_inx 2 (by omega))
  rw [ck7.2.1] at h
  exact h
theorem sm_lit (al al' : Option Addr) (cap cap' : Nat) (w : World) (h : Ids w al 0 cap []) (h' : Ids w al' 0 cap' []) :
    Calls Try.prog 25 #[.agg #[.int .u32 0, .int .u32 4, .int .u32 0, .int .u32 0, .int .u32 0, .int .u32 0, .int .u32 0, .int .u32 0, .slice al 0 cap], .agg #[.int .u32 0, .int .u32 4, .int .u32 0, .int .u32 0, .int .u32 0, .int .u32 0, .int .u32 0, .int .u32 0, .slice al' 0 cap']] w fun e w' => e = .returned (.bool true) ∧ Below w.heap.size w w' := by
  have h := cSame_cut (fun8 0 4 0 0 0 0 0 0) (fun8 0 4 0 0 0 0 0 0) al al' 0 cap 0 cap' [] [] w h h'
  rw [ck7.2.2.1] at h
  exact h
theorem ha_lit (al : Option Addr) (cap : Nat) (w : World) (h : Ids w al 1 cap [(1, 4)]) :
    Calls Try.prog 18 #[.agg #[.int .u32 0, .int .u32 2, .int .u32 0, .int .u32 0, .int .u32 0, .int .u32 0, .int .u32 0, .int .u32 0, .slice al 1 cap], .agg #[.int .i64 1, .int .u32 4]] w fun e w' => e = .returned (.bool true) ∧ Below w.heap.size w w' := by
  have h := cHas_cut (fun8 0 2 0 0 0 0 0 0) al 1 cap [(1, 4)] 1 4 w h
  rw [ck7.2.2.2.1] at h
  exact h
theorem ha_lit2 (al : Option Addr) (cap : Nat) (w : World) (h : Ids w al 1 cap [(1, 4)]) :
    Calls Try.prog 18 #[.agg #[.int .u32 0, .int .u32 2, .int .u32 0, .int .u32 0, .int .u32 0, .int .u32 0, .int .u32 0, .int .u32 0, .slice al 1 cap], .agg #[.int .i64 1, .int .u32 3]] w fun e w' => e = .returned (.bool false) ∧ Below w.heap.size w w' := by
  have h := cHas_cut (fun8 0 2 0 0 0 0 0 0) al 1 cap [(1, 4)] 1 3 w h
  rw [ck7.2.2.2.2] at h
  exact h
theorem eq_lit (x : Int) (w : World) : (Op.equalIn 10000 24 (.agg #[.int .u32 0, .int .u32 x, .int .u32 0, .int .u32 0, .int .u32 0, .int .u32 0, .int .u32 0, .int .u32 0]) (.agg #[.int .u32 0, .int .u32 x, .int .u32 0, .int .u32 0, .int .u32 0, .int .u32 0, .int .u32 0, .int .u32 0])).run Try.prog w = .ok true w := by
  rw [← show eqV (fun8 0 x 0 0 0 0 0 0) (fun8 0 x 0 0 0 0 0 0) = true from eqV_iff.2 fun _ _ => rfl]; exact eql_vec 9998 (fun8 0 x 0 0 0 0 0 0) (fun8 0 x 0 0 0 0 0 0) w

set_option maxRecDepth 100000 in
set_option maxHeartbeats 4000000 in
theorem cworks_any (w : World) : Calls Try.prog 26 #[] w fun e w' => e = .returned (.bool true) ∧ Below w.heap.size w w' := by
  go_enter Try.func26, Try.ntmps26
  go_wp2_with fail
  refine (mk_lit w).mono ?_
  rintro e w1 ⟨al1, cap1, rfl, hI1, hF1, b1⟩
  have h1 := (((KS.nil w).next b1).add hI1).box (g := w1.heap.size) rfl #[.int .u32 0, .int .u32 2, .int .u32 0, .int .u32 0, .int .u32 0, .int .u32 0, .int .u32 0, .int .u32 0, .slice al1 1 cap1] 31
  have H1 := Lib.hid h1
  obtain ⟨a0, a1, a2, a3, a4, a5, a6, a7, a8⟩ := lit_cut (h1.blk 0 rfl)
  clear b1 hI1 h1
  go_wp2_with fail
  refine (ad_lit al1 cap1 _ (H1.out.ids 0 rfl) hF1).mono ?_
  rintro e w2 ⟨al2, cap2, rfl, hI2, hF2, b2⟩
  have h2 := ((H1.out.next b2).add hI2).box (g := w2.heap.size) rfl #[.int .u32 0, .int .u32 4, .int .u32 0, .int .u32 0, .int .u32 0, .int .u32 0, .int .u32 0, .int .u32 0, .slice al2 0 cap2] 31
  have H2 := Lib.hid h2
  clear a0 a1 a2 a3 a4 a5 a6 a7 a8
  obtain ⟨a0, a1, a2, a3, a4, a5, a6, a7, a8⟩ := lit_cut (h2.blk 1 rfl)
  obtain ⟨c0, c1, c2, c3, c4, c5, c6, c7, c8⟩ := lit_cut (h2.blk 0 rfl)
  clear b2 hI2 h2
  go_wp2_with fail
  refine (jo_lit al1 al2 cap1 cap2 _ (H2.out.ids 1 rfl) (H2.out.ids 0 rfl) hF1 hF2).mono ?_
  rintro e w3 ⟨al3, cap3, rfl, hI3, hF3, b3⟩
  have h3 := ((H2.out.next b3).add hI3).box (g := w3.heap.size) rfl #[.int .u32 0, .int .u32 4, .int .u32 0, .int .u32 0, .int .u32 0, .int .u32 0, .int .u32 0, .int .u32 0, .slice al3 0 cap3] 31
  have H3 := Lib.hid h3
  clear a0 a1 a2 a3 a4 a5 a6 a7 a8 c0 c1 c2 c3 c4 c5 c6 c7 c8
  obtain ⟨a0, a1, a2, a3, a4, a5, a6, a7, a8⟩ := lit_cut (h3.blk 2 rfl)
  obtain ⟨c0, c1, c2, c3, c4, c5, c6, c7, c8⟩ := lit_cut (h3.blk 1 rfl)
  obtain ⟨j0, j1, j2, j3, j4, j5, j6, j7, j8⟩ := lit_cut (h3.blk 0 rfl)
  clear b3 hI3 h3
  have q2 := eq_lit 2
  have q4 := eq_lit 4
  go_wp2_with fail
  refine (le_lit al1 al2 cap1 cap2 _ (H3.out.ids 2 rfl) (H3.out.ids 1 rfl) hF1 hF2).mono ?_
  rintro e w4 ⟨rfl, b4⟩
  have h4 := H3.out.next b4
  have H4 := Lib.hid h4
  clear a0 a1 a2 a3 a4 a5 a6 a7 a8 c0 c1 c2 c3 c4 c5 c6 c7 c8 j0 j1 j2 j3 j4 j5 j6 j7 j8
  obtain ⟨a0, a1, a2, a3, a4, a5, a6, a7, a8⟩ := lit_cut (h4.blk 2 rfl)
  obtain ⟨c0, c1, c2, c3, c4, c5, c6, c7, c8⟩ := lit_cut (h4.blk 1 rfl)
  obtain ⟨j0, j1, j2, j3, j4, j5, j6, j7, j8⟩ := lit_cut (h4.blk 0 rfl)
  clear b4 h4
  go_wp2_with fail
  refine (le_lit2 al1 al2 cap1 cap2 _ (H4.out.ids 2 rfl) (H4.out.ids 1 rfl) hF1 hF2).mono ?_
  rintro e w5 ⟨rfl, b5⟩
  have h5 := H4.out.next b5
  have H5 := Lib.hid h5
  clear a0 a1 a2 a3 a4 a5 a6 a7 a8 c0 c1 c2 c3 c4 c5 c6 c7 c8 j0 j1 j2 j3 j4 j5 j6 j7 j8
  obtain ⟨a0, a1, a2, a3, a4, a5, a6, a7, a8⟩ := lit_cut (h5.blk 2 rfl)
  obtain ⟨c0, c1, c2, c3, c4, c5, c6, c7, c8⟩ := lit_cut (h5.blk 1 rfl)
  obtain ⟨j0, j1, j2, j3, j4, j5, j6, j7, j8⟩ := lit_cut (h5.blk 0 rfl)
  clear b5 h5
  go_wp2_with fail
  refine (sm_lit al3 al2 cap3 cap2 _ (H5.out.ids 0 rfl) (H5.out.ids 1 rfl)).mono ?_
  rintro e w6 ⟨rfl, b6⟩
  have h6 := H5.out.next b6
  have H6 := Lib.hid h6
  clear a0 a1 a2 a3 a4 a5 a6 a7 a8 c0 c1 c2 c3 c4 c5 c6 c7 c8 j0 j1 j2 j3 j4 j5 j6 j7 j8
  obtain ⟨a0, a1, a2, a3, a4, a5, a6, a7, a8⟩ := lit_cut (h6.blk 2 rfl)
  obtain ⟨c0, c1, c2, c3, c4, c5, c6, c7, c8⟩ := lit_cut (h6.blk 1 rfl)
  obtain ⟨j0, j1, j2, j3, j4, j5, j6, j7, j8⟩ := lit_cut (h6.blk 0 rfl)
  clear b6 h6
  go_wp2_with fail
  refine (ha_lit al1 cap1 _ (H6.out.ids 2 rfl)).mono ?_
  rintro e w7 ⟨rfl, b7⟩
  have h7 := H6.out.next b7
  have H7 := Lib.hid h7
  clear a0 a1 a2 a3 a4 a5 a6 a7 a8 c0 c1 c2 c3 c4 c5 c6 c7 c8 j0 j1 j2 j3 j4 j5 j6 j7 j8
  obtain ⟨a0, a1, a2, a3, a4, a5, a6, a7, a8⟩ := lit_cut (h7.blk 2 rfl)
  obtain ⟨c0, c1, c2, c3, c4, c5, c6, c7, c8⟩ := lit_cut (h7.blk 1 rfl)
  obtain ⟨j0, j1, j2, j3, j4, j5, j6, j7, j8⟩ := lit_cut (h7.blk 0 rfl)
  clear b7 h7
  go_wp2_with fail
  refine (ha_lit2 al1 cap1 _ (H7.out.ids 2 rfl)).mono ?_
  rintro e w8 ⟨rfl, b8⟩
  have h8 := H7.out.next b8
  have H8 := Lib.hid h8
  clear a0 a1 a2 a3 a4 a5 a6 a7 a8 c0 c1 c2 c3 c4 c5 c6 c7 c8 j0 j1 j2 j3 j4 j5 j6 j7 j8
  obtain ⟨a0, a1, a2, a3, a4, a5, a6, a7, a8⟩ := lit_cut (h8.blk 2 rfl)
  obtain ⟨c0, c1, c2, c3, c4, c5, c6, c7, c8⟩ := lit_cut (h8.blk 1 rfl)
  obtain ⟨j0, j1, j2, j3, j4, j5, j6, j7, j8⟩ := lit_cut (h8.blk 0 rfl)
  clear b8 h8
  go_wp2
  go_ret
  exact ⟨rfl, H8.out.bel⟩
end Go.Proofs.Ythbdjgebpjffgaa

/-
  What the laws of layer 8 do inline: append of a list to a literal, within a region that draws its order; boxes filled later.
  Conditions: none.
-/

namespace Go.Proofs.Ythbdjgebpjffgaa
open Go.RowKit Go.Shelf Go.Lib Go.Sort

theorem KS.ne {w0 W : World} {Bs : List Bx} {Rs : List Rl} (h : KS w0 Bs Rs W) : (∀ x, x ∈ Bs → x.1 ≠ W.heap.size) ∧ w0.heap.size ≤ W.heap.size :=
  ⟨fun x hx => by have := (h.bs x hx).lt; omega, h.bel.size⟩
theorem wp_append_list {w : World} {o : Oper} {a : Act} {K : Act → World → Prop} {Q : Exit → Act → World → Prop} (s x : Operand)
    (ho : o.op = .call { callee := .builtin .append, args := #[s, x], argTypes := #[25, 25] })
    (base : Nat) (i : TypeInfo) (hi : Try.prog.info? 29 = some i) (hz : i.zero = some (.agg #[.int .i64 0, .int .u32 0])) (hsize : i.size = 2) (hby : i.bytes = 16)
    (v : Value) (n : Nat) (N : List (Int × Int)) (hs : a.eval s = v) (hown : w.ownsRow base 29 2 v n (idCs N))
    (ad : Option Addr) (m c : Nat) (L : List (Int × Int)) (hx : a.eval x = .slice ad m c) (hsrc : Ids w ad m c L)
    (hl : n + m ≤ 1048576) (hbase : base ≤ w.heap.size)
    (h : ∀ v' w', w'.ownsRow base 29 2 v' (n + m) (idCs (N ++ L)) → w.grownBy w' v.ownBlock → K (a.put o.dst v') w') : o.wp Try.prog a w K Q := by
  cases ad with
  | none =>
    obtain rfl : m = 0 := by
      rcases Nat.eq_zero_or_pos m with e | e
      · exact e
      · obtain ⟨_, _, _, _, k, _⟩ := hsrc.nth 0 e; cases k
    obtain rfl : c = 0 := hsrc.nn rfl
    obtain rfl : L = [] := List.length_eq_zero_iff.1 hsrc.ln.symm
    have hrun := run_append_owned_none (P := Try.prog) (w := w) base 25 o.type 29 i 2 Try.underlying25 hi v n (idCs N) hown
    unfold Oper.wp
    simp [execOp, ho, resolve, invoke, builtin, hs, hx, hrun, Result.andThen]
    exact h v w (by simpa using hown) ⟨rfl, rfl, rfl, Nat.le_refl _, fun _ _ _ => rfl⟩
  | some ad =>
    refine wp_append_own w s x 25 ho base 29 i (.agg #[.int .i64 0, .int .u32 0]) 2 16 Try.underlying25 hi hz hsize hby rfl (by decide) v n (idCs N) hs hown ad m c (idCs L) hx (by rw [idCs_len, hsrc.ln]) hsrc.src (idCs_one L) (by unfold maxLen; omega) (by omega) hbase ?_
    intro v' w' hown' hgrow _
    exact h v' w' (by rw [idCs_app]; exact hown') hgrow
/-- What the append gives, and what it leaves. -/
theorem app_got {w : World} {B : Nat} {v : Value} {n : Nat} {L : List (Int × Int)} (h : w.ownsRow B 29 2 v (0 + n) (idCs ([] ++ L))) : ∃ al cap, v = .slice al n cap ∧ Ids w al n cap L ∧ Flat al := by
  obtain ⟨h1, al, cap, h2, h3, h4⟩ := own_ids (L := L) h
  have : n = L.length := by omega
  subst this
  exact ⟨al, cap, h2, h3, h4⟩
theorem lit_block {g n c : Nat} {B : Nat} (h : g ≠ B) : some g ≠ (Value.slice (some ⟨B, 0, none⟩) n c).ownBlock := fun e => h (by simpa [Value.ownBlock] using e)
end Go.Proofs.Ythbdjgebpjffgaa
