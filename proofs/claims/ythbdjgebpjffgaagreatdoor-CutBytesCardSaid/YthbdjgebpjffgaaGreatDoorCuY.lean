/-
  A cut in bytes: the document's Write and Read.
  Conditions: the reader lies in a block of its own; its text has at most 2^20 bytes.
-/
import Derived.Test.YthbdjgebpjffgaaGreatDoorDfI
import Derived.Test.YthbdjgebpjffgaaGreatDoorVrD
set_option linter.unusedVariables false
set_option linter.unusedSimpArgs false
namespace Go.Proofs.YthbdjgebpjffgaaGreatDoor
open Go.RowKit Go.Shelf Go.Lib Go.Sort

/-- What the document's Write tells; what its Read tells: what is wrong, the vector, the list (the place is the same). -/
def cdW (v : Nat → Int) (L : List (Int × Int)) : ByteArray := if ckD v L = 0 then writeV v ++ wrS L else ⟨#[]⟩
def cdC (s : ByteArray) (a : Nat) (c : Int) : Int := failC (dC s (rA s a c) (rC s a c)) (ckD (rV s a c) (dL s (rA s a c) (rC s a c)))
def cdV (s : ByteArray) (a : Nat) (c : Int) : Nat → Int := if cdC s a c = 0 then rV s a c else zV
def cdL (s : ByteArray) (a : Nat) (c : Int) : List (Int × Int) := if cdC s a c = 0 then dL s (rA s a c) (rC s a c) else []
theorem cd_same (h : ∀ v L, InB v → ckC v L = ckD v L) (s : ByteArray) (a : Nat) (c : Int) : crC s a c = cdC s a c ∧ crV s a c = cdV s a c ∧ crL s a c = cdL s a c := by
  have e : crC s a c = cdC s a c := by unfold crC cdC; rw [h _ _ (rV_in s a c)]
  exact ⟨e, by unfold crV cdV; rw [e], by unfold crL cdL; rw [e]⟩
theorem cw_same (h : ∀ v L, InB v → ckC v L = ckD v L) {v : Nat → Int} (hv : InB v) (L : List (Int × Int)) : cwS v L = cdW v L := by unfold cwS cdW; rw [h v L hv]

set_option maxRecDepth 100000 in
set_option maxHeartbeats 2000000 in
theorem rWrite_cut (v : Nat → Int) (al : Option Addr) (len cap : Nat) (L : List (Int × Int)) (w : World) (hL : Ids w al len cap L) (hv : InB v) :
    Calls Tryz.prog 7 #[.agg #[.int .u32 (v 0), .int .u32 (v 1), .int .u32 (v 2), .int .u32 (v 3), .int .u32 (v 4), .int .u32 (v 5), .int .u32 (v 6), .int .u32 (v 7), .slice al len cap]] w fun e w' => e = .returned (.tuple #[.string (cdW v L), .int .i64 (ckD v L)]) ∧ Below w.heap.size w w' := by
  have h0 := ((KS.nil w).add hL).box rfl #[.int .u32 (v 0), .int .u32 (v 1), .int .u32 (v 2), .int .u32 (v 3), .int .u32 (v 4), .int .u32 (v 5), .int .u32 (v 6), .int .u32 (v 7), .slice al len cap] 27
  have H0 := Lib.hid h0
  have HX := Lib.hid (h0.blk 0 rfl)
  have HIN := Lib.hid hv
  have hck := rCheck_any v al len cap L _ (h0.ids 0 rfl) hv
  clear h0 hL hv
  obtain ⟨c, hc⟩ : ∃ c, ckD v L = c := ⟨_, rfl⟩
  rw [hc] at hck
  by_cases hz : c = 0
  · subst hz
    have HC := Lib.hid hc
    have hs0 := ((ckD_iff HIN.out).1 hc).s0
    have HS0 := Lib.hid hs0
    have hws := wrS_size hs0
    have hwv := writeV_size HIN.out
    have HW : Hid (cdW v L = writeV v ++ wrS L) := Lib.hid (by unfold cdW; rw [if_pos hc])
    clear hc hs0
    go_enter Tryz.func7, Tryz.ntmps7
    go_wp2_with (refine wpList_load_row rfl 27 _ rfl w.heap.size rfl 27 #[.int .u32 (v 0), .int .u32 (v 1), .int .u32 (v 2), .int .u32 (v 3), .int .u32 (v 4), .int .u32 (v 5), .int .u32 (v 6), .int .u32 (v 7), .slice al len cap] (0, 0) _ HX.out Tryz.underlying27 rfl (by kernel_rfl) ?_)
    refine hck.mono ?_
    clear hck
    rintro e w1 ⟨rfl, b1⟩
    have h1 := H0.out.next b1
    have H1 := Lib.hid h1
    have x8 := (cut_cells (h1.blk 0 rfl)).2.2.2.2.2.2.2.2
    clear b1 h1
    go_wp2_with fail
    refine (rWrite_any al len cap L _ (H1.out.ids 0 rfl)).mono ?_
    rw [HS0.out]
    rintro e w2 ⟨rfl, b2⟩
    have h2 := H1.out.next b2
    have H2 := Lib.hid h2
    obtain ⟨y0, y1, y2, y3, y4, y5, y6, y7, y8⟩ := cut_cells (h2.blk 0 rfl)
    clear b2 h2 x8
    go_wp2_with fail
    refine (rwrite_any v _ HIN.out).mono ?_
    rintro e w3 ⟨rfl, b3⟩
    have H3 := Lib.hid (H2.out.next b3); clear b3
    generalize hA : writeV v = A at HW hwv ⊢
    generalize hB : wrS L = B at HW hws ⊢
    clear hA hB
    go_wp2
    go_ret2
    exact ⟨by rw [HW.out, HC.out]; rfl, H3.out.bel⟩
  · have HC := Lib.hid hc
    have HW : Hid (cdW v L = ⟨#[]⟩) := Lib.hid (by unfold cdW; rw [if_neg (by rw [hc]; exact hz)])
    have hn : (c != 0) = true := by simpa using hz
    clear hc hz
    go_enter Tryz.func7, Tryz.ntmps7
    go_wp2_with (refine wpList_load_row rfl 27 _ rfl w.heap.size rfl 27 #[.int .u32 (v 0), .int .u32 (v 1), .int .u32 (v 2), .int .u32 (v 3), .int .u32 (v 4), .int .u32 (v 5), .int .u32 (v 6), .int .u32 (v 7), .slice al len cap] (0, 0) _ HX.out Tryz.underlying27 rfl (by kernel_rfl) ?_)
    refine hck.mono ?_
    clear hck
    rintro e w1 ⟨rfl, b1⟩
    have H1 := Lib.hid (H0.out.next b1); clear b1
    go_wp2
    go_ret2
    exact ⟨by rw [HW.out, HC.out]; rfl, H1.out.bel⟩

theorem int_neV {w : World} {g b j : Nat} {v : Nat → Int} {al : Option Addr} {len cap : Nat} {T : TypeId} {o : Int} (hz : Blk w g #[.int .u32 (v 0), .int .u32 (v 1), .int .u32 (v 2), .int .u32 (v 3), .int .u32 (v 4), .int .u32 (v 5), .int .u32 (v 6), .int .u32 (v 7), .slice al len cap] T) (h : w.cell? ⟨b, j, none⟩ = some (.int .i64 o)) : b ≠ g := by
  intro e
  subst e
  rw [Blk.cell hz] at h
  match j, h with
  | 0, h => simp at h
  | 1, h => simp at h
  | 2, h => simp at h
  | 3, h => simp at h
  | 4, h => simp at h
  | 5, h => simp at h
  | 6, h => simp at h
  | 7, h => simp at h
  | 8, h => simp at h
  | j + 9, h => simp at h
theorem ids_setV {w : World} {g i : Nat} {al : Option Addr} {len cap : Nat} {L : List (Int × Int)} {v : Nat → Int} {al' : Option Addr} {len' cap' : Nat} {T : TypeId} (h : Ids w al len cap L) (hz : Blk w g #[.int .u32 (v 0), .int .u32 (v 1), .int .u32 (v 2), .int .u32 (v 3), .int .u32 (v 4), .int .u32 (v 5), .int .u32 (v 6), .int .u32 (v 7), .slice al' len' cap'] T) (x : Value) : Ids (w.setCell ⟨g, i, none⟩ x) al len cap L :=
  ⟨h.ln, h.fit, h.bd, h.nn, fun k hk => by
    obtain ⟨b, off, o, q, h1, h2, h3, h4⟩ := h.nth k hk
    have hb := int_neV hz h3
    have hn : ∀ m, (⟨g, i, none⟩ : Addr) ≠ ⟨b, m, none⟩ := fun m e => hb (by cases e; rfl)
    exact ⟨b, off, o, q, h1, h2, (csOther (hn _)).trans h3, (csOther (hn _)).trans h4⟩⟩

set_option maxRecDepth 100000 in
set_option maxHeartbeats 4000000 in
theorem rRead_cut (r a : Nat) (s : ByteArray) (c : Int) (w : World) (h : RR w r s a (fA a c) c) (ha : a ≤ s.size) (hs : s.size ≤ 1048576) :
    Calls Tryz.prog 12 #[.pointer (some ⟨r, 0, none⟩)] w fun e w' => ∃ al cap, e = .returned (.agg #[.int .u32 (cdV s a c 0), .int .u32 (cdV s a c 1), .int .u32 (cdV s a c 2), .int .u32 (cdV s a c 3), .int .u32 (cdV s a c 4), .int .u32 (cdV s a c 5), .int .u32 (cdV s a c 6), .int .u32 (cdV s a c 7), .slice al (cdL s a c).length cap]) ∧ Ids w' al (cdL s a c).length cap (cdL s a c) ∧ RR w' r s (crA s a c) (fA (crA s a c) (cdC s a c)) (cdC s a c) ∧ Only r w w' := by
  have hlt := Blk.lt h
  have hZ : Blk (w.alloc (.cells #[.int .u32 0, .int .u32 0, .int .u32 0, .int .u32 0, .int .u32 0, .int .u32 0, .int .u32 0, .int .u32 0, .slice none 0 0] 27)) w.heap.size #[.int .u32 0, .int .u32 0, .int .u32 0, .int .u32 0, .int .u32 0, .int .u32 0, .int .u32 0, .int .u32 0, .slice none 0 0] 27 := Blk.new _ _ _
  have hrd := rvecRead_any r a s c _ (Blk.alloc h (.cells #[.int .u32 0, .int .u32 0, .int .u32 0, .int .u32 0, .int .u32 0, .int .u32 0, .int .u32 0, .int .u32 0, .slice none 0 0] 27)) ha hs
  have hale := rA_le (c := c) ha
  have hin := rV_in s a c
  have HCV : Hid (cdC s a c = 0 → cdV s a c = rV s a c ∧ cdL s a c = dL s (rA s a c) (rC s a c)) := Lib.hid fun e => ⟨by unfold cdV; rw [if_pos e], by unfold cdL; rw [if_pos e]⟩
  have HCN : Hid (¬ cdC s a c = 0 → cdV s a c = zV ∧ cdL s a c = []) := Lib.hid fun e => ⟨by unfold cdV; rw [if_neg e], by unfold cdL; rw [if_neg e]⟩
  have HCC : Hid (cdC s a c = failC (dC s (rA s a c) (rC s a c)) (ckD (rV s a c) (dL s (rA s a c) (rC s a c)))) := Lib.hid rfl
  have HCA : Hid (crA s a c = dA s (rA s a c) (rC s a c)) := Lib.hid rfl
  obtain ⟨cc, hcc⟩ : ∃ cc, cdC s a c = cc := ⟨_, rfl⟩
  rw [hcc] at HCV HCN HCC
  have HXC := Lib.hid hcc
  clear hcc
  generalize rA s a c = a1 at hrd hale HCV HCC HCA
  generalize rC s a c = c1 at hrd HCV HCC HCA
  generalize rV s a c = v at hrd hin HCV HCC
  generalize hLL : dL s a1 c1 = L at HCV HCC
  generalize hAA : dA s a1 c1 = a2 at HCA
  generalize hDD : dC s a1 c1 = c2 at HCC
  generalize hKK : ckD v L = ck at HCC
  have HL := Lib.hid hLL
  have HA2 := Lib.hid hAA
  have HD2 := Lib.hid hDD
  have HK2 := Lib.hid hKK
  have HZ := Lib.hid hZ
  have HIN := Lib.hid hin
  clear hLL hAA hDD hKK hZ hin h
  go_enter Tryz.func12, Tryz.ntmps12
  go_wp2_with fail
  refine hrd.mono ?_
  clear hrd
  rintro e w1 ⟨rfl, hr1, ho1⟩
  have hz1 := HZ.out.only ho1 (by omega)
  have hwl1 : w.heap.size < w1.heap.size := hz1.lt
  have HZ1 := Lib.hid (hz1.alloc (.cells #[.int .u32 (v 0), .int .u32 (v 1), .int .u32 (v 2), .int .u32 (v 3), .int .u32 (v 4), .int .u32 (v 5), .int .u32 (v 6), .int .u32 (v 7), .slice none 0 0] 27))
  have HG1 := Lib.hid (Blk.new w1 #[.int .u32 (v 0), .int .u32 (v 1), .int .u32 (v 2), .int .u32 (v 3), .int .u32 (v 4), .int .u32 (v 5), .int .u32 (v 6), .int .u32 (v 7), .slice none 0 0] 27)
  have HO1 := Lib.hid ((((Only.refl r w).alloc (.cells #[.int .u32 0, .int .u32 0, .int .u32 0, .int .u32 0, .int .u32 0, .int .u32 0, .int .u32 0, .int .u32 0, .slice none 0 0] 27)).trans ho1).alloc (.cells #[.int .u32 (v 0), .int .u32 (v 1), .int .u32 (v 2), .int .u32 (v 3), .int .u32 (v 4), .int .u32 (v 5), .int .u32 (v 6), .int .u32 (v 7), .slice none 0 0] 27))
  have hrr := rRead_any r a1 s c1 _ (Blk.alloc hr1 (.cells #[.int .u32 (v 0), .int .u32 (v 1), .int .u32 (v 2), .int .u32 (v 3), .int .u32 (v 4), .int .u32 (v 5), .int .u32 (v 6), .int .u32 (v 7), .slice none 0 0] 27)) hale hs
  rw [HL.out, HA2.out, HD2.out] at hrr
  have hrw1 := hr1.lt
  clear hr1 ho1 hz1
  generalize hnn : L.length = n at hrr
  have HNN := Lib.hid hnn; clear hnn
  go_wp2_with fail
  refine hrr.mono ?_
  clear hrr
  rintro e w2 ⟨al, cap, rfl, hI2, hr2, ho2⟩
  have hg2 := HG1.out.only ho2 (by omega)
  have z8 : w2.cell? ⟨w1.heap.size, 8, none⟩ = some (.slice none 0 0) := (cut_cells hg2).2.2.2.2.2.2.2.2
  have f8 := Blk.free hg2 8
  have HG2 : Hid (Blk (w2.setCell ⟨w1.heap.size, 8, none⟩ (.slice al n cap)) w1.heap.size #[.int .u32 (v 0), .int .u32 (v 1), .int .u32 (v 2), .int .u32 (v 3), .int .u32 (v 4), .int .u32 (v 5), .int .u32 (v 6), .int .u32 (v 7), .slice al n cap] 27) := Lib.hid (by
    have t := hg2.set 8 (.slice al n cap)
    simp only [List.setIfInBounds_toArray, List.set_cons_zero, List.set_cons_succ] at t
    exact t)
  have HZ2 := Lib.hid ((HZ1.out.only ho2 (by omega)).far (show w.heap.size ≠ w1.heap.size by omega) 8 (.slice al n cap))
  have HI2 := Lib.hid (ids_setV (i := 8) hI2 hg2 (.slice al n cap))
  have HR2 : Hid (RR (w2.setCell ⟨w1.heap.size, 8, none⟩ (.slice al n cap)) r s a2 (fA a2 c2) c2) := Lib.hid (Blk.far hr2 (show r ≠ w1.heap.size by omega) 8 (.slice al n cap))
  have HO2 := Lib.hid ((HO1.out.trans ho2).fresh (show w.heap.size ≤ w1.heap.size by omega) 8 (.slice al n cap))
  clear hI2 hr2 ho2 hg2
  have g3 : (w2.setCell ⟨w1.heap.size, 8, none⟩ (.slice al n cap)).cell? ⟨r, 3, none⟩ = some (.int .i64 c2) := HR2.out.c3
  by_cases hc2 : c2 = 0
  · subst hc2
    have hcc : cc = ck := by rw [HCC.out]; rfl
    subst hcc
    go_wp2_with (refine wpList_load_row rfl 27 _ rfl w1.heap.size rfl 27 #[.int .u32 (v 0), .int .u32 (v 1), .int .u32 (v 2), .int .u32 (v 3), .int .u32 (v 4), .int .u32 (v 5), .int .u32 (v 6), .int .u32 (v 7), .slice al n cap] (0, 0) _ HG2.out Tryz.underlying27 rfl (by kernel_rfl) ?_)
    have hck := rCheck_any v al n cap L _ HI2.out HIN.out
    rw [HK2.out] at hck
    refine hck.mono ?_
    clear hck
    rintro e w3 ⟨rfl, b3⟩
    have HZ3 := Lib.hid (HZ2.out.below b3)
    have HO3 := Lib.hid (HO2.out.trans (only_of b3))
    have HR3 : Hid (RR w3 r s a2 (fA a2 0) 0) := Lib.hid (Blk.below HR2.out b3)
    have HI3 := Lib.hid (HI2.out.below b3)
    have HG3 := Lib.hid (HG2.out.below b3)
    clear b3 g3 z8 f8
    go_wp2_with fail
    refine (rfail_any r a2 s 0 cc _ HR3.out).mono ?_
    rw [show failC 0 cc = cc from rfl]
    rintro e w4 ⟨rfl, hr4, ho4⟩
    have HZ4 := Lib.hid (HZ3.out.only ho4 (by omega))
    have HO4 := Lib.hid (HO3.out.trans ho4)
    have HI4 := Lib.hid (ids_onlyR HI3.out HR3.out ho4)
    have HG4 := Lib.hid (HG3.out.only ho4 (by omega))
    have g4 : w4.cell? ⟨r, 3, none⟩ = some (.int .i64 cc) := hr4.c3
    have HR4 := Lib.hid hr4
    clear hr4 ho4
    by_cases hc0 : cc = 0
    · subst hc0
      have HF := Lib.hid (HCV.out rfl)
      go_wp2_with (first | (refine wpList_load_row rfl 27 _ rfl w1.heap.size rfl 27 #[.int .u32 (v 0), .int .u32 (v 1), .int .u32 (v 2), .int .u32 (v 3), .int .u32 (v 4), .int .u32 (v 5), .int .u32 (v 6), .int .u32 (v 7), .slice al n cap] (0, 0) _ HG4.out Tryz.underlying27 rfl (by kernel_rfl) ?_) | (refine wpList_store_row rfl 27 _ _ rfl w.heap.size #[.int .u32 (v 0), .int .u32 (v 1), .int .u32 (v 2), .int .u32 (v 3), .int .u32 (v 4), .int .u32 (v 5), .int .u32 (v 6), .int .u32 (v 7), .slice al n cap] rfl rfl 27 _ HZ4.out (by kernel_rfl) rfl (cut_one _ _ _ _) ?_))
      have hR := setRow_heap _ _ _ #[.int .u32 (v 0), .int .u32 (v 1), .int .u32 (v 2), .int .u32 (v 3), .int .u32 (v 4), .int .u32 (v 5), .int .u32 (v 6), .int .u32 (v 7), .slice al n cap] _ _ HZ4.out
      obtain ⟨r0, r1, r2, r3, r4, r5, r6, r7, r8⟩ := cut_cells hR
      refine bodyPost_ret (v := .agg #[.int .u32 (v 0), .int .u32 (v 1), .int .u32 (v 2), .int .u32 (v 3), .int .u32 (v 4), .int .u32 (v 5), .int .u32 (v 6), .int .u32 (v 7), .slice al n cap]) ?_ rfl ⟨al, cap, by rw [HF.out.1, HF.out.2, HNN.out], by rw [HF.out.2, HNN.out]; exact ids_rowC HI4.out HZ4.out _, ?_, HO4.out.row (Nat.le_refl _) _⟩
      · simp [results, Tryz.results12, go_sem, r0, r1, r2, r3, r4, r5, r6, r7, r8]
      · rw [HCA.out, HXC.out]; exact (setRow_other _ _ _ _ (by omega)).trans HR4.out
    · have HF := Lib.hid (HCN.out hc0)
      have hn : (cc != 0) = true := by simpa using hc0
      go_wp2_with (refine wpList_store_row rfl 27 _ _ rfl w.heap.size #[.int .u32 0, .int .u32 0, .int .u32 0, .int .u32 0, .int .u32 0, .int .u32 0, .int .u32 0, .int .u32 0, .slice none 0 0] rfl rfl 27 _ HZ4.out (by kernel_rfl) rfl (by kernel_rfl) ?_)
      have hR := setRow_heap _ _ _ #[.int .u32 0, .int .u32 0, .int .u32 0, .int .u32 0, .int .u32 0, .int .u32 0, .int .u32 0, .int .u32 0, .slice none 0 0] _ _ HZ4.out
      obtain ⟨r0, r1, r2, r3, r4, r5, r6, r7, r8⟩ := cut_cells (v := zV) (al := none) (len := 0) (cap := 0) hR
      refine bodyPost_ret (v := .agg #[.int .u32 0, .int .u32 0, .int .u32 0, .int .u32 0, .int .u32 0, .int .u32 0, .int .u32 0, .int .u32 0, .slice none 0 0]) ?_ rfl ⟨none, 0, by rw [HF.out.1, HF.out.2]; rfl, by rw [HF.out.2]; exact Ids.nil _, ?_, HO4.out.row (Nat.le_refl _) _⟩
      · simp [results, Tryz.results12, go_sem, r0, r1, r2, r3, r4, r5, r6, r7, r8, zV]
      · rw [HCA.out, HXC.out]; exact (setRow_other _ _ _ _ (by omega)).trans HR4.out
  · have hcc : cc = c2 := by rw [HCC.out]; unfold failC; rw [if_neg hc2]
    subst hcc
    have HF := Lib.hid (HCN.out hc2)
    have hz : (cc == 0) = false := by simpa using hc2
    have hn : (cc != 0) = true := by simpa using hc2
    clear hc2
    go_wp2_with (refine wpList_store_row rfl 27 _ _ rfl w.heap.size #[.int .u32 0, .int .u32 0, .int .u32 0, .int .u32 0, .int .u32 0, .int .u32 0, .int .u32 0, .int .u32 0, .slice none 0 0] rfl rfl 27 _ HZ2.out (by kernel_rfl) rfl (by kernel_rfl) ?_)
    have hR := setRow_heap _ _ _ #[.int .u32 0, .int .u32 0, .int .u32 0, .int .u32 0, .int .u32 0, .int .u32 0, .int .u32 0, .int .u32 0, .slice none 0 0] _ _ HZ2.out
    obtain ⟨r0, r1, r2, r3, r4, r5, r6, r7, r8⟩ := cut_cells (v := zV) (al := none) (len := 0) (cap := 0) hR
    refine bodyPost_ret (v := .agg #[.int .u32 0, .int .u32 0, .int .u32 0, .int .u32 0, .int .u32 0, .int .u32 0, .int .u32 0, .int .u32 0, .slice none 0 0]) ?_ rfl ⟨none, 0, by rw [HF.out.1, HF.out.2]; rfl, by rw [HF.out.2]; exact Ids.nil _, ?_, HO2.out.row (Nat.le_refl _) _⟩
    · simp [results, Tryz.results12, go_sem, r0, r1, r2, r3, r4, r5, r6, r7, r8, zV]
    · rw [HCA.out, HXC.out]; exact (setRow_other _ _ _ _ (by omega)).trans HR2.out
end Go.Proofs.YthbdjgebpjffgaaGreatDoor
