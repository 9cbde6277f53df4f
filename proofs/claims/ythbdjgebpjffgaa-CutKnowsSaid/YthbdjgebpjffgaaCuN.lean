/-
  The walk of the law CutKnows.
  Conditions: none.
-/
import Derived.Test.YthbdjgebpjffgaaCuK
set_option linter.unusedVariables false
set_option linter.unusedSimpArgs false
namespace Go.Proofs.Ythbdjgebpjffgaa
open Go.RowKit Go.Shelf Go.Lib Go.Sort

theorem kn_made {a : Nat → Int} {L : List (Int × Int)} (ha : InB a) (h : cmC a L = 0) : InB (cmV a L) ∧ IsC (cmV a L) (cmS a L) ∧ ckC (cmV a L) (cmS a L) = 0 :=
  ⟨cm_in L ha, cm_is ha h, (ckC_iff (cm_in L ha)).2 (cm_is ha h)⟩
/-- What Join gives of two cuts. -/
theorem kn_join {p r : Nat → Int} {P S : List (Int × Int)} (ip : InB p) (ir : InB r) (cp : ckC p P = 0) (cr : ckC r S = 0) : InB (joV p P r S) ∧ (joC p P r S = 0 → (∀ o q, hasC (joV p P r S) (joS p P r S) o q = (hasC p P o q || hasC r S o q)) ∧ leP p P (joV p P r S) (joS p P r S) = true ∧ leP r S (joV p P r S) (joS p P r S) = true) := by
  obtain ⟨e1, e2, e3⟩ := jo_ok (orZ_both cp cr)
  rw [e1, e2, e3]
  refine ⟨cm_in _ (join_in ip ir), fun h => ?_⟩
  obtain ⟨f1, f2, f3, f4⟩ := jo_facts ip ir h
  have ck := (ckC_iff (cm_in (P ++ S) (join_in ip ir))).2 f1
  exact ⟨f2, by rw [leP_c cp ck]; exact f3, by rw [leP_c cr ck]; exact f4⟩
/-- What Add gives of a cut. -/
theorem kn_add {p : Nat → Int} {P : List (Int × Int)} {o q : Int} (ip : InB p) (cp : ckC p P = 0) : InB (adV p P o q) ∧ (adC p P o q = 0 → hasC (adV p P o q) (adS p P o q) o q = true ∧ hasC p P o q = false ∧ leP p P (adV p P o q) (adS p P o q) = true ∧ leP (adV p P o q) (adS p P o q) p P = false) := by
  have hin : InB (adV p P o q) := by
    unfold adV
    split
    · exact cm_in _ ip
    · intro i _; unfold zV; omega
  refine ⟨hin, fun h => ?_⟩
  by_cases hz : orZ (ckC p P) (chk o q) = 0
  · cases hh : hasC p P o q with
    | true => rw [(ad_twice hz hh).2.2] at h; exact absurd h (by decide)
    | false =>
      obtain ⟨e1, e2, e3⟩ := ad_ok hz hh
      rw [e3] at h
      obtain ⟨f1, f2, f3, f4⟩ := ad_facts ip hh h
      rw [e1, e2]
      have ck := (ckC_iff (cm_in (P ++ [(o, q)]) ip)).2 f1
      exact ⟨f2, rfl, by rw [leP_c cp ck]; exact f3, by rw [leP_c ck cp]; exact f4⟩
  · rw [(ad_bad rfl hz).2.2] at h; exact absurd h hz

set_option maxRecDepth 100000 in
set_option maxHeartbeats 8000000 in
theorem cutKnows_walk (a : Nat → Int) (al : Option Addr) (len cap : Nat) (L : List (Int × Int)) (b : Nat → Int) (al' : Option Addr) (len' cap' : Nat) (M : List (Int × Int)) (o q : Int) (w : World) (ha : ∀ i, i < 8 → (Lit.int .u32 (a i)).wf = true) (hL : Ids w al len cap L) (hb : ∀ i, i < 8 → (Lit.int .u32 (b i)).wf = true) (hM : Ids w al' len' cap' M) (_ho : (Lit.int .i64 o).wf = true) (_hq : (Lit.int .u32 q).wf = true) :
    Calls Try.prog 5 #[.agg #[.int .u32 (a 0), .int .u32 (a 1), .int .u32 (a 2), .int .u32 (a 3), .int .u32 (a 4), .int .u32 (a 5), .int .u32 (a 6), .int .u32 (a 7), .slice al len cap], .agg #[.int .u32 (b 0), .int .u32 (b 1), .int .u32 (b 2), .int .u32 (b 3), .int .u32 (b 4), .int .u32 (b 5), .int .u32 (b 6), .int .u32 (b 7), .slice al' len' cap'], .agg #[.int .i64 o, .int .u32 q]] w fun e w' => e = .returned (.bool true) ∧ Below w.heap.size w w' := by
  obtain ⟨ti, hi, hz0, hz1, hz2⟩ := info_parts Try.infoId
  have hina : InB a := fun i hi => by have := bounds_u32 (ha i hi); omega
  have HINa := Lib.hid hina
  have hcapL := hL.bd
  have hfitL := hL.fit
  have hinb : InB b := fun i hi => by have := bounds_u32 (hb i hi); omega
  have HINb := Lib.hid hinb
  have hcapM := hM.bd
  have hfitM := hM.fit
  have h0 := (((((KS.nil w).add hL).add hM).box rfl #[.int .u32 (a 0), .int .u32 (a 1), .int .u32 (a 2), .int .u32 (a 3), .int .u32 (a 4), .int .u32 (a 5), .int .u32 (a 6), .int .u32 (a 7), .slice al len cap] 27).box (g := w.heap.size + 1) (by simp) #[.int .u32 (b 0), .int .u32 (b 1), .int .u32 (b 2), .int .u32 (b 3), .int .u32 (b 4), .int .u32 (b 5), .int .u32 (b 6), .int .u32 (b 7), .slice al' len' cap'] 27).box (g := w.heap.size + 1 + 1) (by simp) #[.int .i64 o, .int .u32 q] 29
  have H0 := Lib.hid h0
  clear h0 hL hM ha hb hina hinb _ho _hq
  obtain ⟨v1, hv1⟩ : ∃ u, cmV a L = u := ⟨_, rfl⟩
  obtain ⟨S1, hs1⟩ : ∃ R, cmS a L = R := ⟨_, rfl⟩
  obtain ⟨c1, hc1⟩ : ∃ c, cmC a L = c := ⟨_, rfl⟩
  obtain ⟨n1, hn1⟩ : ∃ n, S1.length = n := ⟨_, rfl⟩
  have HV1 := Lib.hid hv1; have HS1 := Lib.hid hs1; have HC1 := Lib.hid hc1; have HN1 := Lib.hid hn1; clear hv1 hs1 hc1 hn1
  obtain ⟨v2, hv2⟩ : ∃ u, cmV b M = u := ⟨_, rfl⟩
  obtain ⟨S2, hs2⟩ : ∃ R, cmS b M = R := ⟨_, rfl⟩
  obtain ⟨c2, hc2⟩ : ∃ c, cmC b M = c := ⟨_, rfl⟩
  obtain ⟨n2, hn2⟩ : ∃ n, S2.length = n := ⟨_, rfl⟩
  have HV2 := Lib.hid hv2; have HS2 := Lib.hid hs2; have HC2 := Lib.hid hc2; have HN2 := Lib.hid hn2; clear hv2 hs2 hc2 hn2
  go_enter Try.func5, Try.ntmps5
  go_wp2_with fail
  refine (cworks_any _).mono ?_
  rintro e w1 ⟨rfl, b1⟩
  have H1 := Lib.hid (H0.out.next b1)
  clear b1
  have x8 := (cut_cells (H1.out.blk 2 rfl)).2.2.2.2.2.2.2.2
  go_wp2_with fail
  refine (great_any al len cap _ hfitL hcapL).mono ?_
  cases hg1 : greatB len with
  | true =>
    rintro e w2 ⟨rfl, b2⟩
    have HB := Lib.hid (H1.out.next b2).bel
    clear b2 x8
    go_wp2
    go_ret
    exact ⟨rfl, HB.out⟩
  | false =>
    have hle1 := great_le hg1
    rintro e w2 ⟨rfl, b2⟩
    have H2 := Lib.hid (H1.out.next b2)
    clear b2 x8 hg1
    have x8 := (cut_cells (H2.out.blk 1 rfl)).2.2.2.2.2.2.2.2
    go_wp2_with fail
    refine (great_any al' len' cap' _ hfitM hcapM).mono ?_
    cases hg2 : greatB len' with
    | true =>
      rintro e w3 ⟨rfl, b3⟩
      have HB := Lib.hid (H2.out.next b3).bel
      clear b3 x8
      go_wp2
      go_ret
      exact ⟨rfl, HB.out⟩
    | false =>
      have hle2 := great_le hg2
      rintro e w3 ⟨rfl, b3⟩
      have H3 := Lib.hid (H2.out.next b3)
      clear b3 x8 hg2
      go_upto_region 5 with fail
      go_cut [7, 8] (fun sx sy wx => ∃ (g1 : Nat) (al1 : Option Addr) (cap1 : Nat), sx = .pointer (some ⟨g1, 0, none⟩) ∧ sy = .int .i64 c1 ∧ Flat al1 ∧ KS w [(g1, #[.int .u32 (v1 0), .int .u32 (v1 1), .int .u32 (v1 2), .int .u32 (v1 3), .int .u32 (v1 4), .int .u32 (v1 5), .int .u32 (v1 6), .int .u32 (v1 7), .slice al1 n1 cap1], 31), (w.heap.size + 1 + 1, #[.int .i64 o, .int .u32 q], 29), (w.heap.size + 1, #[.int .u32 (b 0), .int .u32 (b 1), .int .u32 (b 2), .int .u32 (b 3), .int .u32 (b 4), .int .u32 (b 5), .int .u32 (b 6), .int .u32 (b 7), .slice al' len' cap'], 27), (w.heap.size, #[.int .u32 (a 0), .int .u32 (a 1), .int .u32 (a 2), .int .u32 (a 3), .int .u32 (a 4), .int .u32 (a 5), .int .u32 (a 6), .int .u32 (a 7), .slice al len cap], 27)] [(al1, n1, cap1, S1), (al', len', cap', M), (al, len, cap, L)] wx)
      case first =>
        refine wp_region_held_drew (S := KS w [(w.heap.size + 1 + 1, #[.int .i64 o, .int .u32 q], 29), (w.heap.size + 1, #[.int .u32 (b 0), .int .u32 (b 1), .int .u32 (b 2), .int .u32 (b 3), .int .u32 (b 4), .int .u32 (b 5), .int .u32 (b 6), .int .u32 (b 7), .slice al' len' cap'], 27), (w.heap.size, #[.int .u32 (a 0), .int .u32 (a 1), .int .u32 (a 2), .int .u32 (a 3), .int .u32 (a 4), .int .u32 (a 5), .int .u32 (a 6), .int .u32 (a 7), .slice al len cap], 27)] [(al', len', cap', M), (al, len, cap, L)]) (by kernel_rfl) H3.out.drew (fun _ => ?_)
        have HS := Lib.hid H3.out.drew
        generalize w3.drew = wr at HS ⊢
        refine wpAnyH_take (i := 0) (oi := ⟨some 26, _, _, _, _, _⟩) (v := ?_) rfl (by kernel_rfl) (by kernel_rfl) (by kernel_rfl) (fun _ _ _ h => h) (Or.inl ⟨by rfl, ?_⟩) HS.out ?_
        rotate_left
        · intro w' hSw; clear hSw; go_simp; try (with_reducible rfl)
        try simp only [Act.put, List.setIfInBounds_toArray, List.set_cons_zero, List.set_cons_succ]
        refine wpAnyH_take (i := 1) (oi := ⟨some 27, _, _, _, _, _⟩) (v := ?_) rfl (by kernel_rfl) (by kernel_rfl) (by kernel_rfl) (fun _ _ _ h => h) (Or.inl ⟨by rfl, ?_⟩) HS.out ?_
        rotate_left
        · intro w' hSw; obtain ⟨a_0, a_1, a_2, a_3, a_4, a_5, a_6, a_7, a_8⟩ := cut_cells (hSw.blk 2 rfl); go_simp; try (with_reducible rfl)
        try simp only [Act.put, List.setIfInBounds_toArray, List.set_cons_zero, List.set_cons_succ]
        refine wpAnyH_take (i := 3) (oi := ⟨some 29, _, _, _, _, _⟩) (v := ?_) rfl (by kernel_rfl) (by kernel_rfl) (by kernel_rfl) (fun _ _ _ h => h) (Or.inl ⟨by rfl, ?_⟩) HS.out ?_
        rotate_left
        · intro w' hSw; clear hSw; go_simp; try (with_reducible rfl)
        try simp only [Act.put, List.setIfInBounds_toArray, List.set_cons_zero, List.set_cons_succ]
        refine wpAnyH_take (i := 4) (oi := ⟨some 30, _, _, _, _, _⟩) (v := ?_) rfl (by kernel_rfl) (by kernel_rfl) (by kernel_rfl) (fun _ _ _ h => h) (Or.inl ⟨by rfl, ?_⟩) HS.out ?_
        rotate_left
        · intro w' hSw; obtain ⟨a_0, a_1, a_2, a_3, a_4, a_5, a_6, a_7, a_8⟩ := cut_cells (hSw.blk 2 rfl); go_simp; try (with_reducible rfl)
        try simp only [Act.put, List.setIfInBounds_toArray, List.set_cons_zero, List.set_cons_succ]
        refine wpAnyH_ready (rs := [2, 10]) (by kernel_rfl) (by simp) ?_
        refine AllReadyH.cons (o := ⟨some 28, _, _, _, _, _⟩) rfl (fun K hK => ?_) (AllReadyH.cons (o := ⟨some 7, _, _, _, _, _⟩) rfl (fun K hK => ?_) AllReadyH.nil)
        · go_simp
          have HS0 := HS
          have HB0 := Lib.hid ((Below.refl wr.heap.size wr).alloc (Nat.le_refl _) (.cells #[] 29))
          refine hK.out _ _ (HS.out.alloc _) (fun _ => ?_)
          clear hK K
          try simp only [Act.put, List.setIfInBounds_toArray, List.set_cons_zero, List.set_cons_succ]
          have HO := Lib.hid (lit_own wr)
          have HS := Lib.hid (HS.out.alloc (.cells #[] 29))
          refine wpAnyH_ready (rs := [5, 10]) (by kernel_rfl) (by simp) ?_
          refine AllReadyH.cons (o := ⟨some 31, _, _, _, _, _⟩) rfl (fun K hK => ?_) (AllReadyH.cons (o := ⟨some 7, _, _, _, _, _⟩) rfl (fun K hK => ?_) AllReadyH.nil)
          · refine if_yes rfl ?_
            refine wp_append_list (.tmp 28) (.tmp 30) rfl wr.heap.size ti hi hz0 hz1 hz2 _ _ [] rfl HO.out al len cap L rfl (HS.out.ids 1 rfl) (by omega) HB0.out.size ?_
            intro va wa hoa hga
            have hba : Below wr.heap.size wr wa := HB0.out.grown hga HB0.out.size (fun k hk => own_base HO.out k hk)
            obtain ⟨ala, capa, rfl, hIa, hFa⟩ := app_got hoa
            have HIa := Lib.hid hIa
            have HS := Lib.hid (HS0.out.next hba)
            clear hoa hga hba hIa HO HB0
            refine hK.out _ _ HS.out (fun _ => ?_)
            clear hK K
            try simp only [Act.put, List.setIfInBounds_toArray, List.set_cons_zero, List.set_cons_succ]
            refine wpAnyH_ready (rs := [6, 10]) (by kernel_rfl) (by simp) ?_
            refine AllReadyH.cons (o := ⟨some 32, _, _, _, _, _⟩) rfl (fun K hK => ?_) (AllReadyH.cons (o := ⟨some 7, _, _, _, _, _⟩) rfl (fun K hK => ?_) AllReadyH.nil)
            · go_simp
              go_at_call 9
              have hmk := cMake_cut a ala len capa L _ HIa.out hFa HINa.out
              rw [HV1.out, HS1.out, HC1.out, HN1.out] at hmk
              refine hmk.mono ?_
              clear hmk
              rintro e wm ⟨alr, capr, rfl, hIr, hFr, bm⟩
              have HIR := Lib.hid hIr
              have HFR := Lib.hid hFr
              have HS := Lib.hid (HS.out.next bm)
              clear bm hIr hFr HIa
              go_wp2_with fail
              refine hK.out _ _ HS.out (fun _ => ?_)
              clear hK K
              try simp only [Act.put, List.setIfInBounds_toArray, List.set_cons_zero, List.set_cons_succ]
              refine wpAnyH_take (i := 7) (oi := ⟨some 25, _, _, _, _, _⟩) (v := ?_) rfl (by kernel_rfl) (by kernel_rfl) (by kernel_rfl) (fun _ _ _ h => h) (Or.inl ⟨by rfl, ?_⟩) HS.out ?_
              rotate_left
              · intro w' hSw; clear hSw; go_simp; try (with_reducible rfl)
              try simp only [Act.put, List.setIfInBounds_toArray, List.set_cons_zero, List.set_cons_succ]
              refine wpAnyH_take (i := 8) (oi := ⟨some 33, _, _, _, _, _⟩) (v := ?_) rfl (by kernel_rfl) (by kernel_rfl) (by kernel_rfl) (fun _ _ _ h => h) (Or.inl ⟨by rfl, ?_⟩) HS.out ?_
              rotate_left
              · intro w' hSw; clear hSw; go_simp; try (with_reducible rfl)
              try simp only [Act.put, List.setIfInBounds_toArray, List.set_cons_zero, List.set_cons_succ]
              refine wpAnyH_take (i := 9) (oi := ⟨some 34, _, _, _, _, _⟩) (v := ?_) rfl (by kernel_rfl) (by kernel_rfl) (by kernel_rfl) (fun _ _ _ h => h) (Or.inl ⟨by rfl, ?_⟩) HS.out ?_
              rotate_left
              · intro w' hSw; clear hSw; go_simp; try (with_reducible rfl)
              try simp only [Act.put, List.setIfInBounds_toArray, List.set_cons_zero, List.set_cons_succ]
              refine wpAnyH_ready (rs := [10]) (by kernel_rfl) (by simp) ?_
              refine AllReadyH.cons (o := ⟨some 7, _, _, _, _, _⟩) rfl (fun K hK => ?_) AllReadyH.nil
              go_simp
              have HG := Lib.hid (KS.ne HS.out)
              refine hK.out _ _ (HS.out.alloc _) (fun _ => ?_)
              clear hK K
              try simp only [Act.put, List.setIfInBounds_toArray, List.set_cons_zero, List.set_cons_succ]
              have HZ := Lib.hid (Blk.new wm #[.int .u32 0, .int .u32 0, .int .u32 0, .int .u32 0, .int .u32 0, .int .u32 0, .int .u32 0, .int .u32 0, .slice none 0 0] 31)
              have HS := Lib.hid (HS.out.alloc (.cells #[.int .u32 0, .int .u32 0, .int .u32 0, .int .u32 0, .int .u32 0, .int .u32 0, .int .u32 0, .int .u32 0, .slice none 0 0] 31))
              have HIR := Lib.hid (HIR.out.below ((Below.refl _ _).alloc (Nat.le_refl _) (.cells #[.int .u32 0, .int .u32 0, .int .u32 0, .int .u32 0, .int .u32 0, .int .u32 0, .int .u32 0, .int .u32 0, .slice none 0 0] 31)))
              refine wpAnyH_ready (rs := [11]) (by kernel_rfl) (by simp) ?_
              refine AllReadyH.cons (o := ⟨none, _, _, _, _, _⟩) rfl (fun K hK => ?_) AllReadyH.nil
              refine if_yes rfl ?_
              refine wp_store_row 31 (.tmp 7) (.tmp 33) rfl (wm.heap.size) #[.int .u32 (v1 0), .int .u32 (v1 1), .int .u32 (v1 2), .int .u32 (v1 3), .int .u32 (v1 4), .int .u32 (v1 5), .int .u32 (v1 6), .int .u32 (v1 7), .slice alr n1 capr] rfl rfl 31 _ HZ.out (by kernel_rfl) rfl (cut_one _ _ _ _) ?_
              refine hK.out _ _ (HS.out.row HZ.out HG.out.1 HG.out.2 _) (fun _ => ?_)
              clear hK K
              try simp only [Act.put, List.setIfInBounds_toArray, List.set_cons_zero, List.set_cons_succ]
              have HS := Lib.hid (HS.out.row HZ.out HG.out.1 HG.out.2 #[.int .u32 (v1 0), .int .u32 (v1 1), .int .u32 (v1 2), .int .u32 (v1 3), .int .u32 (v1 4), .int .u32 (v1 5), .int .u32 (v1 6), .int .u32 (v1 7), .slice alr n1 capr])
              refine wpAnyH_take (i := 12) (oi := ⟨some 8, _, _, _, _, _⟩) (v := ?_) rfl (by kernel_rfl) (by kernel_rfl) (by kernel_rfl) (fun _ _ _ h => h) (Or.inl ⟨by rfl, ?_⟩) HS.out ?_
              rotate_left
              · intro w' hSw; clear hSw; go_simp; try (with_reducible rfl)
              try simp only [Act.put, List.setIfInBounds_toArray, List.set_cons_zero, List.set_cons_succ]
              refine wpAnyH_done (by kernel_rfl) ?_ _
              go_wp2_with fail
              go_meet
              exact ⟨wm.heap.size, alr, capr, rfl, rfl, HFR.out, (HS.out.put (setRow_heap _ _ _ #[.int .u32 (v1 0), .int .u32 (v1 1), .int .u32 (v1 2), .int .u32 (v1 3), .int .u32 (v1 4), .int .u32 (v1 5), .int .u32 (v1 6), .int .u32 (v1 7), .slice alr n1 capr] _ _ HZ.out)).add (ids_rowC HIR.out HZ.out _)⟩
            · go_simp
              have HG := Lib.hid (KS.ne HS.out)
              refine hK.out _ _ (HS.out.alloc _) (fun _ => ?_)
              clear hK K
              try simp only [Act.put, List.setIfInBounds_toArray, List.set_cons_zero, List.set_cons_succ]
              have HZ := Lib.hid (Blk.new wa #[.int .u32 0, .int .u32 0, .int .u32 0, .int .u32 0, .int .u32 0, .int .u32 0, .int .u32 0, .int .u32 0, .slice none 0 0] 31)
              have HS := Lib.hid (HS.out.alloc (.cells #[.int .u32 0, .int .u32 0, .int .u32 0, .int .u32 0, .int .u32 0, .int .u32 0, .int .u32 0, .int .u32 0, .slice none 0 0] 31))
              have HGL := Lib.hid HZ.out.lt
              have HIa := Lib.hid (HIa.out.below ((Below.refl _ _).alloc (Nat.le_refl _) (.cells #[.int .u32 0, .int .u32 0, .int .u32 0, .int .u32 0, .int .u32 0, .int .u32 0, .int .u32 0, .int .u32 0, .slice none 0 0] 31)))
              generalize hgz : wa.heap.size = gz at HG HZ HGL ⊢
              generalize wa.alloc (.cells #[.int .u32 0, .int .u32 0, .int .u32 0, .int .u32 0, .int .u32 0, .int .u32 0, .int .u32 0, .int .u32 0, .slice none 0 0] 31) = wz1 at HS HZ HGL HIa ⊢
              clear hgz
              refine wpAnyH_ready (rs := [6]) (by kernel_rfl) (by simp) ?_
              refine AllReadyH.cons (o := ⟨some 32, _, _, _, _, _⟩) rfl (fun K hK => ?_) AllReadyH.nil
              go_simp
              go_at_call 9
              have hmk := cMake_cut a ala len capa L _ HIa.out hFa HINa.out
              rw [HV1.out, HS1.out, HC1.out, HN1.out] at hmk
              refine hmk.mono ?_
              clear hmk
              rintro e wm ⟨alr, capr, rfl, hIr, hFr, bm⟩
              have HIR := Lib.hid hIr
              have HFR := Lib.hid hFr
              have HZ := Lib.hid (HZ.out.below bm)
              have HS := Lib.hid (HS.out.next bm)
              clear bm hIr hFr HIa
              go_wp2_with fail
              refine hK.out _ _ HS.out (fun _ => ?_)
              clear hK K
              try simp only [Act.put, List.setIfInBounds_toArray, List.set_cons_zero, List.set_cons_succ]
              refine wpAnyH_take (i := 7) (oi := ⟨some 25, _, _, _, _, _⟩) (v := ?_) rfl (by kernel_rfl) (by kernel_rfl) (by kernel_rfl) (fun _ _ _ h => h) (Or.inl ⟨by rfl, ?_⟩) HS.out ?_
              rotate_left
              · intro w' hSw; clear hSw; go_simp; try (with_reducible rfl)
              try simp only [Act.put, List.setIfInBounds_toArray, List.set_cons_zero, List.set_cons_succ]
              refine wpAnyH_take (i := 8) (oi := ⟨some 33, _, _, _, _, _⟩) (v := ?_) rfl (by kernel_rfl) (by kernel_rfl) (by kernel_rfl) (fun _ _ _ h => h) (Or.inl ⟨by rfl, ?_⟩) HS.out ?_
              rotate_left
              · intro w' hSw; clear hSw; go_simp; try (with_reducible rfl)
              try simp only [Act.put, List.setIfInBounds_toArray, List.set_cons_zero, List.set_cons_succ]
              refine wpAnyH_take (i := 9) (oi := ⟨some 34, _, _, _, _, _⟩) (v := ?_) rfl (by kernel_rfl) (by kernel_rfl) (by kernel_rfl) (fun _ _ _ h => h) (Or.inl ⟨by rfl, ?_⟩) HS.out ?_
              rotate_left
              · intro w' hSw; clear hSw; go_simp; try (with_reducible rfl)
              try simp only [Act.put, List.setIfInBounds_toArray, List.set_cons_zero, List.set_cons_succ]
              refine wpAnyH_ready (rs := [11]) (by kernel_rfl) (by simp) ?_
              refine AllReadyH.cons (o := ⟨none, _, _, _, _, _⟩) rfl (fun K hK => ?_) AllReadyH.nil
              refine if_yes rfl ?_
              refine wp_store_row 31 (.tmp 7) (.tmp 33) rfl (gz) #[.int .u32 (v1 0), .int .u32 (v1 1), .int .u32 (v1 2), .int .u32 (v1 3), .int .u32 (v1 4), .int .u32 (v1 5), .int .u32 (v1 6), .int .u32 (v1 7), .slice alr n1 capr] rfl rfl 31 _ HZ.out (by kernel_rfl) rfl (cut_one _ _ _ _) ?_
              refine hK.out _ _ (HS.out.row HZ.out HG.out.1 HG.out.2 _) (fun _ => ?_)
              clear hK K
              try simp only [Act.put, List.setIfInBounds_toArray, List.set_cons_zero, List.set_cons_succ]
              have HS := Lib.hid (HS.out.row HZ.out HG.out.1 HG.out.2 #[.int .u32 (v1 0), .int .u32 (v1 1), .int .u32 (v1 2), .int .u32 (v1 3), .int .u32 (v1 4), .int .u32 (v1 5), .int .u32 (v1 6), .int .u32 (v1 7), .slice alr n1 capr])
              refine wpAnyH_take (i := 12) (oi := ⟨some 8, _, _, _, _, _⟩) (v := ?_) rfl (by kernel_rfl) (by kernel_rfl) (by kernel_rfl) (fun _ _ _ h => h) (Or.inl ⟨by rfl, ?_⟩) HS.out ?_
              rotate_left
              · intro w' hSw; clear hSw; go_simp; try (with_reducible rfl)
              try simp only [Act.put, List.setIfInBounds_toArray, List.set_cons_zero, List.set_cons_succ]
              refine wpAnyH_done (by kernel_rfl) ?_ _
              go_wp2_with fail
              go_meet
              exact ⟨gz, alr, capr, rfl, rfl, HFR.out, (HS.out.put (setRow_heap _ _ _ #[.int .u32 (v1 0), .int .u32 (v1 1), .int .u32 (v1 2), .int .u32 (v1 3), .int .u32 (v1 4), .int .u32 (v1 5), .int .u32 (v1 6), .int .u32 (v1 7), .slice alr n1 capr] _ _ HZ.out)).add (ids_rowC HIR.out HZ.out _)⟩
          · go_simp
            have HG := Lib.hid (KS.ne HS.out)
            refine hK.out _ _ (HS.out.alloc _) (fun _ => ?_)
            clear hK K
            try simp only [Act.put, List.setIfInBounds_toArray, List.set_cons_zero, List.set_cons_succ]
            have HZ := Lib.hid (blk_newS (W := wr) (.cells #[] 29) #[.int .u32 0, .int .u32 0, .int .u32 0, .int .u32 0, .int .u32 0, .int .u32 0, .int .u32 0, .int .u32 0, .slice none 0 0] 31)
            have HS := Lib.hid (HS.out.alloc (.cells #[.int .u32 0, .int .u32 0, .int .u32 0, .int .u32 0, .int .u32 0, .int .u32 0, .int .u32 0, .int .u32 0, .slice none 0 0] 31))
            have HB0 := Lib.hid (HB0.out.alloc HB0.out.size (.cells #[.int .u32 0, .int .u32 0, .int .u32 0, .int .u32 0, .int .u32 0, .int .u32 0, .int .u32 0, .int .u32 0, .slice none 0 0] 31))
            have HO := Lib.hid (HO.out.alloc (.cells #[.int .u32 0, .int .u32 0, .int .u32 0, .int .u32 0, .int .u32 0, .int .u32 0, .int .u32 0, .int .u32 0, .slice none 0 0] 31))
            have HG := Lib.hid (show (∀ x, x ∈ ([(w.heap.size + 1 + 1, #[.int .i64 o, .int .u32 q], 29), (w.heap.size + 1, #[.int .u32 (b 0), .int .u32 (b 1), .int .u32 (b 2), .int .u32 (b 3), .int .u32 (b 4), .int .u32 (b 5), .int .u32 (b 6), .int .u32 (b 7), .slice al' len' cap'], 27), (w.heap.size, #[.int .u32 (a 0), .int .u32 (a 1), .int .u32 (a 2), .int .u32 (a 3), .int .u32 (a 4), .int .u32 (a 5), .int .u32 (a 6), .int .u32 (a 7), .slice al len cap], 27)] : List Bx) → x.1 ≠ wr.heap.size + 1) ∧ w.heap.size ≤ wr.heap.size + 1 from by simpa using HG.out)
            refine wpAnyH_ready (rs := [5]) (by kernel_rfl) (by simp) ?_
            refine AllReadyH.cons (o := ⟨some 31, _, _, _, _, _⟩) rfl (fun K hK => ?_) AllReadyH.nil
            refine if_yes rfl ?_
            refine wp_append_list (.tmp 28) (.tmp 30) rfl wr.heap.size ti hi hz0 hz1 hz2 _ _ [] rfl HO.out al len cap L rfl (HS.out.ids 1 rfl) (by omega) HB0.out.size ?_
            intro va wa hoa hga
            have hba : Below wr.heap.size wr wa := HB0.out.grown hga HB0.out.size (fun k hk => own_base HO.out k hk)
            have HZ : Hid (Blk wa (wr.heap.size + 1) #[.int .u32 0, .int .u32 0, .int .u32 0, .int .u32 0, .int .u32 0, .int .u32 0, .int .u32 0, .int .u32 0, .slice none 0 0] 31) := Lib.hid ((hga.block _ (by simp) (lit_block (by simp))).trans HZ.out)
            obtain ⟨ala, capa, rfl, hIa, hFa⟩ := app_got hoa
            have HIa := Lib.hid hIa
            have HS := Lib.hid (HS0.out.next hba)
            clear hoa hga hba hIa HO HB0
            refine hK.out _ _ HS.out (fun _ => ?_)
            clear hK K
            try simp only [Act.put, List.setIfInBounds_toArray, List.set_cons_zero, List.set_cons_succ]
            refine wpAnyH_ready (rs := [6]) (by kernel_rfl) (by simp) ?_
            refine AllReadyH.cons (o := ⟨some 32, _, _, _, _, _⟩) rfl (fun K hK => ?_) AllReadyH.nil
            go_simp
            go_at_call 9
            have hmk := cMake_cut a ala len capa L _ HIa.out hFa HINa.out
            rw [HV1.out, HS1.out, HC1.out, HN1.out] at hmk
            refine hmk.mono ?_
            clear hmk
            rintro e wm ⟨alr, capr, rfl, hIr, hFr, bm⟩
            have HIR := Lib.hid hIr
            have HFR := Lib.hid hFr
            have HZ := Lib.hid (HZ.out.below bm)
            have HS := Lib.hid (HS.out.next bm)
            clear bm hIr hFr HIa
            go_wp2_with fail
            refine hK.out _ _ HS.out (fun _ => ?_)
            clear hK K
            try simp only [Act.put, List.setIfInBounds_toArray, List.set_cons_zero, List.set_cons_succ]
            refine wpAnyH_take (i := 7) (oi := ⟨some 25, _, _, _, _, _⟩) (v := ?_) rfl (by kernel_rfl) (by kernel_rfl) (by kernel_rfl) (fun _ _ _ h => h) (Or.inl ⟨by rfl, ?_⟩) HS.out ?_
            rotate_left
            · intro w' hSw; clear hSw; go_simp; try (with_reducible rfl)
            try simp only [Act.put, List.setIfInBounds_toArray, List.set_cons_zero, List.set_cons_succ]
            refine wpAnyH_take (i := 8) (oi := ⟨some 33, _, _, _, _, _⟩) (v := ?_) rfl (by kernel_rfl) (by kernel_rfl) (by kernel_rfl) (fun _ _ _ h => h) (Or.inl ⟨by rfl, ?_⟩) HS.out ?_
            rotate_left
            · intro w' hSw; clear hSw; go_simp; try (with_reducible rfl)
            try simp only [Act.put, List.setIfInBounds_toArray, List.set_cons_zero, List.set_cons_succ]
            refine wpAnyH_take (i := 9) (oi := ⟨some 34, _, _, _, _, _⟩) (v := ?_) rfl (by kernel_rfl) (by kernel_rfl) (by kernel_rfl) (fun _ _ _ h => h) (Or.inl ⟨by rfl, ?_⟩) HS.out ?_
            rotate_left
            · intro w' hSw; clear hSw; go_simp; try (with_reducible rfl)
            try simp only [Act.put, List.setIfInBounds_toArray, List.set_cons_zero, List.set_cons_succ]
            refine wpAnyH_ready (rs := [11]) (by kernel_rfl) (by simp) ?_
            refine AllReadyH.cons (o := ⟨none, _, _, _, _, _⟩) rfl (fun K hK => ?_) AllReadyH.nil
            refine if_yes rfl ?_
            refine wp_store_row 31 (.tmp 7) (.tmp 33) rfl ((wr.heap.size + 1)) #[.int .u32 (v1 0), .int .u32 (v1 1), .int .u32 (v1 2), .int .u32 (v1 3), .int .u32 (v1 4), .int .u32 (v1 5), .int .u32 (v1 6), .int .u32 (v1 7), .slice alr n1 capr] rfl rfl 31 _ HZ.out (by kernel_rfl) rfl (cut_one _ _ _ _) ?_
            refine hK.out _ _ (HS.out.row HZ.out HG.out.1 HG.out.2 _) (fun _ => ?_)
            clear hK K
            try simp only [Act.put, List.setIfInBounds_toArray, List.set_cons_zero, List.set_cons_succ]
            have HS := Lib.hid (HS.out.row HZ.out HG.out.1 HG.out.2 #[.int .u32 (v1 0), .int .u32 (v1 1), .int .u32 (v1 2), .int .u32 (v1 3), .int .u32 (v1 4), .int .u32 (v1 5), .int .u32 (v1 6), .int .u32 (v1 7), .slice alr n1 capr])
            refine wpAnyH_take (i := 12) (oi := ⟨some 8, _, _, _, _, _⟩) (v := ?_) rfl (by kernel_rfl) (by kernel_rfl) (by kernel_rfl) (fun _ _ _ h => h) (Or.inl ⟨by rfl, ?_⟩) HS.out ?_
            rotate_left
            · intro w' hSw; clear hSw; go_simp; try (with_reducible rfl)
            try simp only [Act.put, List.setIfInBounds_toArray, List.set_cons_zero, List.set_cons_succ]
            refine wpAnyH_done (by kernel_rfl) ?_ _
            go_wp2_with fail
            go_meet
            exact ⟨(wr.heap.size + 1), alr, capr, rfl, rfl, HFR.out, (HS.out.put (setRow_heap _ _ _ #[.int .u32 (v1 0), .int .u32 (v1 1), .int .u32 (v1 2), .int .u32 (v1 3), .int .u32 (v1 4), .int .u32 (v1 5), .int .u32 (v1 6), .int .u32 (v1 7), .slice alr n1 capr] _ _ HZ.out)).add (ids_rowC HIR.out HZ.out _)⟩
        · go_simp
          have HG := Lib.hid (KS.ne HS.out)
          refine hK.out _ _ (HS.out.alloc _) (fun _ => ?_)
          clear hK K
          try simp only [Act.put, List.setIfInBounds_toArray, List.set_cons_zero, List.set_cons_succ]
          have HZ := Lib.hid (Blk.new wr #[.int .u32 0, .int .u32 0, .int .u32 0, .int .u32 0, .int .u32 0, .int .u32 0, .int .u32 0, .int .u32 0, .slice none 0 0] 31)
          have HS := Lib.hid (HS.out.alloc (.cells #[.int .u32 0, .int .u32 0, .int .u32 0, .int .u32 0, .int .u32 0, .int .u32 0, .int .u32 0, .int .u32 0, .slice none 0 0] 31))
          have HGL := Lib.hid HZ.out.lt
          generalize hgz : wr.heap.size = gz at HG HZ HGL ⊢
          generalize wr.alloc (.cells #[.int .u32 0, .int .u32 0, .int .u32 0, .int .u32 0, .int .u32 0, .int .u32 0, .int .u32 0, .int .u32 0, .slice none 0 0] 31) = wz1 at HS HZ HGL ⊢
          clear hgz
          refine wpAnyH_ready (rs := [2]) (by kernel_rfl) (by simp) ?_
          refine AllReadyH.cons (o := ⟨some 28, _, _, _, _, _⟩) rfl (fun K hK => ?_) AllReadyH.nil
          go_simp
          have HS0 := HS
          have HB0 := Lib.hid ((Below.refl wz1.heap.size wz1).alloc (Nat.le_refl _) (.cells #[] 29))
          refine hK.out _ _ (HS.out.alloc _) (fun _ => ?_)
          clear hK K
          try simp only [Act.put, List.setIfInBounds_toArray, List.set_cons_zero, List.set_cons_succ]
          have HO := Lib.hid (lit_own wz1)
          have HS := Lib.hid (HS.out.alloc (.cells #[] 29))
          have HZ0 := HZ
          refine wpAnyH_ready (rs := [5]) (by kernel_rfl) (by simp) ?_
          refine AllReadyH.cons (o := ⟨some 31, _, _, _, _, _⟩) rfl (fun K hK => ?_) AllReadyH.nil
          refine if_yes rfl ?_
          refine wp_append_list (.tmp 28) (.tmp 30) rfl wz1.heap.size ti hi hz0 hz1 hz2 _ _ [] rfl HO.out al len cap L rfl (HS.out.ids 1 rfl) (by omega) HB0.out.size ?_
          intro va wa hoa hga
          have hba : Below wz1.heap.size wz1 wa := HB0.out.grown hga HB0.out.size (fun k hk => own_base HO.out k hk)
          have HZ := Lib.hid (HZ0.out.below hba)
          obtain ⟨ala, capa, rfl, hIa, hFa⟩ := app_got hoa
          have HIa := Lib.hid hIa
          have HS := Lib.hid (HS0.out.next hba)
          clear hoa hga hba hIa HO HB0
          refine hK.out _ _ HS.out (fun _ => ?_)
          clear hK K
          try simp only [Act.put, List.setIfInBounds_toArray, List.set_cons_zero, List.set_cons_succ]
          refine wpAnyH_ready (rs := [6]) (by kernel_rfl) (by simp) ?_
          refine AllReadyH.cons (o := ⟨some 32, _, _, _, _, _⟩) rfl (fun K hK => ?_) AllReadyH.nil
          go_simp
          go_at_call 9
          have hmk := cMake_cut a ala len capa L _ HIa.out hFa HINa.out
          rw [HV1.out, HS1.out, HC1.out, HN1.out] at hmk
          refine hmk.mono ?_
          clear hmk
          rintro e wm ⟨alr, capr, rfl, hIr, hFr, bm⟩
          have HIR := Lib.hid hIr
          have HFR := Lib.hid hFr
          have HZ := Lib.hid (HZ.out.below bm)
          have HS := Lib.hid (HS.out.next bm)
          clear bm hIr hFr HIa
          go_wp2_with fail
          refine hK.out _ _ HS.out (fun _ => ?_)
          clear hK K
          try simp only [Act.put, List.setIfInBounds_toArray, List.set_cons_zero, List.set_cons_succ]
          refine wpAnyH_take (i := 7) (oi := ⟨some 25, _, _, _, _, _⟩) (v := ?_) rfl (by kernel_rfl) (by kernel_rfl) (by kernel_rfl) (fun _ _ _ h => h) (Or.inl ⟨by rfl, ?_⟩) HS.out ?_
          rotate_left
          · intro w' hSw; clear hSw; go_simp; try (with_reducible rfl)
          try simp only [Act.put, List.setIfInBounds_toArray, List.set_cons_zero, List.set_cons_succ]
          refine wpAnyH_take (i := 8) (oi := ⟨some 33, _, _, _, _, _⟩) (v := ?_) rfl (by kernel_rfl) (by kernel_rfl) (by kernel_rfl) (fun _ _ _ h => h) (Or.inl ⟨by rfl, ?_⟩) HS.out ?_
          rotate_left
          · intro w' hSw; clear hSw; go_simp; try (with_reducible rfl)
          try simp only [Act.put, List.setIfInBounds_toArray, List.set_cons_zero, List.set_cons_succ]
          refine wpAnyH_take (i := 9) (oi := ⟨some 34, _, _, _, _, _⟩) (v := ?_) rfl (by kernel_rfl) (by kernel_rfl) (by kernel_rfl) (fun _ _ _ h => h) (Or.inl ⟨by rfl, ?_⟩) HS.out ?_
          rotate_left
          · intro w' hSw; clear hSw; go_simp; try (with_reducible rfl)
          try simp only [Act.put, List.setIfInBounds_toArray, List.set_cons_zero, List.set_cons_succ]
          refine wpAnyH_ready (rs := [11]) (by kernel_rfl) (by simp) ?_
          refine AllReadyH.cons (o := ⟨none, _, _, _, _, _⟩) rfl (fun K hK => ?_) AllReadyH.nil
          refine if_yes rfl ?_
          refine wp_store_row 31 (.tmp 7) (.tmp 33) rfl (gz) #[.int .u32 (v1 0), .int .u32 (v1 1), .int .u32 (v1 2), .int .u32 (v1 3), .int .u32 (v1 4), .int .u32 (v1 5), .int .u32 (v1 6), .int .u32 (v1 7), .slice alr n1 capr] rfl rfl 31 _ HZ.out (by kernel_rfl) rfl (cut_one _ _ _ _) ?_
          refine hK.out _ _ (HS.out.row HZ.out HG.out.1 HG.out.2 _) (fun _ => ?_)
          clear hK K
          try simp only [Act.put, List.setIfInBounds_toArray, List.set_cons_zero, List.set_cons_succ]
          have HS := Lib.hid (HS.out.row HZ.out HG.out.1 HG.out.2 #[.int .u32 (v1 0), .int .u32 (v1 1), .int .u32 (v1 2), .int .u32 (v1 3), .int .u32 (v1 4), .int .u32 (v1 5), .int .u32 (v1 6), .int .u32 (v1 7), .slice alr n1 capr])
          refine wpAnyH_take (i := 12) (oi := ⟨some 8, _, _, _, _, _⟩) (v := ?_) rfl (by kernel_rfl) (by kernel_rfl) (by kernel_rfl) (fun _ _ _ h => h) (Or.inl ⟨by rfl, ?_⟩) HS.out ?_
          rotate_left
          · intro w' hSw; clear hSw; go_simp; try (with_reducible rfl)
          try simp only [Act.put, List.setIfInBounds_toArray, List.set_cons_zero, List.set_cons_succ]
          refine wpAnyH_done (by kernel_rfl) ?_ _
          go_wp2_with fail
          go_meet
          exact ⟨gz, alr, capr, rfl, rfl, HFR.out, (HS.out.put (setRow_heap _ _ _ #[.int .u32 (v1 0), .int .u32 (v1 1), .int .u32 (v1 2), .int .u32 (v1 3), .int .u32 (v1 4), .int .u32 (v1 5), .int .u32 (v1 6), .int .u32 (v1 7), .slice alr n1 capr] _ _ HZ.out)).add (ids_rowC HIR.out HZ.out _)⟩
      case rest =>
        obtain ⟨g1, al1, cap1, rfl, rfl, hF1, hks1⟩ := hcut
        have HK1 := Lib.hid hks1
        clear hks1 H3
        go_upto_region 6 with fail
        go_cut [9, 10] (fun sx sy wx => ∃ (g2 : Nat) (al2 : Option Addr) (cap2 : Nat), sx = .pointer (some ⟨g2, 0, none⟩) ∧ sy = .int .i64 c2 ∧ Flat al2 ∧ KS w [(g2, #[.int .u32 (v2 0), .int .u32 (v2 1), .int .u32 (v2 2), .int .u32 (v2 3), .int .u32 (v2 4), .int .u32 (v2 5), .int .u32 (v2 6), .int .u32 (v2 7), .slice al2 n2 cap2], 31), (g1, #[.int .u32 (v1 0), .int .u32 (v1 1), .int .u32 (v1 2), .int .u32 (v1 3), .int .u32 (v1 4), .int .u32 (v1 5), .int .u32 (v1 6), .int .u32 (v1 7), .slice al1 n1 cap1], 31), (w.heap.size + 1 + 1, #[.int .i64 o, .int .u32 q], 29), (w.heap.size + 1, #[.int .u32 (b 0), .int .u32 (b 1), .int .u32 (b 2), .int .u32 (b 3), .int .u32 (b 4), .int .u32 (b 5), .int .u32 (b 6), .int .u32 (b 7), .slice al' len' cap'], 27), (w.heap.size, #[.int .u32 (a 0), .int .u32 (a 1), .int .u32 (a 2), .int .u32 (a 3), .int .u32 (a 4), .int .u32 (a 5), .int .u32 (a 6), .int .u32 (a 7), .slice al len cap], 27)] [(al2, n2, cap2, S2), (al1, n1, cap1, S1), (al', len', cap', M), (al, len, cap, L)] wx)
        case first =>
          refine wp_region_held_drew (S := KS w [(g1, #[.int .u32 (v1 0), .int .u32 (v1 1), .int .u32 (v1 2), .int .u32 (v1 3), .int .u32 (v1 4), .int .u32 (v1 5), .int .u32 (v1 6), .int .u32 (v1 7), .slice al1 n1 cap1], 31), (w.heap.size + 1 + 1, #[.int .i64 o, .int .u32 q], 29), (w.heap.size + 1, #[.int .u32 (b 0), .int .u32 (b 1), .int .u32 (b 2), .int .u32 (b 3), .int .u32 (b 4), .int .u32 (b 5), .int .u32 (b 6), .int .u32 (b 7), .slice al' len' cap'], 27), (w.heap.size, #[.int .u32 (a 0), .int .u32 (a 1), .int .u32 (a 2), .int .u32 (a 3), .int .u32 (a 4), .int .u32 (a 5), .int .u32 (a 6), .int .u32 (a 7), .slice al len cap], 27)] [(al1, n1, cap1, S1), (al', len', cap', M), (al, len, cap, L)]) (by kernel_rfl) HK1.out.drew (fun _ => ?_)
          have HS := Lib.hid HK1.out.drew
          generalize wc.drew = wr at HS ⊢
          refine wpAnyH_take (i := 0) (oi := ⟨some 36, _, _, _, _, _⟩) (v := ?_) rfl (by kernel_rfl) (by kernel_rfl) (by kernel_rfl) (fun _ _ _ h => h) (Or.inl ⟨by rfl, ?_⟩) HS.out ?_
          rotate_left
          · intro w' hSw; clear hSw; go_simp; try (with_reducible rfl)
          try simp only [Act.put, List.setIfInBounds_toArray, List.set_cons_zero, List.set_cons_succ]
          refine wpAnyH_take (i := 1) (oi := ⟨some 37, _, _, _, _, _⟩) (v := ?_) rfl (by kernel_rfl) (by kernel_rfl) (by kernel_rfl) (fun _ _ _ h => h) (Or.inl ⟨by rfl, ?_⟩) HS.out ?_
          rotate_left
          · intro w' hSw; obtain ⟨b_0, b_1, b_2, b_3, b_4, b_5, b_6, b_7, b_8⟩ := cut_cells (hSw.blk 2 rfl); go_simp; try (with_reducible rfl)
          try simp only [Act.put, List.setIfInBounds_toArray, List.set_cons_zero, List.set_cons_succ]
          refine wpAnyH_take (i := 3) (oi := ⟨some 39, _, _, _, _, _⟩) (v := ?_) rfl (by kernel_rfl) (by kernel_rfl) (by kernel_rfl) (fun _ _ _ h => h) (Or.inl ⟨by rfl, ?_⟩) HS.out ?_
          rotate_left
          · intro w' hSw; clear hSw; go_simp; try (with_reducible rfl)
          try simp only [Act.put, List.setIfInBounds_toArray, List.set_cons_zero, List.set_cons_succ]
          refine wpAnyH_take (i := 4) (oi := ⟨some 40, _, _, _, _, _⟩) (v := ?_) rfl (by kernel_rfl) (by kernel_rfl) (by kernel_rfl) (fun _ _ _ h => h) (Or.inl ⟨by rfl, ?_⟩) HS.out ?_
          rotate_left
          · intro w' hSw; obtain ⟨b_0, b_1, b_2, b_3, b_4, b_5, b_6, b_7, b_8⟩ := cut_cells (hSw.blk 2 rfl); go_simp; try (with_reducible rfl)
          try simp only [Act.put, List.setIfInBounds_toArray, List.set_cons_zero, List.set_cons_succ]
          refine wpAnyH_ready (rs := [2, 10]) (by kernel_rfl) (by simp) ?_
          refine AllReadyH.cons (o := ⟨some 38, _, _, _, _, _⟩) rfl (fun K hK => ?_) (AllReadyH.cons (o := ⟨some 9, _, _, _, _, _⟩) rfl (fun K hK => ?_) AllReadyH.nil)
          · go_simp
            have HS0 := HS
            have HB0 := Lib.hid ((Below.refl wr.heap.size wr).alloc (Nat.le_refl _) (.cells #[] 29))
            refine hK.out _ _ (HS.out.alloc _) (fun _ => ?_)
            clear hK K
            try simp only [Act.put, List.setIfInBounds_toArray, List.set_cons_zero, List.set_cons_succ]
            have HO := Lib.hid (lit_own wr)
            have HS := Lib.hid (HS.out.alloc (.cells #[] 29))
            refine wpAnyH_ready (rs := [5, 10]) (by kernel_rfl) (by simp) ?_
            refine AllReadyH.cons (o := ⟨some 41, _, _, _, _, _⟩) rfl (fun K hK => ?_) (AllReadyH.cons (o := ⟨some 9, _, _, _, _, _⟩) rfl (fun K hK => ?_) AllReadyH.nil)
            · refine if_yes rfl ?_
              refine wp_append_list (.tmp 38) (.tmp 40) rfl wr.heap.size ti hi hz0 hz1 hz2 _ _ [] rfl HO.out al' len' cap' M rfl (HS.out.ids 1 rfl) (by omega) HB0.out.size ?_
              intro va wa hoa hga
              have hba : Below wr.heap.size wr wa := HB0.out.grown hga HB0.out.size (fun k hk => own_base HO.out k hk)
              obtain ⟨ala, capa, rfl, hIa, hFa⟩ := app_got hoa
              have HIa := Lib.hid hIa
              have HS := Lib.hid (HS0.out.next hba)
              clear hoa hga hba hIa HO HB0
              refine hK.out _ _ HS.out (fun _ => ?_)
              clear hK K
              try simp only [Act.put, List.setIfInBounds_toArray, List.set_cons_zero, List.set_cons_succ]
              refine wpAnyH_ready (rs := [6, 10]) (by kernel_rfl) (by simp) ?_
              refine AllReadyH.cons (o := ⟨some 42, _, _, _, _, _⟩) rfl (fun K hK => ?_) (AllReadyH.cons (o := ⟨some 9, _, _, _, _, _⟩) rfl (fun K hK => ?_) AllReadyH.nil)
              · go_simp
                go_at_call 9
                have hmk := cMake_cut b ala len' capa M _ HIa.out hFa HINb.out
                rw [HV2.out, HS2.out, HC2.out, HN2.out] at hmk
                refine hmk.mono ?_
                clear hmk
                rintro e wm ⟨alr, capr, rfl, hIr, hFr, bm⟩
                have HIR := Lib.hid hIr
                have HFR := Lib.hid hFr
                have HS := Lib.hid (HS.out.next bm)
                clear bm hIr hFr HIa
                go_wp2_with fail
                refine hK.out _ _ HS.out (fun _ => ?_)
                clear hK K
                try simp only [Act.put, List.setIfInBounds_toArray, List.set_cons_zero, List.set_cons_succ]
                refine wpAnyH_take (i := 7) (oi := ⟨some 35, _, _, _, _, _⟩) (v := ?_) rfl (by kernel_rfl) (by kernel_rfl) (by kernel_rfl) (fun _ _ _ h => h) (Or.inl ⟨by rfl, ?_⟩) HS.out ?_
                rotate_left
                · intro w' hSw; clear hSw; go_simp; try (with_reducible rfl)
                try simp only [Act.put, List.setIfInBounds_toArray, List.set_cons_zero, List.set_cons_succ]
                refine wpAnyH_take (i := 8) (oi := ⟨some 43, _, _, _, _, _⟩) (v := ?_) rfl (by kernel_rfl) (by kernel_rfl) (by kernel_rfl) (fun _ _ _ h => h) (Or.inl ⟨by rfl, ?_⟩) HS.out ?_
                rotate_left
                · intro w' hSw; clear hSw; go_simp; try (with_reducible rfl)
                try simp only [Act.put, List.setIfInBounds_toArray, List.set_cons_zero, List.set_cons_succ]
                refine wpAnyH_take (i := 9) (oi := ⟨some 44, _, _, _, _, _⟩) (v := ?_) rfl (by kernel_rfl) (by kernel_rfl) (by kernel_rfl) (fun _ _ _ h => h) (Or.inl ⟨by rfl, ?_⟩) HS.out ?_
                rotate_left
                · intro w' hSw; clear hSw; go_simp; try (with_reducible rfl)
                try simp only [Act.put, List.setIfInBounds_toArray, List.set_cons_zero, List.set_cons_succ]
                refine wpAnyH_ready (rs := [10]) (by kernel_rfl) (by simp) ?_
                refine AllReadyH.cons (o := ⟨some 9, _, _, _, _, _⟩) rfl (fun K hK => ?_) AllReadyH.nil
                go_simp
                have HG := Lib.hid (KS.ne HS.out)
                refine hK.out _ _ (HS.out.alloc _) (fun _ => ?_)
                clear hK K
                try simp only [Act.put, List.setIfInBounds_toArray, List.set_cons_zero, List.set_cons_succ]
                have HZ := Lib.hid (Blk.new wm #[.int .u32 0, .int .u32 0, .int .u32 0, .int .u32 0, .int .u32 0, .int .u32 0, .int .u32 0, .int .u32 0, .slice none 0 0] 31)
                have HS := Lib.hid (HS.out.alloc (.cells #[.int .u32 0, .int .u32 0, .int .u32 0, .int .u32 0, .int .u32 0, .int .u32 0, .int .u32 0, .int .u32 0, .slice none 0 0] 31))
                have HIR := Lib.hid (HIR.out.below ((Below.refl _ _).alloc (Nat.le_refl _) (.cells #[.int .u32 0, .int .u32 0, .int .u32 0, .int .u32 0, .int .u32 0, .int .u32 0, .int .u32 0, .int .u32 0, .slice none 0 0] 31)))
                refine wpAnyH_ready (rs := [11]) (by kernel_rfl) (by simp) ?_
                refine AllReadyH.cons (o := ⟨none, _, _, _, _, _⟩) rfl (fun K hK => ?_) AllReadyH.nil
                refine if_yes rfl ?_
                refine wp_store_row 31 (.tmp 9) (.tmp 43) rfl (wm.heap.size) #[.int .u32 (v2 0), .int .u32 (v2 1), .int .u32 (v2 2), .int .u32 (v2 3), .int .u32 (v2 4), .int .u32 (v2 5), .int .u32 (v2 6), .int .u32 (v2 7), .slice alr n2 capr] rfl rfl 31 _ HZ.out (by kernel_rfl) rfl (cut_one _ _ _ _) ?_
                refine hK.out _ _ (HS.out.row HZ.out HG.out.1 HG.out.2 _) (fun _ => ?_)
                clear hK K
                try simp only [Act.put, List.setIfInBounds_toArray, List.set_cons_zero, List.set_cons_succ]
                have HS := Lib.hid (HS.out.row HZ.out HG.out.1 HG.out.2 #[.int .u32 (v2 0), .int .u32 (v2 1), .int .u32 (v2 2), .int .u32 (v2 3), .int .u32 (v2 4), .int .u32 (v2 5), .int .u32 (v2 6), .int .u32 (v2 7), .slice alr n2 capr])
                refine wpAnyH_take (i := 12) (oi := ⟨some 10, _, _, _, _, _⟩) (v := ?_) rfl (by kernel_rfl) (by kernel_rfl) (by kernel_rfl) (fun _ _ _ h => h) (Or.inl ⟨by rfl, ?_⟩) HS.out ?_
                rotate_left
                · intro w' hSw; clear hSw; go_simp; try (with_reducible rfl)
                try simp only [Act.put, List.setIfInBounds_toArray, List.set_cons_zero, List.set_cons_succ]
                refine wpAnyH_done (by kernel_rfl) ?_ _
                go_wp2_with fail
                go_meet
                exact ⟨wm.heap.size, alr, capr, rfl, rfl, HFR.out, (HS.out.put (setRow_heap _ _ _ #[.int .u32 (v2 0), .int .u32 (v2 1), .int .u32 (v2 2), .int .u32 (v2 3), .int .u32 (v2 4), .int .u32 (v2 5), .int .u32 (v2 6), .int .u32 (v2 7), .slice alr n2 capr] _ _ HZ.out)).add (ids_rowC HIR.out HZ.out _)⟩
              · go_simp
                have HG := Lib.hid (KS.ne HS.out)
                refine hK.out _ _ (HS.out.alloc _) (fun _ => ?_)
                clear hK K
                try simp only [Act.put, List.setIfInBounds_toArray, List.set_cons_zero, List.set_cons_succ]
                have HZ := Lib.hid (Blk.new wa #[.int .u32 0, .int .u32 0, .int .u32 0, .int .u32 0, .int .u32 0, .int .u32 0, .int .u32 0, .int .u32 0, .slice none 0 0] 31)
                have HS := Lib.hid (HS.out.alloc (.cells #[.int .u32 0, .int .u32 0, .int .u32 0, .int .u32 0, .int .u32 0, .int .u32 0, .int .u32 0, .int .u32 0, .slice none 0 0] 31))
                have HGL := Lib.hid HZ.out.lt
                have HIa := Lib.hid (HIa.out.below ((Below.refl _ _).alloc (Nat.le_refl _) (.cells #[.int .u32 0, .int .u32 0, .int .u32 0, .int .u32 0, .int .u32 0, .int .u32 0, .int .u32 0, .int .u32 0, .slice none 0 0] 31)))
                generalize hgz : wa.heap.size = gz at HG HZ HGL ⊢
                generalize wa.alloc (.cells #[.int .u32 0, .int .u32 0, .int .u32 0, .int .u32 0, .int .u32 0, .int .u32 0, .int .u32 0, .int .u32 0, .slice none 0 0] 31) = wz2 at HS HZ HGL HIa ⊢
                clear hgz
                refine wpAnyH_ready (rs := [6]) (by kernel_rfl) (by simp) ?_
                refine AllReadyH.cons (o := ⟨some 42, _, _, _, _, _⟩) rfl (fun K hK => ?_) AllReadyH.nil
                go_simp
                go_at_call 9
                have hmk := cMake_cut b ala len' capa M _ HIa.out hFa HINb.out
                rw [HV2.out, HS2.out, HC2.out, HN2.out] at hmk
                refine hmk.mono ?_
                clear hmk
                rintro e wm ⟨alr, capr, rfl, hIr, hFr, bm⟩
                have HIR := Lib.hid hIr
                have HFR := Lib.hid hFr
                have HZ := Lib.hid (HZ.out.below bm)
                have HS := Lib.hid (HS.out.next bm)
                clear bm hIr hFr HIa
                go_wp2_with fail
                refine hK.out _ _ HS.out (fun _ => ?_)
                clear hK K
                try simp only [Act.put, List.setIfInBounds_toArray, List.set_cons_zero, List.set_cons_succ]
                refine wpAnyH_take (i := 7) (oi := ⟨some 35, _, _, _, _, _⟩) (v := ?_) rfl (by kernel_rfl) (by kernel_rfl) (by kernel_rfl) (fun _ _ _ h => h) (Or.inl ⟨by rfl, ?_⟩) HS.out ?_
                rotate_left
                · intro w' hSw; clear hSw; go_simp; try (with_reducible rfl)
                try simp only [Act.put, List.setIfInBounds_toArray, List.set_cons_zero, List.set_cons_succ]
                refine wpAnyH_take (i := 8) (oi := ⟨some 43, _, _, _, _, _⟩) (v := ?_) rfl (by kernel_rfl) (by kernel_rfl) (by kernel_rfl) (fun _ _ _ h => h) (Or.inl ⟨by rfl, ?_⟩) HS.out ?_
                rotate_left
                · intro w' hSw; clear hSw; go_simp; try (with_reducible rfl)
                try simp only [Act.put, List.setIfInBounds_toArray, List.set_cons_zero, List.set_cons_succ]
                refine wpAnyH_take (i := 9) (oi := ⟨some 44, _, _, _, _, _⟩) (v := ?_) rfl (by kernel_rfl) (by kernel_rfl) (by kernel_rfl) (fun _ _ _ h => h) (Or.inl ⟨by rfl, ?_⟩) HS.out ?_
                rotate_left
                · intro w' hSw; clear hSw; go_simp; try (with_reducible rfl)
                try simp only [Act.put, List.setIfInBounds_toArray, List.set_cons_zero, List.set_cons_succ]
                refine wpAnyH_ready (rs := [11]) (by kernel_rfl) (by simp) ?_
                refine AllReadyH.cons (o := ⟨none, _, _, _, _, _⟩) rfl (fun K hK => ?_) AllReadyH.nil
                refine if_yes rfl ?_
                refine wp_store_row 31 (.tmp 9) (.tmp 43) rfl (gz) #[.int .u32 (v2 0), .int .u32 (v2 1), .int .u32 (v2 2), .int .u32 (v2 3), .int .u32 (v2 4), .int .u32 (v2 5), .int .u32 (v2 6), .int .u32 (v2 7), .slice alr n2 capr] rfl rfl 31 _ HZ.out (by kernel_rfl) rfl (cut_one _ _ _ _) ?_
                refine hK.out _ _ (HS.out.row HZ.out HG.out.1 HG.out.2 _) (fun _ => ?_)
                clear hK K
                try simp only [Act.put, List.setIfInBounds_toArray, List.set_cons_zero, List.set_cons_succ]
                have HS := Lib.hid (HS.out.row HZ.out HG.out.1 HG.out.2 #[.int .u32 (v2 0), .int .u32 (v2 1), .int .u32 (v2 2), .int .u32 (v2 3), .int .u32 (v2 4), .int .u32 (v2 5), .int .u32 (v2 6), .int .u32 (v2 7), .slice alr n2 capr])
                refine wpAnyH_take (i := 12) (oi := ⟨some 10, _, _, _, _, _⟩) (v := ?_) rfl (by kernel_rfl) (by kernel_rfl) (by kernel_rfl) (fun _ _ _ h => h) (Or.inl ⟨by rfl, ?_⟩) HS.out ?_
                rotate_left
                · intro w' hSw; clear hSw; go_simp; try (with_reducible rfl)
                try simp only [Act.put, List.setIfInBounds_toArray, List.set_cons_zero, List.set_cons_succ]
                refine wpAnyH_done (by kernel_rfl) ?_ _
                go_wp2_with fail
                go_meet
                exact ⟨gz, alr, capr, rfl, rfl, HFR.out, (HS.out.put (setRow_heap _ _ _ #[.int .u32 (v2 0), .int .u32 (v2 1), .int .u32 (v2 2), .int .u32 (v2 3), .int .u32 (v2 4), .int .u32 (v2 5), .int .u32 (v2 6), .int .u32 (v2 7), .slice alr n2 capr] _ _ HZ.out)).add (ids_rowC HIR.out HZ.out _)⟩
            · go_simp
              have HG := Lib.hid (KS.ne HS.out)
              refine hK.out _ _ (HS.out.alloc _) (fun _ => ?_)
              clear hK K
              try simp only [Act.put, List.setIfInBounds_toArray, List.set_cons_zero, List.set_cons_succ]
              have HZ := Lib.hid (blk_newS (W := wr) (.cells #[] 29) #[.int .u32 0, .int .u32 0, .int .u32 0, .int .u32 0, .int .u32 0, .int .u32 0, .int .u32 0, .int .u32 0, .slice none 0 0] 31)
              have HS := Lib.hid (HS.out.alloc (.cells #[.int .u32 0, .int .u32 0, .int .u32 0, .int .u32 0, .int .u32 0, .int .u32 0, .int .u32 0, .int .u32 0, .slice none 0 0] 31))
              have HB0 := Lib.hid (HB0.out.alloc HB0.out.size (.cells #[.int .u32 0, .int .u32 0, .int .u32 0, .int .u32 0, .int .u32 0, .int .u32 0, .int .u32 0, .int .u32 0, .slice none 0 0] 31))
              have HO := Lib.hid (HO.out.alloc (.cells #[.int .u32 0, .int .u32 0, .int .u32 0, .int .u32 0, .int .u32 0, .int .u32 0, .int .u32 0, .int .u32 0, .slice none 0 0] 31))
              have HG := Lib.hid (show (∀ x, x ∈ ([(g1, #[.int .u32 (v1 0), .int .u32 (v1 1), .int .u32 (v1 2), .int .u32 (v1 3), .int .u32 (v1 4), .int .u32 (v1 5), .int .u32 (v1 6), .int .u32 (v1 7), .slice al1 n1 cap1], 31), (w.heap.size + 1 + 1, #[.int .i64 o, .int .u32 q], 29), (w.heap.size + 1, #[.int .u32 (b 0), .int .u32 (b 1), .int .u32 (b 2), .int .u32 (b 3), .int .u32 (b 4), .int .u32 (b 5), .int .u32 (b 6), .int .u32 (b 7), .slice al' len' cap'], 27), (w.heap.size, #[.int .u32 (a 0), .int .u32 (a 1), .int .u32 (a 2), .int .u32 (a 3), .int .u32 (a 4), .int .u32 (a 5), .int .u32 (a 6), .int .u32 (a 7), .slice al len cap], 27)] : List Bx) → x.1 ≠ wr.heap.size + 1) ∧ w.heap.size ≤ wr.heap.size + 1 from by simpa using HG.out)
              refine wpAnyH_ready (rs := [5]) (by kernel_rfl) (by simp) ?_
              refine AllReadyH.cons (o := ⟨some 41, _, _, _, _, _⟩) rfl (fun K hK => ?_) AllReadyH.nil
              refine if_yes rfl ?_
              refine wp_append_list (.tmp 38) (.tmp 40) rfl wr.heap.size ti hi hz0 hz1 hz2 _ _ [] rfl HO.out al' len' cap' M rfl (HS.out.ids 1 rfl) (by omega) HB0.out.size ?_
              intro va wa hoa hga
              have hba : Below wr.heap.size wr wa := HB0.out.grown hga HB0.out.size (fun k hk => own_base HO.out k hk)
              have HZ : Hid (Blk wa (wr.heap.size + 1) #[.int .u32 0, .int .u32 0, .int .u32 0, .int .u32 0, .int .u32 0, .int .u32 0, .int .u32 0, .int .u32 0, .slice none 0 0] 31) := Lib.hid ((hga.block _ (by simp) (lit_block (by simp))).trans HZ.out)
              obtain ⟨ala, capa, rfl, hIa, hFa⟩ := app_got hoa
              have HIa := Lib.hid hIa
              have HS := Lib.hid (HS0.out.next hba)
              clear hoa hga hba hIa HO HB0
              refine hK.out _ _ HS.out (fun _ => ?_)
              clear hK K
              try simp only [Act.put, List.setIfInBounds_toArray, List.set_cons_zero, List.set_cons_succ]
              refine wpAnyH_ready (rs := [6]) (by kernel_rfl) (by simp) ?_
              refine AllReadyH.cons (o := ⟨some 42, _, _, _, _, _⟩) rfl (fun K hK => ?_) AllReadyH.nil
              go_simp
              go_at_call 9
              have hmk := cMake_cut b ala len' capa M _ HIa.out hFa HINb.out
              rw [HV2.out, HS2.out, HC2.out, HN2.out] at hmk
              refine hmk.mono ?_
              clear hmk
              rintro e wm ⟨alr, capr, rfl, hIr, hFr, bm⟩
              have HIR := Lib.hid hIr
              have HFR := Lib.hid hFr
              have HZ := Lib.hid (HZ.out.below bm)
              have HS := Lib.hid (HS.out.next bm)
              clear bm hIr hFr HIa
              go_wp2_with fail
              refine hK.out _ _ HS.out (fun _ => ?_)
              clear hK K
              try simp only [Act.put, List.setIfInBounds_toArray, List.set_cons_zero, List.set_cons_succ]
              refine wpAnyH_take (i := 7) (oi := ⟨some 35, _, _, _, _, _⟩) (v := ?_) rfl (by kernel_rfl) (by kernel_rfl) (by kernel_rfl) (fun _ _ _ h => h) (Or.inl ⟨by rfl, ?_⟩) HS.out ?_
              rotate_left
              · intro w' hSw; clear hSw; go_simp; try (with_reducible rfl)
              try simp only [Act.put, List.setIfInBounds_toArray, List.set_cons_zero, List.set_cons_succ]
              refine wpAnyH_take (i := 8) (oi := ⟨some 43, _, _, _, _, _⟩) (v := ?_) rfl (by kernel_rfl) (by kernel_rfl) (by kernel_rfl) (fun _ _ _ h => h) (Or.inl ⟨by rfl, ?_⟩) HS.out ?_
              rotate_left
              · intro w' hSw; clear hSw; go_simp; try (with_reducible rfl)
              try simp only [Act.put, List.setIfInBounds_toArray, List.set_cons_zero, List.set_cons_succ]
              refine wpAnyH_take (i := 9) (oi := ⟨some 44, _, _, _, _, _⟩) (v := ?_) rfl (by kernel_rfl) (by kernel_rfl) (by kernel_rfl) (fun _ _ _ h => h) (Or.inl ⟨by rfl, ?_⟩) HS.out ?_
              rotate_left
              · intro w' hSw; clear hSw; go_simp; try (with_reducible rfl)
              try simp only [Act.put, List.setIfInBounds_toArray, List.set_cons_zero, List.set_cons_succ]
              refine wpAnyH_ready (rs := [11]) (by kernel_rfl) (by simp) ?_
              refine AllReadyH.cons (o := ⟨none, _, _, _, _, _⟩) rfl (fun K hK => ?_) AllReadyH.nil
              refine if_yes rfl ?_
              refine wp_store_row 31 (.tmp 9) (.tmp 43) rfl ((wr.heap.size + 1)) #[.int .u32 (v2 0), .int .u32 (v2 1), .int .u32 (v2 2), .int .u32 (v2 3), .int .u32 (v2 4), .int .u32 (v2 5), .int .u32 (v2 6), .int .u32 (v2 7), .slice alr n2 capr] rfl rfl 31 _ HZ.out (by kernel_rfl) rfl (cut_one _ _ _ _) ?_
              refine hK.out _ _ (HS.out.row HZ.out HG.out.1 HG.out.2 _) (fun _ => ?_)
              clear hK K
              try simp only [Act.put, List.setIfInBounds_toArray, List.set_cons_zero, List.set_cons_succ]
              have HS := Lib.hid (HS.out.row HZ.out HG.out.1 HG.out.2 #[.int .u32 (v2 0), .int .u32 (v2 1), .int .u32 (v2 2), .int .u32 (v2 3), .int .u32 (v2 4), .int .u32 (v2 5), .int .u32 (v2 6), .int .u32 (v2 7), .slice alr n2 capr])
              refine wpAnyH_take (i := 12) (oi := ⟨some 10, _, _, _, _, _⟩) (v := ?_) rfl (by kernel_rfl) (by kernel_rfl) (by kernel_rfl) (fun _ _ _ h => h) (Or.inl ⟨by rfl, ?_⟩) HS.out ?_
              rotate_left
              · intro w' hSw; clear hSw; go_simp; try (with_reducible rfl)
              try simp only [Act.put, List.setIfInBounds_toArray, List.set_cons_zero, List.set_cons_succ]
              refine wpAnyH_done (by kernel_rfl) ?_ _
              go_wp2_with fail
              go_meet
              exact ⟨(wr.heap.size + 1), alr, capr, rfl, rfl, HFR.out, (HS.out.put (setRow_heap _ _ _ #[.int .u32 (v2 0), .int .u32 (v2 1), .int .u32 (v2 2), .int .u32 (v2 3), .int .u32 (v2 4), .int .u32 (v2 5), .int .u32 (v2 6), .int .u32 (v2 7), .slice alr n2 capr] _ _ HZ.out)).add (ids_rowC HIR.out HZ.out _)⟩
          · go_simp
            have HG := Lib.hid (KS.ne HS.out)
            refine hK.out _ _ (HS.out.alloc _) (fun _ => ?_)
            clear hK K
            try simp only [Act.put, List.setIfInBounds_toArray, List.set_cons_zero, List.set_cons_succ]
            have HZ := Lib.hid (Blk.new wr #[.int .u32 0, .int .u32 0, .int .u32 0, .int .u32 0, .int .u32 0, .int .u32 0, .int .u32 0, .int .u32 0, .slice none 0 0] 31)
            have HS := Lib.hid (HS.out.alloc (.cells #[.int .u32 0, .int .u32 0, .int .u32 0, .int .u32 0, .int .u32 0, .int .u32 0, .int .u32 0, .int .u32 0, .slice none 0 0] 31))
            have HGL := Lib.hid HZ.out.lt
            generalize hgz : wr.heap.size = gz at HG HZ HGL ⊢
            generalize wr.alloc (.cells #[.int .u32 0, .int .u32 0, .int .u32 0, .int .u32 0, .int .u32 0, .int .u32 0, .int .u32 0, .int .u32 0, .slice none 0 0] 31) = wz2 at HS HZ HGL ⊢
            clear hgz
            refine wpAnyH_ready (rs := [2]) (by kernel_rfl) (by simp) ?_
            refine AllReadyH.cons (o := ⟨some 38, _, _, _, _, _⟩) rfl (fun K hK => ?_) AllReadyH.nil
            go_simp
            have HS0 := HS
            have HB0 := Lib.hid ((Below.refl wz2.heap.size wz2).alloc (Nat.le_refl _) (.cells #[] 29))
            refine hK.out _ _ (HS.out.alloc _) (fun _ => ?_)
            clear hK K
            try simp only [Act.put, List.setIfInBounds_toArray, List.set_cons_zero, List.set_cons_succ]
            have HO := Lib.hid (lit_own wz2)
            have HS := Lib.hid (HS.out.alloc (.cells #[] 29))
            have HZ0 := HZ
            refine wpAnyH_ready (rs := [5]) (by kernel_rfl) (by simp) ?_
            refine AllReadyH.cons (o := ⟨some 41, _, _, _, _, _⟩) rfl (fun K hK => ?_) AllReadyH.nil
            refine if_yes rfl ?_
            refine wp_append_list (.tmp 38) (.tmp 40) rfl wz2.heap.size ti hi hz0 hz1 hz2 _ _ [] rfl HO.out al' len' cap' M rfl (HS.out.ids 1 rfl) (by omega) HB0.out.size ?_
            intro va wa hoa hga
            have hba : Below wz2.heap.size wz2 wa := HB0.out.grown hga HB0.out.size (fun k hk => own_base HO.out k hk)
            have HZ := Lib.hid (HZ0.out.below hba)
            obtain ⟨ala, capa, rfl, hIa, hFa⟩ := app_got hoa
            have HIa := Lib.hid hIa
            have HS := Lib.hid (HS0.out.next hba)
            clear hoa hga hba hIa HO HB0
            refine hK.out _ _ HS.out (fun _ => ?_)
            clear hK K
            try simp only [Act.put, List.setIfInBounds_toArray, List.set_cons_zero, List.set_cons_succ]
            refine wpAnyH_ready (rs := [6]) (by kernel_rfl) (by simp) ?_
            refine AllReadyH.cons (o := ⟨some 42, _, _, _, _, _⟩) rfl (fun K hK => ?_) AllReadyH.nil
            go_simp
            go_at_call 9
            have hmk := cMake_cut b ala len' capa M _ HIa.out hFa HINb.out
            rw [HV2.out, HS2.out, HC2.out, HN2.out] at hmk
            refine hmk.mono ?_
            clear hmk
            rintro e wm ⟨alr, capr, rfl, hIr, hFr, bm⟩
            have HIR := Lib.hid hIr
            have HFR := Lib.hid hFr
            have HZ := Lib.hid (HZ.out.below bm)
            have HS := Lib.hid (HS.out.next bm)
            clear bm hIr hFr HIa
            go_wp2_with fail
            refine hK.out _ _ HS.out (fun _ => ?_)
            clear hK K
            try simp only [Act.put, List.setIfInBounds_toArray, List.set_cons_zero, List.set_cons_succ]
            refine wpAnyH_take (i := 7) (oi := ⟨some 35, _, _, _, _, _⟩) (v := ?_) rfl (by kernel_rfl) (by kernel_rfl) (by kernel_rfl) (fun _ _ _ h => h) (Or.inl ⟨by rfl, ?_⟩) HS.out ?_
            rotate_left
            · intro w' hSw; clear hSw; go_simp; try (with_reducible rfl)
            try simp only [Act.put, List.setIfInBounds_toArray, List.set_cons_zero, List.set_cons_succ]
            refine wpAnyH_take (i := 8) (oi := ⟨some 43, _, _, _, _, _⟩) (v := ?_) rfl (by kernel_rfl) (by kernel_rfl) (by kernel_rfl) (fun _ _ _ h => h) (Or.inl ⟨by rfl, ?_⟩) HS.out ?_
            rotate_left
            · intro w' hSw; clear hSw; go_simp; try (with_reducible rfl)
            try simp only [Act.put, List.setIfInBounds_toArray, List.set_cons_zero, List.set_cons_succ]
            refine wpAnyH_take (i := 9) (oi := ⟨some 44, _, _, _, _, _⟩) (v := ?_) rfl (by kernel_rfl) (by kernel_rfl) (by kernel_rfl) (fun _ _ _ h => h) (Or.inl ⟨by rfl, ?_⟩) HS.out ?_
            rotate_left
            · intro w' hSw; clear hSw; go_simp; try (with_reducible rfl)
            try simp only [Act.put, List.setIfInBounds_toArray, List.set_cons_zero, List.set_cons_succ]
            refine wpAnyH_ready (rs := [11]) (by kernel_rfl) (by simp) ?_
            refine AllReadyH.cons (o := ⟨none, _, _, _, _, _⟩) rfl (fun K hK => ?_) AllReadyH.nil
            refine if_yes rfl ?_
            refine wp_store_row 31 (.tmp 9) (.tmp 43) rfl (gz) #[.int .u32 (v2 0), .int .u32 (v2 1), .int .u32 (v2 2), .int .u32 (v2 3), .int .u32 (v2 4), .int .u32 (v2 5), .int .u32 (v2 6), .int .u32 (v2 7), .slice alr n2 capr] rfl rfl 31 _ HZ.out (by kernel_rfl) rfl (cut_one _ _ _ _) ?_
            refine hK.out _ _ (HS.out.row HZ.out HG.out.1 HG.out.2 _) (fun _ => ?_)
            clear hK K
            try simp only [Act.put, List.setIfInBounds_toArray, List.set_cons_zero, List.set_cons_succ]
            have HS := Lib.hid (HS.out.row HZ.out HG.out.1 HG.out.2 #[.int .u32 (v2 0), .int .u32 (v2 1), .int .u32 (v2 2), .int .u32 (v2 3), .int .u32 (v2 4), .int .u32 (v2 5), .int .u32 (v2 6), .int .u32 (v2 7), .slice alr n2 capr])
            refine wpAnyH_take (i := 12) (oi := ⟨some 10, _, _, _, _, _⟩) (v := ?_) rfl (by kernel_rfl) (by kernel_rfl) (by kernel_rfl) (fun _ _ _ h => h) (Or.inl ⟨by rfl, ?_⟩) HS.out ?_
            rotate_left
            · intro w' hSw; clear hSw; go_simp; try (with_reducible rfl)
            try simp only [Act.put, List.setIfInBounds_toArray, List.set_cons_zero, List.set_cons_succ]
            refine wpAnyH_done (by kernel_rfl) ?_ _
            go_wp2_with fail
            go_meet
            exact ⟨gz, alr, capr, rfl, rfl, HFR.out, (HS.out.put (setRow_heap _ _ _ #[.int .u32 (v2 0), .int .u32 (v2 1), .int .u32 (v2 2), .int .u32 (v2 3), .int .u32 (v2 4), .int .u32 (v2 5), .int .u32 (v2 6), .int .u32 (v2 7), .slice alr n2 capr] _ _ HZ.out)).add (ids_rowC HIR.out HZ.out _)⟩
        case rest =>
          obtain ⟨g2, al2, cap2, rfl, rfl, hF2, hks2⟩ := hcut
          have HK2 := Lib.hid hks2
          clear hks2 HK1
          by_cases hz1 : c1 = 0
          case neg =>
            have hn : (c1 != 0) = true := by simpa using hz1
            clear hz1
            go_wp2
            go_ret
            exact ⟨rfl, HK2.out.bel⟩
          case pos =>
            subst hz1
            by_cases hz2 : c2 = 0
            case neg =>
              have hn : (c2 != 0) = true := by simpa using hz2
              clear hz2
              go_wp2
              go_ret
              exact ⟨rfl, HK2.out.bel⟩
            case pos =>
              subst hz2
              obtain ⟨i1, q1, k1⟩ := kn_made HINa.out HC1.out
              obtain ⟨i2, q2, k2⟩ := kn_made HINb.out HC2.out
              have hhp := cm_has HINa.out HC1.out o q
              rw [HV1.out] at i1
              rw [HV2.out] at i2
              rw [HV1.out, HS1.out] at q1 k1
              rw [HV2.out, HS2.out] at q2 k2
              rw [HV1.out, HS1.out] at hhp
              obtain ⟨tp, htp⟩ : ∃ t, hasC v1 S1 o q = t := ⟨_, rfl⟩
              obtain ⟨tq, htq⟩ : ∃ t, hasC v2 S2 o q = t := ⟨_, rfl⟩
              rw [htp] at hhp
              have HTA := Lib.hid hhp.symm
              have HTP := Lib.hid htp
              have HTQ := Lib.hid htq
              obtain ⟨ij, hjo⟩ := kn_join i1 i2 k1 k2
              obtain ⟨ia, had⟩ := kn_add (o := o) (q := q) i1 k1
              obtain ⟨jv, hjv⟩ : ∃ u, joV v1 S1 v2 S2 = u := ⟨_, rfl⟩
              obtain ⟨jS, hjS⟩ : ∃ u, joS v1 S1 v2 S2 = u := ⟨_, rfl⟩
              obtain ⟨jc, hjc⟩ : ∃ u, joC v1 S1 v2 S2 = u := ⟨_, rfl⟩
              obtain ⟨jn, hjn⟩ : ∃ u, jS.length = u := ⟨_, rfl⟩
              obtain ⟨av, hav⟩ : ∃ u, adV v1 S1 o q = u := ⟨_, rfl⟩
              obtain ⟨aS, haS⟩ : ∃ u, adS v1 S1 o q = u := ⟨_, rfl⟩
              obtain ⟨ac, hac⟩ : ∃ u, adC v1 S1 o q = u := ⟨_, rfl⟩
              obtain ⟨an, han⟩ : ∃ u, aS.length = u := ⟨_, rfl⟩
              rw [hjv, hjS, hjc] at hjo
              rw [hjv] at ij
              rw [hav, haS, hac] at had
              rw [hav] at ia
              have J1 := Lib.hid i1; have J2 := Lib.hid i2; have K1 := Lib.hid k1; have IJ := Lib.hid ij; have IA := Lib.hid ia; have HJO := Lib.hid hjo; have HAD := Lib.hid had
              have HJV := Lib.hid hjv; have HJS := Lib.hid hjS; have HJC := Lib.hid hjc; have HJN := Lib.hid hjn; have HAV := Lib.hid hav; have HAS := Lib.hid haS; have HAC := Lib.hid hac; have HAN := Lib.hid han
              clear i1 i2 q1 q2 k1 k2 hhp htp htq ij hjo ia had hjv hjS hjc hjn hav haS hac han
              go_upto_region 9 with fail
              go_cut [62] (fun sx wx => sx = .bool false ∧ KS w [(g2, #[.int .u32 (v2 0), .int .u32 (v2 1), .int .u32 (v2 2), .int .u32 (v2 3), .int .u32 (v2 4), .int .u32 (v2 5), .int .u32 (v2 6), .int .u32 (v2 7), .slice al2 n2 cap2], 31), (g1, #[.int .u32 (v1 0), .int .u32 (v1 1), .int .u32 (v1 2), .int .u32 (v1 3), .int .u32 (v1 4), .int .u32 (v1 5), .int .u32 (v1 6), .int .u32 (v1 7), .slice al1 n1 cap1], 31), (w.heap.size + 1 + 1, #[.int .i64 o, .int .u32 q], 29), (w.heap.size + 1, #[.int .u32 (b 0), .int .u32 (b 1), .int .u32 (b 2), .int .u32 (b 3), .int .u32 (b 4), .int .u32 (b 5), .int .u32 (b 6), .int .u32 (b 7), .slice al' len' cap'], 27), (w.heap.size, #[.int .u32 (a 0), .int .u32 (a 1), .int .u32 (a 2), .int .u32 (a 3), .int .u32 (a 4), .int .u32 (a 5), .int .u32 (a 6), .int .u32 (a 7), .slice al len cap], 27)] [(al2, n2, cap2, S2), (al1, n1, cap1, S1), (al', len', cap', M), (al, len, cap, L)] wx)
              case first =>
                refine wp_region_held_drew (S := KS w [(g2, #[.int .u32 (v2 0), .int .u32 (v2 1), .int .u32 (v2 2), .int .u32 (v2 3), .int .u32 (v2 4), .int .u32 (v2 5), .int .u32 (v2 6), .int .u32 (v2 7), .slice al2 n2 cap2], 31), (g1, #[.int .u32 (v1 0), .int .u32 (v1 1), .int .u32 (v1 2), .int .u32 (v1 3), .int .u32 (v1 4), .int .u32 (v1 5), .int .u32 (v1 6), .int .u32 (v1 7), .slice al1 n1 cap1], 31), (w.heap.size + 1 + 1, #[.int .i64 o, .int .u32 q], 29), (w.heap.size + 1, #[.int .u32 (b 0), .int .u32 (b 1), .int .u32 (b 2), .int .u32 (b 3), .int .u32 (b 4), .int .u32 (b 5), .int .u32 (b 6), .int .u32 (b 7), .slice al' len' cap'], 27), (w.heap.size, #[.int .u32 (a 0), .int .u32 (a 1), .int .u32 (a 2), .int .u32 (a 3), .int .u32 (a 4), .int .u32 (a 5), .int .u32 (a 6), .int .u32 (a 7), .slice al len cap], 27)] [(al2, n2, cap2, S2), (al1, n1, cap1, S1), (al', len', cap', M), (al, len, cap, L)]) (by kernel_rfl) HK2.out.drew (fun _ => ?_)
                have HS := Lib.hid HK2.out.drew
                refine wpAnyH_take (i := 0) (oi := ⟨some 51, _, _, _, _, _⟩) (v := ?_) rfl (by kernel_rfl) (by kernel_rfl) (by kernel_rfl) (fun _ _ _ h => h) (Or.inl ⟨by rfl, ?_⟩) HS.out ?_
                rotate_left
                · intro w' hSw; obtain ⟨p1_0, p1_1, p1_2, p1_3, p1_4, p1_5, p1_6, p1_7, p1_8⟩ := cut_cells (hSw.blk 1 rfl); obtain ⟨id_0, id_1⟩ := id_cells (hSw.blk 2 rfl); obtain ⟨a_0, a_1, a_2, a_3, a_4, a_5, a_6, a_7, a_8⟩ := cut_cells (hSw.blk 4 rfl); go_simp; try (with_reducible rfl)
                try simp only [Act.put, List.setIfInBounds_toArray, List.set_cons_zero, List.set_cons_succ]
                refine wpAnyH_take (i := 1) (oi := ⟨some 52, _, _, _, _, _⟩) (v := ?_) rfl (by kernel_rfl) (by kernel_rfl) (by kernel_rfl) (fun _ _ _ h => h) (Or.inl ⟨by rfl, ?_⟩) HS.out ?_
                rotate_left
                · intro w' hSw; obtain ⟨p1_0, p1_1, p1_2, p1_3, p1_4, p1_5, p1_6, p1_7, p1_8⟩ := cut_cells (hSw.blk 1 rfl); obtain ⟨id_0, id_1⟩ := id_cells (hSw.blk 2 rfl); obtain ⟨a_0, a_1, a_2, a_3, a_4, a_5, a_6, a_7, a_8⟩ := cut_cells (hSw.blk 4 rfl); go_simp; try (with_reducible rfl)
                try simp only [Act.put, List.setIfInBounds_toArray, List.set_cons_zero, List.set_cons_succ]
                refine wpAnyH_take (i := 3) (oi := ⟨some 54, _, _, _, _, _⟩) (v := ?_) rfl (by kernel_rfl) (by kernel_rfl) (by kernel_rfl) (fun _ _ _ h => h) (Or.inl ⟨by rfl, ?_⟩) HS.out ?_
                rotate_left
                · intro w' hSw; obtain ⟨p1_0, p1_1, p1_2, p1_3, p1_4, p1_5, p1_6, p1_7, p1_8⟩ := cut_cells (hSw.blk 1 rfl); obtain ⟨id_0, id_1⟩ := id_cells (hSw.blk 2 rfl); obtain ⟨a_0, a_1, a_2, a_3, a_4, a_5, a_6, a_7, a_8⟩ := cut_cells (hSw.blk 4 rfl); go_simp; try (with_reducible rfl)
                try simp only [Act.put, List.setIfInBounds_toArray, List.set_cons_zero, List.set_cons_succ]
                refine wpAnyH_take (i := 4) (oi := ⟨some 55, _, _, _, _, _⟩) (v := ?_) rfl (by kernel_rfl) (by kernel_rfl) (by kernel_rfl) (fun _ _ _ h => h) (Or.inl ⟨by rfl, ?_⟩) HS.out ?_
                rotate_left
                · intro w' hSw; obtain ⟨p1_0, p1_1, p1_2, p1_3, p1_4, p1_5, p1_6, p1_7, p1_8⟩ := cut_cells (hSw.blk 1 rfl); obtain ⟨id_0, id_1⟩ := id_cells (hSw.blk 2 rfl); obtain ⟨a_0, a_1, a_2, a_3, a_4, a_5, a_6, a_7, a_8⟩ := cut_cells (hSw.blk 4 rfl); go_simp; try (with_reducible rfl)
                try simp only [Act.put, List.setIfInBounds_toArray, List.set_cons_zero, List.set_cons_succ]
                refine wpAnyH_ready (rs := [2]) (by kernel_rfl) (by simp) ?_
                refine AllReadyH.cons (o := ⟨some 53, _, _, _, _, _⟩) rfl (fun K hK => ?_) AllReadyH.nil
                go_simp
                go_at_call 18
                have hcl := cHas_cut v1 al1 n1 cap1 S1 o q _ (HS.out.ids 1 rfl)
                rw [HTP.out] at hcl
                refine hcl.mono ?_
                clear hcl
                rintro e z1 ⟨rfl, b1⟩
                have HS := Lib.hid (HS.out.next b1)
                clear b1
                go_wp2_with fail
                refine hK.out _ _ HS.out (fun _ => ?_)
                clear hK K
                try simp only [Act.put, List.setIfInBounds_toArray, List.set_cons_zero, List.set_cons_succ]
                refine wpAnyH_ready (rs := [5]) (by kernel_rfl) (by simp) ?_
                refine AllReadyH.cons (o := ⟨some 56, _, _, _, _, _⟩) rfl (fun K hK => ?_) AllReadyH.nil
                go_simp
                go_at_call 19
                have hcl := rHas_cut a al len cap L o q _ (HS.out.ids 3 rfl)
                rw [HTA.out] at hcl
                refine hcl.mono ?_
                clear hcl
                rintro e z2 ⟨rfl, b2⟩
                have HS := Lib.hid (HS.out.next b2)
                clear b2
                go_wp2_with fail
                refine hK.out _ _ HS.out (fun _ => ?_)
                clear hK K
                try simp only [Act.put, List.setIfInBounds_toArray, List.set_cons_zero, List.set_cons_succ]
                refine wpAnyH_take (i := 6) (oi := ⟨some 57, _, _, _, _, _⟩) (v := ?_) rfl (by kernel_rfl) (by kernel_rfl) (by kernel_rfl) (fun _ _ _ h => h) (Or.inl ⟨by rfl, ?_⟩) HS.out ?_
                rotate_left
                · intro w' hSw; clear hSw; go_simp; try (with_reducible rfl)
                try simp only [Act.put, List.setIfInBounds_toArray, List.set_cons_zero, List.set_cons_succ]
                refine wpAnyH_take (i := 7) (oi := ⟨some 58, _, _, _, _, _⟩) (v := ?_) rfl (by kernel_rfl) (by kernel_rfl) (by kernel_rfl) (fun _ _ _ h => h) (Or.inl ⟨by rfl, ?_⟩) HS.out ?_
                rotate_left
                · intro w' hSw; clear hSw; go_simp; try (with_reducible rfl)
                try simp only [Act.put, List.setIfInBounds_toArray, List.set_cons_zero, List.set_cons_succ]
                refine wpAnyH_take (i := 8) (oi := ⟨some 59, _, _, _, _, _⟩) (v := ?_) rfl (by kernel_rfl) (by kernel_rfl) (by kernel_rfl) (fun _ _ _ h => h) (Or.inl ⟨by rfl, ?_⟩) HS.out ?_
                rotate_left
                · intro w' hSw; obtain ⟨p1_0, p1_1, p1_2, p1_3, p1_4, p1_5, p1_6, p1_7, p1_8⟩ := cut_cells (hSw.blk 1 rfl); obtain ⟨id_0, id_1⟩ := id_cells (hSw.blk 2 rfl); obtain ⟨a_0, a_1, a_2, a_3, a_4, a_5, a_6, a_7, a_8⟩ := cut_cells (hSw.blk 4 rfl); go_simp; try (with_reducible rfl)
                try simp only [Act.put, List.setIfInBounds_toArray, List.set_cons_zero, List.set_cons_succ]
                refine wpAnyH_ready (rs := [9]) (by kernel_rfl) (by simp) ?_
                refine AllReadyH.cons (o := ⟨some 60, _, _, _, _, _⟩) rfl (fun K hK => ?_) AllReadyH.nil
                go_simp
                go_at_call 16
                have hcl := cCheck_any v1 al1 n1 cap1 S1 _ (HS.out.ids 1 rfl) hF1 J1.out
                rw [K1.out] at hcl
                refine hcl.mono ?_
                clear hcl
                rintro e z3 ⟨rfl, b3⟩
                have HS := Lib.hid (HS.out.next b3)
                clear b3
                go_wp2_with fail
                refine hK.out _ _ HS.out (fun _ => ?_)
                clear hK K
                try simp only [Act.put, List.setIfInBounds_toArray, List.set_cons_zero, List.set_cons_succ]
                refine wpAnyH_take (i := 10) (oi := ⟨some 61, _, _, _, _, _⟩) (v := ?_) rfl (by kernel_rfl) (by kernel_rfl) (by kernel_rfl) (fun _ _ _ h => h) (Or.inl ⟨by rfl, ?_⟩) HS.out ?_
                rotate_left
                · intro w' hSw; clear hSw; go_simp; try (with_reducible rfl)
                try simp only [Act.put, List.setIfInBounds_toArray, List.set_cons_zero, List.set_cons_succ]
                refine wpAnyH_take (i := 11) (oi := ⟨some 62, _, _, _, _, _⟩) (v := ?_) rfl (by kernel_rfl) (by kernel_rfl) (by kernel_rfl) (fun _ _ _ h => h) (Or.inl ⟨by rfl, ?_⟩) HS.out ?_
                rotate_left
                · intro w' hSw; clear hSw; go_simp; try (with_reducible rfl)
                try simp only [Act.put, List.setIfInBounds_toArray, List.set_cons_zero, List.set_cons_succ]
                refine wpAnyH_done (by kernel_rfl) ?_ _
                go_wp2_with fail
                go_meet
                exact ⟨by first | rfl | (cases tp <;> rfl), HS.out⟩
              case rest =>
                obtain ⟨rfl, hks⟩ := hcut
                have HL := Lib.hid hks
                obtain ⟨p2_0, p2_1, p2_2, p2_3, p2_4, p2_5, p2_6, p2_7, p2_8⟩ := cut_cells (hks.blk 0 rfl)
                obtain ⟨p1_0, p1_1, p1_2, p1_3, p1_4, p1_5, p1_6, p1_7, p1_8⟩ := cut_cells (hks.blk 1 rfl)
                clear hks HK2
                go_wp2_with fail
                have hcl := cJoin_any v1 v2 al1 al2 n1 cap1 n2 cap2 S1 S2 _ (HL.out.ids 1 rfl) (HL.out.ids 0 rfl) hF1 hF2 J1.out J2.out
                rw [HJV.out, HJS.out, HJC.out, HJN.out] at hcl
                refine hcl.mono ?_
                clear hcl
                rintro e wj ⟨alj, capj, rfl, hIj, hFj, bj⟩
                have HL := Lib.hid (((HL.out.next bj).add hIj).box (g := wj.heap.size) rfl #[.int .u32 (jv 0), .int .u32 (jv 1), .int .u32 (jv 2), .int .u32 (jv 3), .int .u32 (jv 4), .int .u32 (jv 5), .int .u32 (jv 6), .int .u32 (jv 7), .slice alj jn capj] 31)
                clear bj hIj p2_0 p2_1 p2_2 p2_3 p2_4 p2_5 p2_6 p2_7 p2_8 p1_0 p1_1 p1_2 p1_3 p1_4 p1_5 p1_6 p1_7 p1_8
                go_upto_region 12 with fail
                go_cut [96] (fun sx wx => sx = .bool false ∧ KS w [(wj.heap.size, #[.int .u32 (jv 0), .int .u32 (jv 1), .int .u32 (jv 2), .int .u32 (jv 3), .int .u32 (jv 4), .int .u32 (jv 5), .int .u32 (jv 6), .int .u32 (jv 7), .slice alj jn capj], 31), (g2, #[.int .u32 (v2 0), .int .u32 (v2 1), .int .u32 (v2 2), .int .u32 (v2 3), .int .u32 (v2 4), .int .u32 (v2 5), .int .u32 (v2 6), .int .u32 (v2 7), .slice al2 n2 cap2], 31), (g1, #[.int .u32 (v1 0), .int .u32 (v1 1), .int .u32 (v1 2), .int .u32 (v1 3), .int .u32 (v1 4), .int .u32 (v1 5), .int .u32 (v1 6), .int .u32 (v1 7), .slice al1 n1 cap1], 31), (w.heap.size + 1 + 1, #[.int .i64 o, .int .u32 q], 29), (w.heap.size + 1, #[.int .u32 (b 0), .int .u32 (b 1), .int .u32 (b 2), .int .u32 (b 3), .int .u32 (b 4), .int .u32 (b 5), .int .u32 (b 6), .int .u32 (b 7), .slice al' len' cap'], 27), (w.heap.size, #[.int .u32 (a 0), .int .u32 (a 1), .int .u32 (a 2), .int .u32 (a 3), .int .u32 (a 4), .int .u32 (a 5), .int .u32 (a 6), .int .u32 (a 7), .slice al len cap], 27)] [(alj, jn, capj, jS), (al2, n2, cap2, S2), (al1, n1, cap1, S1), (al', len', cap', M), (al, len, cap, L)] wx)
                case first =>
                  by_cases hj0 : jc = 0
                  case neg =>
                    have hn : (jc == 0) = false := by simpa using hj0
                    clear hj0
                    refine wp_region_held_drew (S := KS w [(wj.heap.size, #[.int .u32 (jv 0), .int .u32 (jv 1), .int .u32 (jv 2), .int .u32 (jv 3), .int .u32 (jv 4), .int .u32 (jv 5), .int .u32 (jv 6), .int .u32 (jv 7), .slice alj jn capj], 31), (g2, #[.int .u32 (v2 0), .int .u32 (v2 1), .int .u32 (v2 2), .int .u32 (v2 3), .int .u32 (v2 4), .int .u32 (v2 5), .int .u32 (v2 6), .int .u32 (v2 7), .slice al2 n2 cap2], 31), (g1, #[.int .u32 (v1 0), .int .u32 (v1 1), .int .u32 (v1 2), .int .u32 (v1 3), .int .u32 (v1 4), .int .u32 (v1 5), .int .u32 (v1 6), .int .u32 (v1 7), .slice al1 n1 cap1], 31), (w.heap.size + 1 + 1, #[.int .i64 o, .int .u32 q], 29), (w.heap.size + 1, #[.int .u32 (b 0), .int .u32 (b 1), .int .u32 (b 2), .int .u32 (b 3), .int .u32 (b 4), .int .u32 (b 5), .int .u32 (b 6), .int .u32 (b 7), .slice al' len' cap'], 27), (w.heap.size, #[.int .u32 (a 0), .int .u32 (a 1), .int .u32 (a 2), .int .u32 (a 3), .int .u32 (a 4), .int .u32 (a 5), .int .u32 (a 6), .int .u32 (a 7), .slice al len cap], 27)] [(alj, jn, capj, jS), (al2, n2, cap2, S2), (al1, n1, cap1, S1), (al', len', cap', M), (al, len, cap, L)]) (by kernel_rfl) HL.out.drew (fun _ => ?_)
                    have HS := Lib.hid HL.out.drew
                    refine wpAnyH_take (i := 0) (oi := ⟨some 69, _, _, _, _, _⟩) (v := ?_) rfl (by kernel_rfl) (by kernel_rfl) (by kernel_rfl) (fun _ _ _ h => h) (Or.inl ⟨by rfl, ?_⟩) HS.out ?_
                    rotate_left
                    · intro w' hSw; clear hSw; go_simp; try (with_reducible rfl)
                    try simp only [Act.put, List.setIfInBounds_toArray, List.set_cons_zero, List.set_cons_succ]
                    refine wpAnyH_take (i := 1) (oi := ⟨some 70, _, _, _, _, _⟩) (v := ?_) rfl (by kernel_rfl) (by kernel_rfl) (by kernel_rfl) (fun _ _ _ h => h) (Or.inl ⟨by rfl, ?_⟩) HS.out ?_
                    rotate_left
                    · intro w' hSw; clear hSw; go_simp; try (with_reducible rfl)
                    try simp only [Act.put, List.setIfInBounds_toArray, List.set_cons_zero, List.set_cons_succ]
                    refine wpAnyH_take (i := 2) (oi := ⟨some 71, _, _, _, _, _⟩) (v := ?_) rfl (by kernel_rfl) (by kernel_rfl) (by kernel_rfl) (fun _ _ _ h => h) (Or.inl ⟨by rfl, ?_⟩) HS.out ?_
                    rotate_left
                    · intro w' hSw; clear hSw; go_simp; try (with_reducible rfl)
                    try simp only [Act.put, List.setIfInBounds_toArray, List.set_cons_zero, List.set_cons_succ]
                    refine wpAnyH_take (i := 3) (oi := ⟨some 72, _, _, _, _, _⟩) (v := _) rfl (by kernel_rfl) (by kernel_rfl) (by kernel_rfl) (fun _ _ _ h => h) (Or.inr ⟨by rfl, rfl⟩) HS.out ?_
                    try simp only [Act.put, List.setIfInBounds_toArray, List.set_cons_zero, List.set_cons_succ]
                    refine wpAnyH_take (i := 4) (oi := ⟨some 73, _, _, _, _, _⟩) (v := _) rfl (by kernel_rfl) (by kernel_rfl) (by kernel_rfl) (fun _ _ _ h => h) (Or.inr ⟨by rfl, rfl⟩) HS.out ?_
                    try simp only [Act.put, List.setIfInBounds_toArray, List.set_cons_zero, List.set_cons_succ]
                    refine wpAnyH_take (i := 5) (oi := ⟨some 74, _, _, _, _, _⟩) (v := _) rfl (by kernel_rfl) (by kernel_rfl) (by kernel_rfl) (fun _ _ _ h => h) (Or.inr ⟨by rfl, rfl⟩) HS.out ?_
                    try simp only [Act.put, List.setIfInBounds_toArray, List.set_cons_zero, List.set_cons_succ]
                    refine wpAnyH_take (i := 6) (oi := ⟨some 75, _, _, _, _, _⟩) (v := _) rfl (by kernel_rfl) (by kernel_rfl) (by kernel_rfl) (fun _ _ _ h => h) (Or.inr ⟨by rfl, rfl⟩) HS.out ?_
                    try simp only [Act.put, List.setIfInBounds_toArray, List.set_cons_zero, List.set_cons_succ]
                    refine wpAnyH_take (i := 7) (oi := ⟨some 76, _, _, _, _, _⟩) (v := _) rfl (by kernel_rfl) (by kernel_rfl) (by kernel_rfl) (fun _ _ _ h => h) (Or.inr ⟨by rfl, rfl⟩) HS.out ?_
                    try simp only [Act.put, List.setIfInBounds_toArray, List.set_cons_zero, List.set_cons_succ]
                    refine wpAnyH_take (i := 8) (oi := ⟨some 77, _, _, _, _, _⟩) (v := _) rfl (by kernel_rfl) (by kernel_rfl) (by kernel_rfl) (fun _ _ _ h => h) (Or.inr ⟨by rfl, rfl⟩) HS.out ?_
                    try simp only [Act.put, List.setIfInBounds_toArray, List.set_cons_zero, List.set_cons_succ]
                    refine wpAnyH_take (i := 9) (oi := ⟨some 78, _, _, _, _, _⟩) (v := _) rfl (by kernel_rfl) (by kernel_rfl) (by kernel_rfl) (fun _ _ _ h => h) (Or.inr ⟨by rfl, rfl⟩) HS.out ?_
                    try simp only [Act.put, List.setIfInBounds_toArray, List.set_cons_zero, List.set_cons_succ]
                    refine wpAnyH_take (i := 10) (oi := ⟨some 79, _, _, _, _, _⟩) (v := _) rfl (by kernel_rfl) (by kernel_rfl) (by kernel_rfl) (fun _ _ _ h => h) (Or.inr ⟨by rfl, rfl⟩) HS.out ?_
                    try simp only [Act.put, List.setIfInBounds_toArray, List.set_cons_zero, List.set_cons_succ]
                    refine wpAnyH_take (i := 11) (oi := ⟨some 80, _, _, _, _, _⟩) (v := _) rfl (by kernel_rfl) (by kernel_rfl) (by kernel_rfl) (fun _ _ _ h => h) (Or.inr ⟨by rfl, rfl⟩) HS.out ?_
                    try simp only [Act.put, List.setIfInBounds_toArray, List.set_cons_zero, List.set_cons_succ]
                    refine wpAnyH_take (i := 12) (oi := ⟨some 81, _, _, _, _, _⟩) (v := _) rfl (by kernel_rfl) (by kernel_rfl) (by kernel_rfl) (fun _ _ _ h => h) (Or.inr ⟨by rfl, rfl⟩) HS.out ?_
                    try simp only [Act.put, List.setIfInBounds_toArray, List.set_cons_zero, List.set_cons_succ]
                    refine wpAnyH_take (i := 13) (oi := ⟨some 82, _, _, _, _, _⟩) (v := _) rfl (by kernel_rfl) (by kernel_rfl) (by kernel_rfl) (fun _ _ _ h => h) (Or.inr ⟨by rfl, rfl⟩) HS.out ?_
                    try simp only [Act.put, List.setIfInBounds_toArray, List.set_cons_zero, List.set_cons_succ]
                    refine wpAnyH_take (i := 14) (oi := ⟨some 83, _, _, _, _, _⟩) (v := _) rfl (by kernel_rfl) (by kernel_rfl) (by kernel_rfl) (fun _ _ _ h => h) (Or.inr ⟨by rfl, rfl⟩) HS.out ?_
                    try simp only [Act.put, List.setIfInBounds_toArray, List.set_cons_zero, List.set_cons_succ]
                    refine wpAnyH_take (i := 15) (oi := ⟨some 84, _, _, _, _, _⟩) (v := _) rfl (by kernel_rfl) (by kernel_rfl) (by kernel_rfl) (fun _ _ _ h => h) (Or.inr ⟨by rfl, rfl⟩) HS.out ?_
                    try simp only [Act.put, List.setIfInBounds_toArray, List.set_cons_zero, List.set_cons_succ]
                    refine wpAnyH_take (i := 16) (oi := ⟨some 85, _, _, _, _, _⟩) (v := _) rfl (by kernel_rfl) (by kernel_rfl) (by kernel_rfl) (fun _ _ _ h => h) (Or.inr ⟨by rfl, rfl⟩) HS.out ?_
                    try simp only [Act.put, List.setIfInBounds_toArray, List.set_cons_zero, List.set_cons_succ]
                    refine wpAnyH_take (i := 17) (oi := ⟨some 86, _, _, _, _, _⟩) (v := _) rfl (by kernel_rfl) (by kernel_rfl) (by kernel_rfl) (fun _ _ _ h => h) (Or.inr ⟨by rfl, rfl⟩) HS.out ?_
                    try simp only [Act.put, List.setIfInBounds_toArray, List.set_cons_zero, List.set_cons_succ]
                    refine wpAnyH_take (i := 18) (oi := ⟨some 87, _, _, _, _, _⟩) (v := _) rfl (by kernel_rfl) (by kernel_rfl) (by kernel_rfl) (fun _ _ _ h => h) (Or.inr ⟨by rfl, rfl⟩) HS.out ?_
                    try simp only [Act.put, List.setIfInBounds_toArray, List.set_cons_zero, List.set_cons_succ]
                    refine wpAnyH_take (i := 19) (oi := ⟨some 88, _, _, _, _, _⟩) (v := _) rfl (by kernel_rfl) (by kernel_rfl) (by kernel_rfl) (fun _ _ _ h => h) (Or.inr ⟨by rfl, rfl⟩) HS.out ?_
                    try simp only [Act.put, List.setIfInBounds_toArray, List.set_cons_zero, List.set_cons_succ]
                    refine wpAnyH_take (i := 20) (oi := ⟨some 89, _, _, _, _, _⟩) (v := _) rfl (by kernel_rfl) (by kernel_rfl) (by kernel_rfl) (fun _ _ _ h => h) (Or.inr ⟨by rfl, rfl⟩) HS.out ?_
                    try simp only [Act.put, List.setIfInBounds_toArray, List.set_cons_zero, List.set_cons_succ]
                    refine wpAnyH_take (i := 21) (oi := ⟨some 90, _, _, _, _, _⟩) (v := _) rfl (by kernel_rfl) (by kernel_rfl) (by kernel_rfl) (fun _ _ _ h => h) (Or.inr ⟨by rfl, rfl⟩) HS.out ?_
                    try simp only [Act.put, List.setIfInBounds_toArray, List.set_cons_zero, List.set_cons_succ]
                    refine wpAnyH_take (i := 22) (oi := ⟨some 91, _, _, _, _, _⟩) (v := _) rfl (by kernel_rfl) (by kernel_rfl) (by kernel_rfl) (fun _ _ _ h => h) (Or.inr ⟨by rfl, rfl⟩) HS.out ?_
                    try simp only [Act.put, List.setIfInBounds_toArray, List.set_cons_zero, List.set_cons_succ]
                    refine wpAnyH_take (i := 23) (oi := ⟨some 92, _, _, _, _, _⟩) (v := _) rfl (by kernel_rfl) (by kernel_rfl) (by kernel_rfl) (fun _ _ _ h => h) (Or.inr ⟨by rfl, rfl⟩) HS.out ?_
                    try simp only [Act.put, List.setIfInBounds_toArray, List.set_cons_zero, List.set_cons_succ]
                    refine wpAnyH_take (i := 24) (oi := ⟨some 93, _, _, _, _, _⟩) (v := _) rfl (by kernel_rfl) (by kernel_rfl) (by kernel_rfl) (fun _ _ _ h => h) (Or.inr ⟨by rfl, rfl⟩) HS.out ?_
                    try simp only [Act.put, List.setIfInBounds_toArray, List.set_cons_zero, List.set_cons_succ]
                    refine wpAnyH_take (i := 25) (oi := ⟨some 94, _, _, _, _, _⟩) (v := _) rfl (by kernel_rfl) (by kernel_rfl) (by kernel_rfl) (fun _ _ _ h => h) (Or.inr ⟨by rfl, rfl⟩) HS.out ?_
                    try simp only [Act.put, List.setIfInBounds_toArray, List.set_cons_zero, List.set_cons_succ]
                    refine wpAnyH_take (i := 26) (oi := ⟨some 95, _, _, _, _, _⟩) (v := _) rfl (by kernel_rfl) (by kernel_rfl) (by kernel_rfl) (fun _ _ _ h => h) (Or.inr ⟨by rfl, rfl⟩) HS.out ?_
                    try simp only [Act.put, List.setIfInBounds_toArray, List.set_cons_zero, List.set_cons_succ]
                    refine wpAnyH_take (i := 27) (oi := ⟨some 96, _, _, _, _, _⟩) (v := ?_) rfl (by kernel_rfl) (by kernel_rfl) (by kernel_rfl) (fun _ _ _ h => h) (Or.inl ⟨by rfl, ?_⟩) HS.out ?_
                    rotate_left
                    · intro w' hSw; clear hSw; go_simp; try (with_reducible rfl)
                    try simp only [Act.put, List.setIfInBounds_toArray, List.set_cons_zero, List.set_cons_succ]
                    refine wpAnyH_done (by kernel_rfl) ?_ _
                    go_wp2_with fail
                    go_meet
                    exact ⟨by first | rfl | (cases tq <;> rfl), HS.out⟩
                  case pos =>
                    subst hj0
                    obtain ⟨h1, h2, h3⟩ := HJO.out rfl
                    have h4 := h1 o q
                    rw [HTP.out, HTQ.out] at h4
                    have HJP := Lib.hid h2
                    have HJQ := Lib.hid h3
                    clear h1 h2 h3
                    cases tp with
                    | true =>
                      have HJH := Lib.hid (h4.trans (Bool.true_or tq))
                      clear h4
                      refine wp_region_held_drew (S := KS w [(wj.heap.size, #[.int .u32 (jv 0), .int .u32 (jv 1), .int .u32 (jv 2), .int .u32 (jv 3), .int .u32 (jv 4), .int .u32 (jv 5), .int .u32 (jv 6), .int .u32 (jv 7), .slice alj jn capj], 31), (g2, #[.int .u32 (v2 0), .int .u32 (v2 1), .int .u32 (v2 2), .int .u32 (v2 3), .int .u32 (v2 4), .int .u32 (v2 5), .int .u32 (v2 6), .int .u32 (v2 7), .slice al2 n2 cap2], 31), (g1, #[.int .u32 (v1 0), .int .u32 (v1 1), .int .u32 (v1 2), .int .u32 (v1 3), .int .u32 (v1 4), .int .u32 (v1 5), .int .u32 (v1 6), .int .u32 (v1 7), .slice al1 n1 cap1], 31), (w.heap.size + 1 + 1, #[.int .i64 o, .int .u32 q], 29), (w.heap.size + 1, #[.int .u32 (b 0), .int .u32 (b 1), .int .u32 (b 2), .int .u32 (b 3), .int .u32 (b 4), .int .u32 (b 5), .int .u32 (b 6), .int .u32 (b 7), .slice al' len' cap'], 27), (w.heap.size, #[.int .u32 (a 0), .int .u32 (a 1), .int .u32 (a 2), .int .u32 (a 3), .int .u32 (a 4), .int .u32 (a 5), .int .u32 (a 6), .int .u32 (a 7), .slice al len cap], 27)] [(alj, jn, capj, jS), (al2, n2, cap2, S2), (al1, n1, cap1, S1), (al', len', cap', M), (al, len, cap, L)]) (by kernel_rfl) HL.out.drew (fun _ => ?_)
                      have HS := Lib.hid HL.out.drew
                      refine wpAnyH_take (i := 0) (oi := ⟨some 69, _, _, _, _, _⟩) (v := ?_) rfl (by kernel_rfl) (by kernel_rfl) (by kernel_rfl) (fun _ _ _ h => h) (Or.inl ⟨by rfl, ?_⟩) HS.out ?_
                      rotate_left
                      · intro w' hSw; clear hSw; go_simp; try (with_reducible rfl)
                      try simp only [Act.put, List.setIfInBounds_toArray, List.set_cons_zero, List.set_cons_succ]
                      refine wpAnyH_take (i := 1) (oi := ⟨some 70, _, _, _, _, _⟩) (v := ?_) rfl (by kernel_rfl) (by kernel_rfl) (by kernel_rfl) (fun _ _ _ h => h) (Or.inl ⟨by rfl, ?_⟩) HS.out ?_
                      rotate_left
                      · intro w' hSw; clear hSw; go_simp; try (with_reducible rfl)
                      try simp only [Act.put, List.setIfInBounds_toArray, List.set_cons_zero, List.set_cons_succ]
                      refine wpAnyH_take (i := 2) (oi := ⟨some 71, _, _, _, _, _⟩) (v := ?_) rfl (by kernel_rfl) (by kernel_rfl) (by kernel_rfl) (fun _ _ _ h => h) (Or.inl ⟨by rfl, ?_⟩) HS.out ?_
                      rotate_left
                      · intro w' hSw; clear hSw; go_simp; try (with_reducible rfl)
                      try simp only [Act.put, List.setIfInBounds_toArray, List.set_cons_zero, List.set_cons_succ]
                      refine wpAnyH_take (i := 3) (oi := ⟨some 72, _, _, _, _, _⟩) (v := ?_) rfl (by kernel_rfl) (by kernel_rfl) (by kernel_rfl) (fun _ _ _ h => h) (Or.inl ⟨by rfl, ?_⟩) HS.out ?_
                      rotate_left
                      · intro w' hSw; obtain ⟨j_0, j_1, j_2, j_3, j_4, j_5, j_6, j_7, j_8⟩ := cut_cells (hSw.blk 0 rfl); obtain ⟨p2_0, p2_1, p2_2, p2_3, p2_4, p2_5, p2_6, p2_7, p2_8⟩ := cut_cells (hSw.blk 1 rfl); obtain ⟨p1_0, p1_1, p1_2, p1_3, p1_4, p1_5, p1_6, p1_7, p1_8⟩ := cut_cells (hSw.blk 2 rfl); obtain ⟨id_0, id_1⟩ := id_cells (hSw.blk 3 rfl); go_simp; try (with_reducible rfl)
                      try simp only [Act.put, List.setIfInBounds_toArray, List.set_cons_zero, List.set_cons_succ]
                      refine wpAnyH_take (i := 4) (oi := ⟨some 73, _, _, _, _, _⟩) (v := ?_) rfl (by kernel_rfl) (by kernel_rfl) (by kernel_rfl) (fun _ _ _ h => h) (Or.inl ⟨by rfl, ?_⟩) HS.out ?_
                      rotate_left
                      · intro w' hSw; obtain ⟨j_0, j_1, j_2, j_3, j_4, j_5, j_6, j_7, j_8⟩ := cut_cells (hSw.blk 0 rfl); obtain ⟨p2_0, p2_1, p2_2, p2_3, p2_4, p2_5, p2_6, p2_7, p2_8⟩ := cut_cells (hSw.blk 1 rfl); obtain ⟨p1_0, p1_1, p1_2, p1_3, p1_4, p1_5, p1_6, p1_7, p1_8⟩ := cut_cells (hSw.blk 2 rfl); obtain ⟨id_0, id_1⟩ := id_cells (hSw.blk 3 rfl); go_simp; try (with_reducible rfl)
                      try simp only [Act.put, List.setIfInBounds_toArray, List.set_cons_zero, List.set_cons_succ]
                      refine wpAnyH_take (i := 6) (oi := ⟨some 75, _, _, _, _, _⟩) (v := ?_) rfl (by kernel_rfl) (by kernel_rfl) (by kernel_rfl) (fun _ _ _ h => h) (Or.inl ⟨by rfl, ?_⟩) HS.out ?_
                      rotate_left
                      · intro w' hSw; obtain ⟨j_0, j_1, j_2, j_3, j_4, j_5, j_6, j_7, j_8⟩ := cut_cells (hSw.blk 0 rfl); obtain ⟨p2_0, p2_1, p2_2, p2_3, p2_4, p2_5, p2_6, p2_7, p2_8⟩ := cut_cells (hSw.blk 1 rfl); obtain ⟨p1_0, p1_1, p1_2, p1_3, p1_4, p1_5, p1_6, p1_7, p1_8⟩ := cut_cells (hSw.blk 2 rfl); obtain ⟨id_0, id_1⟩ := id_cells (hSw.blk 3 rfl); go_simp; try (with_reducible rfl)
                      try simp only [Act.put, List.setIfInBounds_toArray, List.set_cons_zero, List.set_cons_succ]
                      refine wpAnyH_take (i := 7) (oi := ⟨some 76, _, _, _, _, _⟩) (v := ?_) rfl (by kernel_rfl) (by kernel_rfl) (by kernel_rfl) (fun _ _ _ h => h) (Or.inl ⟨by rfl, ?_⟩) HS.out ?_
                      rotate_left
                      · intro w' hSw; obtain ⟨j_0, j_1, j_2, j_3, j_4, j_5, j_6, j_7, j_8⟩ := cut_cells (hSw.blk 0 rfl); obtain ⟨p2_0, p2_1, p2_2, p2_3, p2_4, p2_5, p2_6, p2_7, p2_8⟩ := cut_cells (hSw.blk 1 rfl); obtain ⟨p1_0, p1_1, p1_2, p1_3, p1_4, p1_5, p1_6, p1_7, p1_8⟩ := cut_cells (hSw.blk 2 rfl); obtain ⟨id_0, id_1⟩ := id_cells (hSw.blk 3 rfl); go_simp; try (with_reducible rfl)
                      try simp only [Act.put, List.setIfInBounds_toArray, List.set_cons_zero, List.set_cons_succ]
                      refine wpAnyH_ready (rs := [5]) (by kernel_rfl) (by simp) ?_
                      refine AllReadyH.cons (o := ⟨some 74, _, _, _, _, _⟩) rfl (fun K hK => ?_) AllReadyH.nil
                      go_simp
                      go_at_call 18
                      have hcl := cHas_cut jv alj jn capj jS o q _ (HS.out.ids 0 rfl)
                      rw [HJH.out] at hcl
                      refine hcl.mono ?_
                      clear hcl
                      rintro e z4 ⟨rfl, b4⟩
                      have HS := Lib.hid (HS.out.next b4)
                      clear b4
                      go_wp2_with fail
                      refine hK.out _ _ HS.out (fun _ => ?_)
                      clear hK K
                      try simp only [Act.put, List.setIfInBounds_toArray, List.set_cons_zero, List.set_cons_succ]
                      refine wpAnyH_ready (rs := [8]) (by kernel_rfl) (by simp) ?_
                      refine AllReadyH.cons (o := ⟨some 77, _, _, _, _, _⟩) rfl (fun K hK => ?_) AllReadyH.nil
                      go_simp
                      go_at_call 18
                      have hcl := cHas_cut v1 al1 n1 cap1 S1 o q _ (HS.out.ids 2 rfl)
                      rw [HTP.out] at hcl
                      refine hcl.mono ?_
                      clear hcl
                      rintro e z5 ⟨rfl, b5⟩
                      have HS := Lib.hid (HS.out.next b5)
                      clear b5
                      go_wp2_with fail
                      refine hK.out _ _ HS.out (fun _ => ?_)
                      clear hK K
                      try simp only [Act.put, List.setIfInBounds_toArray, List.set_cons_zero, List.set_cons_succ]
                      refine wpAnyH_take (i := 9) (oi := ⟨some 78, _, _, _, _, _⟩) (v := ?_) rfl (by kernel_rfl) (by kernel_rfl) (by kernel_rfl) (fun _ _ _ h => h) (Or.inl ⟨by rfl, ?_⟩) HS.out ?_
                      rotate_left
                      · intro w' hSw; clear hSw; go_simp; try (with_reducible rfl)
                      try simp only [Act.put, List.setIfInBounds_toArray, List.set_cons_zero, List.set_cons_succ]
                      refine wpAnyH_take (i := 10) (oi := ⟨some 79, _, _, _, _, _⟩) (v := _) rfl (by kernel_rfl) (by kernel_rfl) (by kernel_rfl) (fun _ _ _ h => h) (Or.inr ⟨by rfl, rfl⟩) HS.out ?_
                      try simp only [Act.put, List.setIfInBounds_toArray, List.set_cons_zero, List.set_cons_succ]
                      refine wpAnyH_take (i := 11) (oi := ⟨some 80, _, _, _, _, _⟩) (v := _) rfl (by kernel_rfl) (by kernel_rfl) (by kernel_rfl) (fun _ _ _ h => h) (Or.inr ⟨by rfl, rfl⟩) HS.out ?_
                      try simp only [Act.put, List.setIfInBounds_toArray, List.set_cons_zero, List.set_cons_succ]
                      refine wpAnyH_take (i := 12) (oi := ⟨some 81, _, _, _, _, _⟩) (v := _) rfl (by kernel_rfl) (by kernel_rfl) (by kernel_rfl) (fun _ _ _ h => h) (Or.inr ⟨by rfl, rfl⟩) HS.out ?_
                      try simp only [Act.put, List.setIfInBounds_toArray, List.set_cons_zero, List.set_cons_succ]
                      refine wpAnyH_take (i := 13) (oi := ⟨some 82, _, _, _, _, _⟩) (v := ?_) rfl (by kernel_rfl) (by kernel_rfl) (by kernel_rfl) (fun _ _ _ h => h) (Or.inl ⟨by rfl, ?_⟩) HS.out ?_
                      rotate_left
                      · intro w' hSw; clear hSw; go_simp; try (with_reducible rfl)
                      try simp only [Act.put, List.setIfInBounds_toArray, List.set_cons_zero, List.set_cons_succ]
                      refine wpAnyH_take (i := 14) (oi := ⟨some 83, _, _, _, _, _⟩) (v := ?_) rfl (by kernel_rfl) (by kernel_rfl) (by kernel_rfl) (fun _ _ _ h => h) (Or.inl ⟨by rfl, ?_⟩) HS.out ?_
                      rotate_left
                      · intro w' hSw; clear hSw; go_simp; try (with_reducible rfl)
                      try simp only [Act.put, List.setIfInBounds_toArray, List.set_cons_zero, List.set_cons_succ]
                      refine wpAnyH_take (i := 15) (oi := ⟨some 84, _, _, _, _, _⟩) (v := ?_) rfl (by kernel_rfl) (by kernel_rfl) (by kernel_rfl) (fun _ _ _ h => h) (Or.inl ⟨by rfl, ?_⟩) HS.out ?_
                      rotate_left
                      · intro w' hSw; clear hSw; go_simp; try (with_reducible rfl)
                      try simp only [Act.put, List.setIfInBounds_toArray, List.set_cons_zero, List.set_cons_succ]
                      refine wpAnyH_take (i := 16) (oi := ⟨some 85, _, _, _, _, _⟩) (v := ?_) rfl (by kernel_rfl) (by kernel_rfl) (by kernel_rfl) (fun _ _ _ h => h) (Or.inl ⟨by rfl, ?_⟩) HS.out ?_
                      rotate_left
                      · intro w' hSw; obtain ⟨j_0, j_1, j_2, j_3, j_4, j_5, j_6, j_7, j_8⟩ := cut_cells (hSw.blk 0 rfl); obtain ⟨p2_0, p2_1, p2_2, p2_3, p2_4, p2_5, p2_6, p2_7, p2_8⟩ := cut_cells (hSw.blk 1 rfl); obtain ⟨p1_0, p1_1, p1_2, p1_3, p1_4, p1_5, p1_6, p1_7, p1_8⟩ := cut_cells (hSw.blk 2 rfl); obtain ⟨id_0, id_1⟩ := id_cells (hSw.blk 3 rfl); go_simp; try (with_reducible rfl)
                      try simp only [Act.put, List.setIfInBounds_toArray, List.set_cons_zero, List.set_cons_succ]
                      refine wpAnyH_take (i := 17) (oi := ⟨some 86, _, _, _, _, _⟩) (v := ?_) rfl (by kernel_rfl) (by kernel_rfl) (by kernel_rfl) (fun _ _ _ h => h) (Or.inl ⟨by rfl, ?_⟩) HS.out ?_
                      rotate_left
                      · intro w' hSw; obtain ⟨j_0, j_1, j_2, j_3, j_4, j_5, j_6, j_7, j_8⟩ := cut_cells (hSw.blk 0 rfl); obtain ⟨p2_0, p2_1, p2_2, p2_3, p2_4, p2_5, p2_6, p2_7, p2_8⟩ := cut_cells (hSw.blk 1 rfl); obtain ⟨p1_0, p1_1, p1_2, p1_3, p1_4, p1_5, p1_6, p1_7, p1_8⟩ := cut_cells (hSw.blk 2 rfl); obtain ⟨id_0, id_1⟩ := id_cells (hSw.blk 3 rfl); go_simp; try (with_reducible rfl)
                      try simp only [Act.put, List.setIfInBounds_toArray, List.set_cons_zero, List.set_cons_succ]
                      refine wpAnyH_ready (rs := [18]) (by kernel_rfl) (by simp) ?_
                      refine AllReadyH.cons (o := ⟨some 87, _, _, _, _, _⟩) rfl (fun K hK => ?_) AllReadyH.nil
                      go_simp
                      go_at_call 23
                      have hcl := cLE_any v1 jv al1 alj n1 cap1 jn capj S1 jS _ (HS.out.ids 2 rfl) (HS.out.ids 0 rfl) hF1 hFj J1.out IJ.out
                      rw [HJP.out] at hcl
                      refine hcl.mono ?_
                      clear hcl
                      rintro e z6 ⟨rfl, b6⟩
                      have HS := Lib.hid (HS.out.next b6)
                      clear b6
                      go_wp2_with fail
                      refine hK.out _ _ HS.out (fun _ => ?_)
                      clear hK K
                      try simp only [Act.put, List.setIfInBounds_toArray, List.set_cons_zero, List.set_cons_succ]
                      refine wpAnyH_take (i := 19) (oi := ⟨some 88, _, _, _, _, _⟩) (v := ?_) rfl (by kernel_rfl) (by kernel_rfl) (by kernel_rfl) (fun _ _ _ h => h) (Or.inl ⟨by rfl, ?_⟩) HS.out ?_
                      rotate_left
                      · intro w' hSw; clear hSw; go_simp; try (with_reducible rfl)
                      try simp only [Act.put, List.setIfInBounds_toArray, List.set_cons_zero, List.set_cons_succ]
                      refine wpAnyH_take (i := 20) (oi := ⟨some 89, _, _, _, _, _⟩) (v := ?_) rfl (by kernel_rfl) (by kernel_rfl) (by kernel_rfl) (fun _ _ _ h => h) (Or.inl ⟨by rfl, ?_⟩) HS.out ?_
                      rotate_left
                      · intro w' hSw; clear hSw; go_simp; try (with_reducible rfl)
                      try simp only [Act.put, List.setIfInBounds_toArray, List.set_cons_zero, List.set_cons_succ]
                      refine wpAnyH_take (i := 21) (oi := ⟨some 90, _, _, _, _, _⟩) (v := ?_) rfl (by kernel_rfl) (by kernel_rfl) (by kernel_rfl) (fun _ _ _ h => h) (Or.inl ⟨by rfl, ?_⟩) HS.out ?_
                      rotate_left
                      · intro w' hSw; clear hSw; go_simp; try (with_reducible rfl)
                      try simp only [Act.put, List.setIfInBounds_toArray, List.set_cons_zero, List.set_cons_succ]
                      refine wpAnyH_take (i := 22) (oi := ⟨some 91, _, _, _, _, _⟩) (v := ?_) rfl (by kernel_rfl) (by kernel_rfl) (by kernel_rfl) (fun _ _ _ h => h) (Or.inl ⟨by rfl, ?_⟩) HS.out ?_
                      rotate_left
                      · intro w' hSw; obtain ⟨j_0, j_1, j_2, j_3, j_4, j_5, j_6, j_7, j_8⟩ := cut_cells (hSw.blk 0 rfl); obtain ⟨p2_0, p2_1, p2_2, p2_3, p2_4, p2_5, p2_6, p2_7, p2_8⟩ := cut_cells (hSw.blk 1 rfl); obtain ⟨p1_0, p1_1, p1_2, p1_3, p1_4, p1_5, p1_6, p1_7, p1_8⟩ := cut_cells (hSw.blk 2 rfl); obtain ⟨id_0, id_1⟩ := id_cells (hSw.blk 3 rfl); go_simp; try (with_reducible rfl)
                      try simp only [Act.put, List.setIfInBounds_toArray, List.set_cons_zero, List.set_cons_succ]
                      refine wpAnyH_take (i := 23) (oi := ⟨some 92, _, _, _, _, _⟩) (v := ?_) rfl (by kernel_rfl) (by kernel_rfl) (by kernel_rfl) (fun _ _ _ h => h) (Or.inl ⟨by rfl, ?_⟩) HS.out ?_
                      rotate_left
                      · intro w' hSw; obtain ⟨j_0, j_1, j_2, j_3, j_4, j_5, j_6, j_7, j_8⟩ := cut_cells (hSw.blk 0 rfl); obtain ⟨p2_0, p2_1, p2_2, p2_3, p2_4, p2_5, p2_6, p2_7, p2_8⟩ := cut_cells (hSw.blk 1 rfl); obtain ⟨p1_0, p1_1, p1_2, p1_3, p1_4, p1_5, p1_6, p1_7, p1_8⟩ := cut_cells (hSw.blk 2 rfl); obtain ⟨id_0, id_1⟩ := id_cells (hSw.blk 3 rfl); go_simp; try (with_reducible rfl)
                      try simp only [Act.put, List.setIfInBounds_toArray, List.set_cons_zero, List.set_cons_succ]
                      refine wpAnyH_ready (rs := [24]) (by kernel_rfl) (by simp) ?_
                      refine AllReadyH.cons (o := ⟨some 93, _, _, _, _, _⟩) rfl (fun K hK => ?_) AllReadyH.nil
                      go_simp
                      go_at_call 23
                      have hcl := cLE_any v2 jv al2 alj n2 cap2 jn capj S2 jS _ (HS.out.ids 1 rfl) (HS.out.ids 0 rfl) hF2 hFj J2.out IJ.out
                      rw [HJQ.out] at hcl
                      refine hcl.mono ?_
                      clear hcl
                      rintro e z7 ⟨rfl, b7⟩
                      have HS := Lib.hid (HS.out.next b7)
                      clear b7
                      go_wp2_with fail
                      refine hK.out _ _ HS.out (fun _ => ?_)
                      clear hK K
                      try simp only [Act.put, List.setIfInBounds_toArray, List.set_cons_zero, List.set_cons_succ]
                      refine wpAnyH_take (i := 25) (oi := ⟨some 94, _, _, _, _, _⟩) (v := ?_) rfl (by kernel_rfl) (by kernel_rfl) (by kernel_rfl) (fun _ _ _ h => h) (Or.inl ⟨by rfl, ?_⟩) HS.out ?_
                      rotate_left
                      · intro w' hSw; clear hSw; go_simp; try (with_reducible rfl)
                      try simp only [Act.put, List.setIfInBounds_toArray, List.set_cons_zero, List.set_cons_succ]
                      refine wpAnyH_take (i := 26) (oi := ⟨some 95, _, _, _, _, _⟩) (v := ?_) rfl (by kernel_rfl) (by kernel_rfl) (by kernel_rfl) (fun _ _ _ h => h) (Or.inl ⟨by rfl, ?_⟩) HS.out ?_
                      rotate_left
                      · intro w' hSw; clear hSw; go_simp; try (with_reducible rfl)
                      try simp only [Act.put, List.setIfInBounds_toArray, List.set_cons_zero, List.set_cons_succ]
                      refine wpAnyH_take (i := 27) (oi := ⟨some 96, _, _, _, _, _⟩) (v := ?_) rfl (by kernel_rfl) (by kernel_rfl) (by kernel_rfl) (fun _ _ _ h => h) (Or.inl ⟨by rfl, ?_⟩) HS.out ?_
                      rotate_left
                      · intro w' hSw; clear hSw; go_simp; try (with_reducible rfl)
                      try simp only [Act.put, List.setIfInBounds_toArray, List.set_cons_zero, List.set_cons_succ]
                      refine wpAnyH_done (by kernel_rfl) ?_ _
                      go_wp2_with fail
                      go_meet
                      exact ⟨by first | rfl | (cases tq <;> rfl), HS.out⟩
                    | false =>
                      have HJH := Lib.hid (h4.trans (Bool.false_or tq))
                      clear h4
                      refine wp_region_held_drew (S := KS w [(wj.heap.size, #[.int .u32 (jv 0), .int .u32 (jv 1), .int .u32 (jv 2), .int .u32 (jv 3), .int .u32 (jv 4), .int .u32 (jv 5), .int .u32 (jv 6), .int .u32 (jv 7), .slice alj jn capj], 31), (g2, #[.int .u32 (v2 0), .int .u32 (v2 1), .int .u32 (v2 2), .int .u32 (v2 3), .int .u32 (v2 4), .int .u32 (v2 5), .int .u32 (v2 6), .int .u32 (v2 7), .slice al2 n2 cap2], 31), (g1, #[.int .u32 (v1 0), .int .u32 (v1 1), .int .u32 (v1 2), .int .u32 (v1 3), .int .u32 (v1 4), .int .u32 (v1 5), .int .u32 (v1 6), .int .u32 (v1 7), .slice al1 n1 cap1], 31), (w.heap.size + 1 + 1, #[.int .i64 o, .int .u32 q], 29), (w.heap.size + 1, #[.int .u32 (b 0), .int .u32 (b 1), .int .u32 (b 2), .int .u32 (b 3), .int .u32 (b 4), .int .u32 (b 5), .int .u32 (b 6), .int .u32 (b 7), .slice al' len' cap'], 27), (w.heap.size, #[.int .u32 (a 0), .int .u32 (a 1), .int .u32 (a 2), .int .u32 (a 3), .int .u32 (a 4), .int .u32 (a 5), .int .u32 (a 6), .int .u32 (a 7), .slice al len cap], 27)] [(alj, jn, capj, jS), (al2, n2, cap2, S2), (al1, n1, cap1, S1), (al', len', cap', M), (al, len, cap, L)]) (by kernel_rfl) HL.out.drew (fun _ => ?_)
                      have HS := Lib.hid HL.out.drew
                      refine wpAnyH_take (i := 0) (oi := ⟨some 69, _, _, _, _, _⟩) (v := ?_) rfl (by kernel_rfl) (by kernel_rfl) (by kernel_rfl) (fun _ _ _ h => h) (Or.inl ⟨by rfl, ?_⟩) HS.out ?_
                      rotate_left
                      · intro w' hSw; clear hSw; go_simp; try (with_reducible rfl)
                      try simp only [Act.put, List.setIfInBounds_toArray, List.set_cons_zero, List.set_cons_succ]
                      refine wpAnyH_take (i := 1) (oi := ⟨some 70, _, _, _, _, _⟩) (v := ?_) rfl (by kernel_rfl) (by kernel_rfl) (by kernel_rfl) (fun _ _ _ h => h) (Or.inl ⟨by rfl, ?_⟩) HS.out ?_
                      rotate_left
                      · intro w' hSw; clear hSw; go_simp; try (with_reducible rfl)
                      try simp only [Act.put, List.setIfInBounds_toArray, List.set_cons_zero, List.set_cons_succ]
                      refine wpAnyH_take (i := 2) (oi := ⟨some 71, _, _, _, _, _⟩) (v := ?_) rfl (by kernel_rfl) (by kernel_rfl) (by kernel_rfl) (fun _ _ _ h => h) (Or.inl ⟨by rfl, ?_⟩) HS.out ?_
                      rotate_left
                      · intro w' hSw; clear hSw; go_simp; try (with_reducible rfl)
                      try simp only [Act.put, List.setIfInBounds_toArray, List.set_cons_zero, List.set_cons_succ]
                      refine wpAnyH_take (i := 3) (oi := ⟨some 72, _, _, _, _, _⟩) (v := ?_) rfl (by kernel_rfl) (by kernel_rfl) (by kernel_rfl) (fun _ _ _ h => h) (Or.inl ⟨by rfl, ?_⟩) HS.out ?_
                      rotate_left
                      · intro w' hSw; obtain ⟨j_0, j_1, j_2, j_3, j_4, j_5, j_6, j_7, j_8⟩ := cut_cells (hSw.blk 0 rfl); obtain ⟨p2_0, p2_1, p2_2, p2_3, p2_4, p2_5, p2_6, p2_7, p2_8⟩ := cut_cells (hSw.blk 1 rfl); obtain ⟨p1_0, p1_1, p1_2, p1_3, p1_4, p1_5, p1_6, p1_7, p1_8⟩ := cut_cells (hSw.blk 2 rfl); obtain ⟨id_0, id_1⟩ := id_cells (hSw.blk 3 rfl); go_simp; try (with_reducible rfl)
                      try simp only [Act.put, List.setIfInBounds_toArray, List.set_cons_zero, List.set_cons_succ]
                      refine wpAnyH_take (i := 4) (oi := ⟨some 73, _, _, _, _, _⟩) (v := ?_) rfl (by kernel_rfl) (by kernel_rfl) (by kernel_rfl) (fun _ _ _ h => h) (Or.inl ⟨by rfl, ?_⟩) HS.out ?_
                      rotate_left
                      · intro w' hSw; obtain ⟨j_0, j_1, j_2, j_3, j_4, j_5, j_6, j_7, j_8⟩ := cut_cells (hSw.blk 0 rfl); obtain ⟨p2_0, p2_1, p2_2, p2_3, p2_4, p2_5, p2_6, p2_7, p2_8⟩ := cut_cells (hSw.blk 1 rfl); obtain ⟨p1_0, p1_1, p1_2, p1_3, p1_4, p1_5, p1_6, p1_7, p1_8⟩ := cut_cells (hSw.blk 2 rfl); obtain ⟨id_0, id_1⟩ := id_cells (hSw.blk 3 rfl); go_simp; try (with_reducible rfl)
                      try simp only [Act.put, List.setIfInBounds_toArray, List.set_cons_zero, List.set_cons_succ]
                      refine wpAnyH_take (i := 6) (oi := ⟨some 75, _, _, _, _, _⟩) (v := ?_) rfl (by kernel_rfl) (by kernel_rfl) (by kernel_rfl) (fun _ _ _ h => h) (Or.inl ⟨by rfl, ?_⟩) HS.out ?_
                      rotate_left
                      · intro w' hSw; obtain ⟨j_0, j_1, j_2, j_3, j_4, j_5, j_6, j_7, j_8⟩ := cut_cells (hSw.blk 0 rfl); obtain ⟨p2_0, p2_1, p2_2, p2_3, p2_4, p2_5, p2_6, p2_7, p2_8⟩ := cut_cells (hSw.blk 1 rfl); obtain ⟨p1_0, p1_1, p1_2, p1_3, p1_4, p1_5, p1_6, p1_7, p1_8⟩ := cut_cells (hSw.blk 2 rfl); obtain ⟨id_0, id_1⟩ := id_cells (hSw.blk 3 rfl); go_simp; try (with_reducible rfl)
                      try simp only [Act.put, List.setIfInBounds_toArray, List.set_cons_zero, List.set_cons_succ]
                      refine wpAnyH_take (i := 7) (oi := ⟨some 76, _, _, _, _, _⟩) (v := ?_) rfl (by kernel_rfl) (by kernel_rfl) (by kernel_rfl) (fun _ _ _ h => h) (Or.inl ⟨by rfl, ?_⟩) HS.out ?_
                      rotate_left
                      · intro w' hSw; obtain ⟨j_0, j_1, j_2, j_3, j_4, j_5, j_6, j_7, j_8⟩ := cut_cells (hSw.blk 0 rfl); obtain ⟨p2_0, p2_1, p2_2, p2_3, p2_4, p2_5, p2_6, p2_7, p2_8⟩ := cut_cells (hSw.blk 1 rfl); obtain ⟨p1_0, p1_1, p1_2, p1_3, p1_4, p1_5, p1_6, p1_7, p1_8⟩ := cut_cells (hSw.blk 2 rfl); obtain ⟨id_0, id_1⟩ := id_cells (hSw.blk 3 rfl); go_simp; try (with_reducible rfl)
                      try simp only [Act.put, List.setIfInBounds_toArray, List.set_cons_zero, List.set_cons_succ]
                      refine wpAnyH_ready (rs := [5]) (by kernel_rfl) (by simp) ?_
                      refine AllReadyH.cons (o := ⟨some 74, _, _, _, _, _⟩) rfl (fun K hK => ?_) AllReadyH.nil
                      go_simp
                      go_at_call 18
                      have hcl := cHas_cut jv alj jn capj jS o q _ (HS.out.ids 0 rfl)
                      rw [HJH.out] at hcl
                      refine hcl.mono ?_
                      clear hcl
                      rintro e z8 ⟨rfl, b8⟩
                      have HS := Lib.hid (HS.out.next b8)
                      clear b8
                      go_wp2_with fail
                      refine hK.out _ _ HS.out (fun _ => ?_)
                      clear hK K
                      try simp only [Act.put, List.setIfInBounds_toArray, List.set_cons_zero, List.set_cons_succ]
                      refine wpAnyH_ready (rs := [8]) (by kernel_rfl) (by simp) ?_
                      refine AllReadyH.cons (o := ⟨some 77, _, _, _, _, _⟩) rfl (fun K hK => ?_) AllReadyH.nil
                      go_simp
                      go_at_call 18
                      have hcl := cHas_cut v1 al1 n1 cap1 S1 o q _ (HS.out.ids 2 rfl)
                      rw [HTP.out] at hcl
                      refine hcl.mono ?_
                      clear hcl
                      rintro e z9 ⟨rfl, b9⟩
                      have HS := Lib.hid (HS.out.next b9)
                      clear b9
                      go_wp2_with fail
                      refine hK.out _ _ HS.out (fun _ => ?_)
                      clear hK K
                      try simp only [Act.put, List.setIfInBounds_toArray, List.set_cons_zero, List.set_cons_succ]
                      refine wpAnyH_take (i := 9) (oi := ⟨some 78, _, _, _, _, _⟩) (v := ?_) rfl (by kernel_rfl) (by kernel_rfl) (by kernel_rfl) (fun _ _ _ h => h) (Or.inl ⟨by rfl, ?_⟩) HS.out ?_
                      rotate_left
                      · intro w' hSw; clear hSw; go_simp; try (with_reducible rfl)
                      try simp only [Act.put, List.setIfInBounds_toArray, List.set_cons_zero, List.set_cons_succ]
                      refine wpAnyH_take (i := 10) (oi := ⟨some 79, _, _, _, _, _⟩) (v := ?_) rfl (by kernel_rfl) (by kernel_rfl) (by kernel_rfl) (fun _ _ _ h => h) (Or.inl ⟨by rfl, ?_⟩) HS.out ?_
                      rotate_left
                      · intro w' hSw; obtain ⟨j_0, j_1, j_2, j_3, j_4, j_5, j_6, j_7, j_8⟩ := cut_cells (hSw.blk 0 rfl); obtain ⟨p2_0, p2_1, p2_2, p2_3, p2_4, p2_5, p2_6, p2_7, p2_8⟩ := cut_cells (hSw.blk 1 rfl); obtain ⟨p1_0, p1_1, p1_2, p1_3, p1_4, p1_5, p1_6, p1_7, p1_8⟩ := cut_cells (hSw.blk 2 rfl); obtain ⟨id_0, id_1⟩ := id_cells (hSw.blk 3 rfl); go_simp; try (with_reducible rfl)
                      try simp only [Act.put, List.setIfInBounds_toArray, List.set_cons_zero, List.set_cons_succ]
                      refine wpAnyH_take (i := 11) (oi := ⟨some 80, _, _, _, _, _⟩) (v := ?_) rfl (by kernel_rfl) (by kernel_rfl) (by kernel_rfl) (fun _ _ _ h => h) (Or.inl ⟨by rfl, ?_⟩) HS.out ?_
                      rotate_left
                      · intro w' hSw; obtain ⟨j_0, j_1, j_2, j_3, j_4, j_5, j_6, j_7, j_8⟩ := cut_cells (hSw.blk 0 rfl); obtain ⟨p2_0, p2_1, p2_2, p2_3, p2_4, p2_5, p2_6, p2_7, p2_8⟩ := cut_cells (hSw.blk 1 rfl); obtain ⟨p1_0, p1_1, p1_2, p1_3, p1_4, p1_5, p1_6, p1_7, p1_8⟩ := cut_cells (hSw.blk 2 rfl); obtain ⟨id_0, id_1⟩ := id_cells (hSw.blk 3 rfl); go_simp; try (with_reducible rfl)
                      try simp only [Act.put, List.setIfInBounds_toArray, List.set_cons_zero, List.set_cons_succ]
                      refine wpAnyH_ready (rs := [12]) (by kernel_rfl) (by simp) ?_
                      refine AllReadyH.cons (o := ⟨some 81, _, _, _, _, _⟩) rfl (fun K hK => ?_) AllReadyH.nil
                      go_simp
                      go_at_call 18
                      have hcl := cHas_cut v2 al2 n2 cap2 S2 o q _ (HS.out.ids 1 rfl)
                      rw [HTQ.out] at hcl
                      refine hcl.mono ?_
                      clear hcl
                      rintro e z10 ⟨rfl, b10⟩
                      have HS := Lib.hid (HS.out.next b10)
                      clear b10
                      go_wp2_with fail
                      refine hK.out _ _ HS.out (fun _ => ?_)
                      clear hK K
                      try simp only [Act.put, List.setIfInBounds_toArray, List.set_cons_zero, List.set_cons_succ]
                      refine wpAnyH_take (i := 13) (oi := ⟨some 82, _, _, _, _, _⟩) (v := ?_) rfl (by kernel_rfl) (by kernel_rfl) (by kernel_rfl) (fun _ _ _ h => h) (Or.inl ⟨by rfl, ?_⟩) HS.out ?_
                      rotate_left
                      · intro w' hSw; clear hSw; go_simp; try (with_reducible rfl)
                      try simp only [Act.put, List.setIfInBounds_toArray, List.set_cons_zero, List.set_cons_succ]
                      refine wpAnyH_take (i := 14) (oi := ⟨some 83, _, _, _, _, _⟩) (v := ?_) rfl (by kernel_rfl) (by kernel_rfl) (by kernel_rfl) (fun _ _ _ h => h) (Or.inl ⟨by rfl, ?_⟩) HS.out ?_
                      rotate_left
                      · intro w' hSw; clear hSw; go_simp; try (with_reducible rfl)
                      try simp only [Act.put, List.setIfInBounds_toArray, List.set_cons_zero, List.set_cons_succ]
                      refine wpAnyH_take (i := 15) (oi := ⟨some 84, _, _, _, _, _⟩) (v := ?_) rfl (by kernel_rfl) (by kernel_rfl) (by kernel_rfl) (fun _ _ _ h => h) (Or.inl ⟨by rfl, ?_⟩) HS.out ?_
                      rotate_left
                      · intro w' hSw; clear hSw; go_simp; try (with_reducible rfl)
                      try simp only [Act.put, List.setIfInBounds_toArray, List.set_cons_zero, List.set_cons_succ]
                      refine wpAnyH_take (i := 16) (oi := ⟨some 85, _, _, _, _, _⟩) (v := ?_) rfl (by kernel_rfl) (by kernel_rfl) (by kernel_rfl) (fun _ _ _ h => h) (Or.inl ⟨by rfl, ?_⟩) HS.out ?_
                      rotate_left
                      · intro w' hSw; obtain ⟨j_0, j_1, j_2, j_3, j_4, j_5, j_6, j_7, j_8⟩ := cut_cells (hSw.blk 0 rfl); obtain ⟨p2_0, p2_1, p2_2, p2_3, p2_4, p2_5, p2_6, p2_7, p2_8⟩ := cut_cells (hSw.blk 1 rfl); obtain ⟨p1_0, p1_1, p1_2, p1_3, p1_4, p1_5, p1_6, p1_7, p1_8⟩ := cut_cells (hSw.blk 2 rfl); obtain ⟨id_0, id_1⟩ := id_cells (hSw.blk 3 rfl); go_simp; try (with_reducible rfl)
                      try simp only [Act.put, List.setIfInBounds_toArray, List.set_cons_zero, List.set_cons_succ]
                      refine wpAnyH_take (i := 17) (oi := ⟨some 86, _, _, _, _, _⟩) (v := ?_) rfl (by kernel_rfl) (by kernel_rfl) (by kernel_rfl) (fun _ _ _ h => h) (Or.inl ⟨by rfl, ?_⟩) HS.out ?_
                      rotate_left
                      · intro w' hSw; obtain ⟨j_0, j_1, j_2, j_3, j_4, j_5, j_6, j_7, j_8⟩ := cut_cells (hSw.blk 0 rfl); obtain ⟨p2_0, p2_1, p2_2, p2_3, p2_4, p2_5, p2_6, p2_7, p2_8⟩ := cut_cells (hSw.blk 1 rfl); obtain ⟨p1_0, p1_1, p1_2, p1_3, p1_4, p1_5, p1_6, p1_7, p1_8⟩ := cut_cells (hSw.blk 2 rfl); obtain ⟨id_0, id_1⟩ := id_cells (hSw.blk 3 rfl); go_simp; try (with_reducible rfl)
                      try simp only [Act.put, List.setIfInBounds_toArray, List.set_cons_zero, List.set_cons_succ]
                      refine wpAnyH_ready (rs := [18]) (by kernel_rfl) (by simp) ?_
                      refine AllReadyH.cons (o := ⟨some 87, _, _, _, _, _⟩) rfl (fun K hK => ?_) AllReadyH.nil
                      go_simp
                      go_at_call 23
                      have hcl := cLE_any v1 jv al1 alj n1 cap1 jn capj S1 jS _ (HS.out.ids 2 rfl) (HS.out.ids 0 rfl) hF1 hFj J1.out IJ.out
                      rw [HJP.out] at hcl
                      refine hcl.mono ?_
                      clear hcl
                      rintro e z11 ⟨rfl, b11⟩
                      have HS := Lib.hid (HS.out.next b11)
                      clear b11
                      go_wp2_with fail
                      refine hK.out _ _ HS.out (fun _ => ?_)
                      clear hK K
                      try simp only [Act.put, List.setIfInBounds_toArray, List.set_cons_zero, List.set_cons_succ]
                      refine wpAnyH_take (i := 19) (oi := ⟨some 88, _, _, _, _, _⟩) (v := ?_) rfl (by kernel_rfl) (by kernel_rfl) (by kernel_rfl) (fun _ _ _ h => h) (Or.inl ⟨by rfl, ?_⟩) HS.out ?_
                      rotate_left
                      · intro w' hSw; clear hSw; go_simp; try (with_reducible rfl)
                      try simp only [Act.put, List.setIfInBounds_toArray, List.set_cons_zero, List.set_cons_succ]
                      refine wpAnyH_take (i := 20) (oi := ⟨some 89, _, _, _, _, _⟩) (v := ?_) rfl (by kernel_rfl) (by kernel_rfl) (by kernel_rfl) (fun _ _ _ h => h) (Or.inl ⟨by rfl, ?_⟩) HS.out ?_
                      rotate_left
                      · intro w' hSw; clear hSw; go_simp; try (with_reducible rfl)
                      try simp only [Act.put, List.setIfInBounds_toArray, List.set_cons_zero, List.set_cons_succ]
                      refine wpAnyH_take (i := 21) (oi := ⟨some 90, _, _, _, _, _⟩) (v := ?_) rfl (by kernel_rfl) (by kernel_rfl) (by kernel_rfl) (fun _ _ _ h => h) (Or.inl ⟨by rfl, ?_⟩) HS.out ?_
                      rotate_left
                      · intro w' hSw; clear hSw; go_simp; try (with_reducible rfl)
                      try simp only [Act.put, List.setIfInBounds_toArray, List.set_cons_zero, List.set_cons_succ]
                      refine wpAnyH_take (i := 22) (oi := ⟨some 91, _, _, _, _, _⟩) (v := ?_) rfl (by kernel_rfl) (by kernel_rfl) (by kernel_rfl) (fun _ _ _ h => h) (Or.inl ⟨by rfl, ?_⟩) HS.out ?_
                      rotate_left
                      · intro w' hSw; obtain ⟨j_0, j_1, j_2, j_3, j_4, j_5, j_6, j_7, j_8⟩ := cut_cells (hSw.blk 0 rfl); obtain ⟨p2_0, p2_1, p2_2, p2_3, p2_4, p2_5, p2_6, p2_7, p2_8⟩ := cut_cells (hSw.blk 1 rfl); obtain ⟨p1_0, p1_1, p1_2, p1_3, p1_4, p1_5, p1_6, p1_7, p1_8⟩ := cut_cells (hSw.blk 2 rfl); obtain ⟨id_0, id_1⟩ := id_cells (hSw.blk 3 rfl); go_simp; try (with_reducible rfl)
                      try simp only [Act.put, List.setIfInBounds_toArray, List.set_cons_zero, List.set_cons_succ]
                      refine wpAnyH_take (i := 23) (oi := ⟨some 92, _, _, _, _, _⟩) (v := ?_) rfl (by kernel_rfl) (by kernel_rfl) (by kernel_rfl) (fun _ _ _ h => h) (Or.inl ⟨by rfl, ?_⟩) HS.out ?_
                      rotate_left
                      · intro w' hSw; obtain ⟨j_0, j_1, j_2, j_3, j_4, j_5, j_6, j_7, j_8⟩ := cut_cells (hSw.blk 0 rfl); obtain ⟨p2_0, p2_1, p2_2, p2_3, p2_4, p2_5, p2_6, p2_7, p2_8⟩ := cut_cells (hSw.blk 1 rfl); obtain ⟨p1_0, p1_1, p1_2, p1_3, p1_4, p1_5, p1_6, p1_7, p1_8⟩ := cut_cells (hSw.blk 2 rfl); obtain ⟨id_0, id_1⟩ := id_cells (hSw.blk 3 rfl); go_simp; try (with_reducible rfl)
                      try simp only [Act.put, List.setIfInBounds_toArray, List.set_cons_zero, List.set_cons_succ]
                      refine wpAnyH_ready (rs := [24]) (by kernel_rfl) (by simp) ?_
                      refine AllReadyH.cons (o := ⟨some 93, _, _, _, _, _⟩) rfl (fun K hK => ?_) AllReadyH.nil
                      go_simp
                      go_at_call 23
                      have hcl := cLE_any v2 jv al2 alj n2 cap2 jn capj S2 jS _ (HS.out.ids 1 rfl) (HS.out.ids 0 rfl) hF2 hFj J2.out IJ.out
                      rw [HJQ.out] at hcl
                      refine hcl.mono ?_
                      clear hcl
                      rintro e z12 ⟨rfl, b12⟩
                      have HS := Lib.hid (HS.out.next b12)
                      clear b12
                      go_wp2_with fail
                      refine hK.out _ _ HS.out (fun _ => ?_)
                      clear hK K
                      try simp only [Act.put, List.setIfInBounds_toArray, List.set_cons_zero, List.set_cons_succ]
                      refine wpAnyH_take (i := 25) (oi := ⟨some 94, _, _, _, _, _⟩) (v := ?_) rfl (by kernel_rfl) (by kernel_rfl) (by kernel_rfl) (fun _ _ _ h => h) (Or.inl ⟨by rfl, ?_⟩) HS.out ?_
                      rotate_left
                      · intro w' hSw; clear hSw; go_simp; try (with_reducible rfl)
                      try simp only [Act.put, List.setIfInBounds_toArray, List.set_cons_zero, List.set_cons_succ]
                      refine wpAnyH_take (i := 26) (oi := ⟨some 95, _, _, _, _, _⟩) (v := ?_) rfl (by kernel_rfl) (by kernel_rfl) (by kernel_rfl) (fun _ _ _ h => h) (Or.inl ⟨by rfl, ?_⟩) HS.out ?_
                      rotate_left
                      · intro w' hSw; clear hSw; go_simp; try (with_reducible rfl)
                      try simp only [Act.put, List.setIfInBounds_toArray, List.set_cons_zero, List.set_cons_succ]
                      refine wpAnyH_take (i := 27) (oi := ⟨some 96, _, _, _, _, _⟩) (v := ?_) rfl (by kernel_rfl) (by kernel_rfl) (by kernel_rfl) (fun _ _ _ h => h) (Or.inl ⟨by rfl, ?_⟩) HS.out ?_
                      rotate_left
                      · intro w' hSw; clear hSw; go_simp; try (with_reducible rfl)
                      try simp only [Act.put, List.setIfInBounds_toArray, List.set_cons_zero, List.set_cons_succ]
                      refine wpAnyH_done (by kernel_rfl) ?_ _
                      go_wp2_with fail
                      go_meet
                      exact ⟨by first | rfl | (cases tq <;> rfl), HS.out⟩
                case rest =>
                  obtain ⟨rfl, hks⟩ := hcut
                  have HM := Lib.hid (KS.drop (Bs' := [(g1, #[.int .u32 (v1 0), .int .u32 (v1 1), .int .u32 (v1 2), .int .u32 (v1 3), .int .u32 (v1 4), .int .u32 (v1 5), .int .u32 (v1 6), .int .u32 (v1 7), .slice al1 n1 cap1], 31), (w.heap.size + 1 + 1, #[.int .i64 o, .int .u32 q], 29)]) (Rs' := [(al1, n1, cap1, S1)]) hks (fun x hx => by simp only [List.mem_cons, List.not_mem_nil, or_false] at hx ⊢; rcases hx with h | h; exact .inr (.inr (.inl h)); exact .inr (.inr (.inr (.inl h)))) (fun x hx => by simp only [List.mem_cons, List.not_mem_nil, or_false] at hx ⊢; exact .inr (.inr (.inl hx))))
                  clear hks HL
                  obtain ⟨p1_0, p1_1, p1_2, p1_3, p1_4, p1_5, p1_6, p1_7, p1_8⟩ := cut_cells (HM.out.blk 0 rfl)
                  obtain ⟨id_0, id_1⟩ := id_cells (HM.out.blk 1 rfl)
                  go_wp2_with fail
                  have hcl := cAdd_any v1 al1 n1 cap1 S1 o q _ (HM.out.ids 0 rfl) hF1 J1.out
                  rw [HAV.out, HAS.out, HAC.out, HAN.out] at hcl
                  refine hcl.mono ?_
                  clear hcl
                  rintro e wq ⟨alq, capq, rfl, hIq, hFq, bq⟩
                  have HM := Lib.hid (((HM.out.next bq).add hIq).box (g := wq.heap.size) rfl #[.int .u32 (av 0), .int .u32 (av 1), .int .u32 (av 2), .int .u32 (av 3), .int .u32 (av 4), .int .u32 (av 5), .int .u32 (av 6), .int .u32 (av 7), .slice alq an capq] 31)
                  clear bq hIq p1_0 p1_1 p1_2 p1_3 p1_4 p1_5 p1_6 p1_7 p1_8 id_0 id_1
                  by_cases ha0 : ac = 0
                  case neg =>
                    have hn : (ac != 0) = true := by simpa using ha0
                    clear ha0
                    go_wp2
                    go_ret
                    exact ⟨rfl, HM.out.bel⟩
                  case pos =>
                    subst ha0
                    obtain ⟨h1, h2, h3, h4⟩ := HAD.out rfl
                    have A1 := Lib.hid h1; have A2 := Lib.hid h2; have A3 := Lib.hid h3; have A4 := Lib.hid h4
                    clear h1 h2 h3 h4
                    obtain ⟨x_0, x_1, x_2, x_3, x_4, x_5, x_6, x_7, x_8⟩ := cut_cells (HM.out.blk 0 rfl)
                    obtain ⟨p1_0, p1_1, p1_2, p1_3, p1_4, p1_5, p1_6, p1_7, p1_8⟩ := cut_cells (HM.out.blk 1 rfl)
                    obtain ⟨id_0, id_1⟩ := id_cells (HM.out.blk 2 rfl)
                    go_wp2_with fail
                    have hcl := cHas_cut av alq an capq aS o q _ (HM.out.ids 0 rfl)
                    rw [A1.out] at hcl
                    refine hcl.mono ?_
                    clear hcl
                    rintro e y1 ⟨rfl, b1⟩
                    have HM1 := Lib.hid (HM.out.next b1)
                    clear b1
                    clear x_0 x_1 x_2 x_3 x_4 x_5 x_6 x_7 x_8 p1_0 p1_1 p1_2 p1_3 p1_4 p1_5 p1_6 p1_7 p1_8 id_0 id_1
                    obtain ⟨x_0, x_1, x_2, x_3, x_4, x_5, x_6, x_7, x_8⟩ := cut_cells (HM1.out.blk 0 rfl)
                    obtain ⟨p1_0, p1_1, p1_2, p1_3, p1_4, p1_5, p1_6, p1_7, p1_8⟩ := cut_cells (HM1.out.blk 1 rfl)
                    obtain ⟨id_0, id_1⟩ := id_cells (HM1.out.blk 2 rfl)
                    go_wp2_with fail
                    have hcl := cHas_cut v1 al1 n1 cap1 S1 o q _ (HM1.out.ids 1 rfl)
                    rw [A2.out] at hcl
                    refine hcl.mono ?_
                    clear hcl
                    rintro e y2 ⟨rfl, b2⟩
                    have HM2 := Lib.hid (HM1.out.next b2)
                    clear b2
                    clear x_0 x_1 x_2 x_3 x_4 x_5 x_6 x_7 x_8 p1_0 p1_1 p1_2 p1_3 p1_4 p1_5 p1_6 p1_7 p1_8 id_0 id_1
                    obtain ⟨x_0, x_1, x_2, x_3, x_4, x_5, x_6, x_7, x_8⟩ := cut_cells (HM2.out.blk 0 rfl)
                    obtain ⟨p1_0, p1_1, p1_2, p1_3, p1_4, p1_5, p1_6, p1_7, p1_8⟩ := cut_cells (HM2.out.blk 1 rfl)
                    obtain ⟨id_0, id_1⟩ := id_cells (HM2.out.blk 2 rfl)
                    go_wp2_with fail
                    have hcl := cLE_any v1 av al1 alq n1 cap1 an capq S1 aS _ (HM2.out.ids 1 rfl) (HM2.out.ids 0 rfl) hF1 hFq J1.out IA.out
                    rw [A3.out] at hcl
                    refine hcl.mono ?_
                    clear hcl
                    rintro e y3 ⟨rfl, b3⟩
                    have HM3 := Lib.hid (HM2.out.next b3)
                    clear b3
                    clear x_0 x_1 x_2 x_3 x_4 x_5 x_6 x_7 x_8 p1_0 p1_1 p1_2 p1_3 p1_4 p1_5 p1_6 p1_7 p1_8 id_0 id_1
                    obtain ⟨x_0, x_1, x_2, x_3, x_4, x_5, x_6, x_7, x_8⟩ := cut_cells (HM3.out.blk 0 rfl)
                    obtain ⟨p1_0, p1_1, p1_2, p1_3, p1_4, p1_5, p1_6, p1_7, p1_8⟩ := cut_cells (HM3.out.blk 1 rfl)
                    obtain ⟨id_0, id_1⟩ := id_cells (HM3.out.blk 2 rfl)
                    go_wp2_with fail
                    have hcl := cLE_any av v1 alq al1 an capq n1 cap1 aS S1 _ (HM3.out.ids 0 rfl) (HM3.out.ids 1 rfl) hFq hF1 IA.out J1.out
                    rw [A4.out] at hcl
                    refine hcl.mono ?_
                    clear hcl
                    rintro e y4 ⟨rfl, b4⟩
                    have HM4 := Lib.hid (HM3.out.next b4)
                    clear b4
                    clear x_0 x_1 x_2 x_3 x_4 x_5 x_6 x_7 x_8 p1_0 p1_1 p1_2 p1_3 p1_4 p1_5 p1_6 p1_7 p1_8 id_0 id_1
                    go_wp2
                    go_ret
                    exact ⟨rfl, HM4.out.bel⟩
end Go.Proofs.Ythbdjgebpjffgaa
