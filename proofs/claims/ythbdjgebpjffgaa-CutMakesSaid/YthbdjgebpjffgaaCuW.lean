/-
  The walk of the law CutMakes.
  Conditions: package cut's Check tells what the document's does.
-/
import Derived.Test.YthbdjgebpjffgaaCuT
set_option linter.unusedVariables false
set_option linter.unusedSimpArgs false
namespace Go.Proofs.Ythbdjgebpjffgaa
open Go.RowKit Go.Shelf Go.Lib Go.Sort

theorem eqC_own (v : Nat → Int) (L : List (Int × Int)) : eqC v L v L = true := eqC_iff.2 ⟨eqV_refl v, rfl⟩
theorem adV_in {v : Nat → Int} {L : List (Int × Int)} {o q k : Int} (hv : InB v) : InB (adKV k v L o q) := by
  unfold adKV
  split
  · exact cm_in _ hv
  · intro i _; unfold zV; omega

set_option maxRecDepth 100000 in
set_option maxHeartbeats 8000000 in
theorem cutMakes_if (hagree : ∀ v L, InB v → ckC v L = ckD v L) (a : Nat → Int) (al : Option Addr) (len cap : Nat) (L : List (Int × Int)) (o q : Int) (w : World) (ha : ∀ i, i < 8 → (Lit.int .u32 (a i)).wf = true) (hL : Ids w al len cap L) (_ho : (Lit.int .i64 o).wf = true) (_hq : (Lit.int .u32 q).wf = true) :
    Calls Try.prog 3 #[.agg #[.int .u32 (a 0), .int .u32 (a 1), .int .u32 (a 2), .int .u32 (a 3), .int .u32 (a 4), .int .u32 (a 5), .int .u32 (a 6), .int .u32 (a 7), .slice al len cap], .agg #[.int .i64 o, .int .u32 q]] w fun e w' => e = .returned (.bool true) ∧ Below w.heap.size w w' := by
  obtain ⟨ti, hi, hz0, hz1, hz2⟩ := info_parts Try.infoId
  have hin : InB a := fun i hi => by have := bounds_u32 (ha i hi); omega
  have HIN := Lib.hid hin
  have hcap := hL.bd
  have hfit := hL.fit
  have h0 := (((KS.nil w).add hL).box rfl #[.int .u32 (a 0), .int .u32 (a 1), .int .u32 (a 2), .int .u32 (a 3), .int .u32 (a 4), .int .u32 (a 5), .int .u32 (a 6), .int .u32 (a 7), .slice al len cap] 27).box (g := w.heap.size + 1) (by simp) #[.int .i64 o, .int .u32 q] 29
  have H0 := Lib.hid h0
  obtain ⟨v1, hv1⟩ : ∃ u, cmV a L = u := ⟨_, rfl⟩
  obtain ⟨S1, hs1⟩ : ∃ R, cmS a L = R := ⟨_, rfl⟩
  obtain ⟨c1, hc1⟩ : ∃ c, cmC a L = c := ⟨_, rfl⟩
  obtain ⟨n1, hn1⟩ : ∃ n, S1.length = n := ⟨_, rfl⟩
  obtain ⟨k, hk⟩ : ∃ k, ckC a L = k := ⟨_, rfl⟩
  have hkd : ckD a L = k := by rw [← hagree a L hin]; exact hk
  obtain ⟨av, hav⟩ : ∃ u, adKV k a L o q = u := ⟨_, rfl⟩
  obtain ⟨aS, haS⟩ : ∃ u, adKS k a L o q = u := ⟨_, rfl⟩
  obtain ⟨ac, hac⟩ : ∃ u, adKC k a L o q = u := ⟨_, rfl⟩
  obtain ⟨an, han⟩ : ∃ u, aS.length = u := ⟨_, rfl⟩
  obtain ⟨t, ht⟩ : ∃ t, hasC a L o q = t := ⟨_, rfl⟩
  obtain ⟨p1, p2, p3⟩ := ad_K a L o q
  rw [hk] at p1 p2 p3
  rw [hac] at p1
  rw [hav] at p2
  rw [haS] at p3
  have HV1 := Lib.hid hv1; have HS1 := Lib.hid hs1; have HC1 := Lib.hid hc1; have HN1 := Lib.hid hn1; have HK := Lib.hid hk; have HKD := Lib.hid hkd; have HAV := Lib.hid hav; have HAS := Lib.hid haS; have HAC := Lib.hid hac; have HAN := Lib.hid han; have HT := Lib.hid ht; have HP1 := Lib.hid p1; have HP2 := Lib.hid p2; have HP3 := Lib.hid p3
  clear h0 hL ha hin _ho _hq hagree hv1 hs1 hc1 hn1 hk hkd hav haS hac han ht p1 p2 p3
  have x8 := (cut_cells (H0.out.blk 1 rfl)).2.2.2.2.2.2.2.2
  go_enter Try.func3, Try.ntmps3
  go_wp2_with fail
  refine (great_any al len cap _ hfit hcap).mono ?_
  cases hg : greatB len with
  | true =>
    rintro e w2 ⟨rfl, b2⟩
    have HB := Lib.hid (H0.out.next b2).bel
    clear b2 x8
    go_wp2
    go_ret
    exact ⟨rfl, HB.out⟩
  | false =>
    have hle1 := great_le hg
    rintro e w2 ⟨rfl, b2⟩
    have H2 := Lib.hid (H0.out.next b2)
    clear b2 x8 hg
    go_upto_region 3 with fail
    go_cut [5, 6] (fun sx sy wx => ∃ (g1 : Nat) (al1 : Option Addr) (cap1 : Nat), sx = .pointer (some ⟨g1, 0, none⟩) ∧ sy = .int .i64 c1 ∧ Flat al1 ∧ KS w [(g1, #[.int .u32 (v1 0), .int .u32 (v1 1), .int .u32 (v1 2), .int .u32 (v1 3), .int .u32 (v1 4), .int .u32 (v1 5), .int .u32 (v1 6), .int .u32 (v1 7), .slice al1 n1 cap1], 31), (w.heap.size + 1, #[.int .i64 o, .int .u32 q], 29), (w.heap.size, #[.int .u32 (a 0), .int .u32 (a 1), .int .u32 (a 2), .int .u32 (a 3), .int .u32 (a 4), .int .u32 (a 5), .int .u32 (a 6), .int .u32 (a 7), .slice al len cap], 27)] [(al1, n1, cap1, S1), (al, len, cap, L)] wx)
    case first =>
      refine wp_region_held_drew (S := KS w [(w.heap.size + 1, #[.int .i64 o, .int .u32 q], 29), (w.heap.size, #[.int .u32 (a 0), .int .u32 (a 1), .int .u32 (a 2), .int .u32 (a 3), .int .u32 (a 4), .int .u32 (a 5), .int .u32 (a 6), .int .u32 (a 7), .slice al len cap], 27)] [(al, len, cap, L)]) (by kernel_rfl) H2.out.drew (fun _ => ?_)
      have HS := Lib.hid H2.out.drew
      generalize w2.drew = wr at HS ⊢
      refine wpAnyH_take (i := 0) (oi := ⟨some 17, _, _, _, _, _⟩) (v := ?_) rfl (by kernel_rfl) (by kernel_rfl) (by kernel_rfl) (fun _ _ _ h => h) (Or.inl ⟨by rfl, ?_⟩) HS.out ?_
      rotate_left
      · intro w' hSw; clear hSw; go_simp; try (with_reducible rfl)
      try simp only [Act.put, List.setIfInBounds_toArray, List.set_cons_zero, List.set_cons_succ]
      refine wpAnyH_take (i := 1) (oi := ⟨some 18, _, _, _, _, _⟩) (v := ?_) rfl (by kernel_rfl) (by kernel_rfl) (by kernel_rfl) (fun _ _ _ h => h) (Or.inl ⟨by rfl, ?_⟩) HS.out ?_
      rotate_left
      · intro w' hSw; obtain ⟨a_0, a_1, a_2, a_3, a_4, a_5, a_6, a_7, a_8⟩ := cut_cells (hSw.blk 1 rfl); go_simp; try (with_reducible rfl)
      try simp only [Act.put, List.setIfInBounds_toArray, List.set_cons_zero, List.set_cons_succ]
      refine wpAnyH_take (i := 3) (oi := ⟨some 20, _, _, _, _, _⟩) (v := ?_) rfl (by kernel_rfl) (by kernel_rfl) (by kernel_rfl) (fun _ _ _ h => h) (Or.inl ⟨by rfl, ?_⟩) HS.out ?_
      rotate_left
      · intro w' hSw; clear hSw; go_simp; try (with_reducible rfl)
      try simp only [Act.put, List.setIfInBounds_toArray, List.set_cons_zero, List.set_cons_succ]
      refine wpAnyH_take (i := 4) (oi := ⟨some 21, _, _, _, _, _⟩) (v := ?_) rfl (by kernel_rfl) (by kernel_rfl) (by kernel_rfl) (fun _ _ _ h => h) (Or.inl ⟨by rfl, ?_⟩) HS.out ?_
      rotate_left
      · intro w' hSw; obtain ⟨a_0, a_1, a_2, a_3, a_4, a_5, a_6, a_7, a_8⟩ := cut_cells (hSw.blk 1 rfl); go_simp; try (with_reducible rfl)
      try simp only [Act.put, List.setIfInBounds_toArray, List.set_cons_zero, List.set_cons_succ]
      refine wpAnyH_ready (rs := [2, 10]) (by kernel_rfl) (by simp) ?_
      refine AllReadyH.cons (o := ⟨some 19, _, _, _, _, _⟩) rfl (fun K hK => ?_) (AllReadyH.cons (o := ⟨some 5, _, _, _, _, _⟩) rfl (fun K hK => ?_) AllReadyH.nil)
      · go_simp
        have HS0 := HS
        have HB0 := Lib.hid ((Below.refl wr.heap.size wr).alloc (Nat.le_refl _) (.cells #[] 29))
        refine hK.out _ _ (HS.out.alloc _) (fun _ => ?_)
        clear hK K
        try simp only [Act.put, List.setIfInBounds_toArray, List.set_cons_zero, List.set_cons_succ]
        have HO := Lib.hid (lit_own wr)
        have HS := Lib.hid (HS.out.alloc (.cells #[] 29))
        refine wpAnyH_ready (rs := [5, 10]) (by kernel_rfl) (by simp) ?_
        refine AllReadyH.cons (o := ⟨some 22, _, _, _, _, _⟩) rfl (fun K hK => ?_) (AllReadyH.cons (o := ⟨some 5, _, _, _, _, _⟩) rfl (fun K hK => ?_) AllReadyH.nil)
        · refine if_yes rfl ?_
          refine wp_append_list (.tmp 19) (.tmp 21) rfl wr.heap.size ti hi hz0 hz1 hz2 _ _ [] rfl HO.out al len cap L rfl (HS.out.ids 0 rfl) (by omega) HB0.out.size ?_
          intro va wa hoa hga
          have hba : Below wr.heap.size wr wa := HB0.out.grown hga HB0.out.size (fun k hk => own_base HO.out k hk)
          obtain ⟨ala, capa, rfl, hIa, hFa⟩ := app_got hoa
          have HIa := Lib.hid hIa
          have HS := Lib.hid (HS0.out.next hba)
          clear hoa hga hba hIa HO HB0
          refine hK.out _ _ HS.out (fun _ => ?_)
          clear hK K
          try simp only [Act.put, List.setIfInBounds_toArray, List.set_cons_zero, List.set_cons_succ]
          refine wpAnyH_ready (rs := [6, 10]) (by kernel_rfl) (by simp) ?_
          refine AllReadyH.cons (o := ⟨some 23, _, _, _, _, _⟩) rfl (fun K hK => ?_) (AllReadyH.cons (o := ⟨some 5, _, _, _, _, _⟩) rfl (fun K hK => ?_) AllReadyH.nil)
          · go_simp
            go_at_call 9
            have hmk := cMake_cut a ala len capa L _ HIa.out hFa HIN.out
            rw [HV1.out, HS1.out, HC1.out, HN1.out] at hmk
            refine hmk.mono ?_
            clear hmk
            rintro e wm ⟨alr, capr, rfl, hIr, hFr, bm⟩
            have HIR := Lib.hid hIr
            have HFR := Lib.hid hFr
            have HS := Lib.hid (HS.out.next bm)
            clear bm hIr hFr HIa
            go_wp2_with fail
            refine hK.out _ _ HS.out (fun _ => ?_)
            clear hK K
            try simp only [Act.put, List.setIfInBounds_toArray, List.set_cons_zero, List.set_cons_succ]
            refine wpAnyH_take (i := 7) (oi := ⟨some 16, _, _, _, _, _⟩) (v := ?_) rfl (by kernel_rfl) (by kernel_rfl) (by kernel_rfl) (fun _ _ _ h => h) (Or.inl ⟨by rfl, ?_⟩) HS.out ?_
            rotate_left
            · intro w' hSw; clear hSw; go_simp; try (with_reducible rfl)
            try simp only [Act.put, List.setIfInBounds_toArray, List.set_cons_zero, List.set_cons_succ]
            refine wpAnyH_take (i := 8) (oi := ⟨some 24, _, _, _, _, _⟩) (v := ?_) rfl (by kernel_rfl) (by kernel_rfl) (by kernel_rfl) (fun _ _ _ h => h) (Or.inl ⟨by rfl, ?_⟩) HS.out ?_
            rotate_left
            · intro w' hSw; clear hSw; go_simp; try (with_reducible rfl)
            try simp only [Act.put, List.setIfInBounds_toArray, List.set_cons_zero, List.set_cons_succ]
            refine wpAnyH_take (i := 9) (oi := ⟨some 25, _, _, _, _, _⟩) (v := ?_) rfl (by kernel_rfl) (by kernel_rfl) (by kernel_rfl) (fun _ _ _ h => h) (Or.inl ⟨by rfl, ?_⟩) HS.out ?_
            rotate_left
            · intro w' hSw; clear hSw; go_simp; try (with_reducible rfl)
            try simp only [Act.put, List.setIfInBounds_toArray, List.set_cons_zero, List.set_cons_succ]
            refine wpAnyH_ready (rs := [10]) (by kernel_rfl) (by simp) ?_
            refine AllReadyH.cons (o := ⟨some 5, _, _, _, _, _⟩) rfl (fun K hK => ?_) AllReadyH.nil
            go_simp
            have HG := Lib.hid (KS.ne HS.out)
            refine hK.out _ _ (HS.out.alloc _) (fun _ => ?_)
            clear hK K
            try simp only [Act.put, List.setIfInBounds_toArray, List.set_cons_zero, List.set_cons_succ]
            have HZ := Lib.hid (Blk.new wm #[.int .u32 0, .int .u32 0, .int .u32 0, .int .u32 0, .int .u32 0, .int .u32 0, .int .u32 0, .int .u32 0, .slice none 0 0] 31)
            have HS := Lib.hid (HS.out.alloc (.cells #[.int .u32 0, .int .u32 0, .int .u32 0, .int .u32 0, .int .u32 0, .int .u32 0, .int .u32 0, .int .u32 0, .slice none 0 0] 31))
            have HIR := Lib.hid (HIR.out.below ((Below.refl _ _).alloc (Nat.le_refl _) (.cells #[.int .u32 0, .int .u32 0, .int .u32 0, .int .u32 0, .int .u32 0, .int .u32 0, .int .u32 0, .int .u32 0, .slice none 0 0] 31)))
            refine wpAnyH_ready (rs := [11]) (by kernel_rfl) (by simp) ?_
            refine AllReadyH.cons (o := ⟨none, _, _, _, _, _⟩) rfl (fun K hK => ?_) AllReadyH.nil
            refine if_yes rfl ?_
            refine wp_store_row 31 (.tmp 5) (.tmp 24) rfl (wm.heap.size) #[.int .u32 (v1 0), .int .u32 (v1 1), .int .u32 (v1 2), .int .u32 (v1 3), .int .u32 (v1 4), .int .u32 (v1 5), .int .u32 (v1 6), .int .u32 (v1 7), .slice alr n1 capr] rfl rfl 31 _ HZ.out (by kernel_rfl) rfl (cut_one _ _ _ _) ?_
            refine hK.out _ _ (HS.out.row HZ.out HG.out.1 HG.out.2 _) (fun _ => ?_)
            clear hK K
            try simp only [Act.put, List.setIfInBounds_toArray, List.set_cons_zero, List.set_cons_succ]
            have HS := Lib.hid (HS.out.row HZ.out HG.out.1 HG.out.2 #[.int .u32 (v1 0), .int .u32 (v1 1), .int .u32 (v1 2), .int .u32 (v1 3), .int .u32 (v1 4), .int .u32 (v1 5), .int .u32 (v1 6), .int .u32 (v1 7), .slice alr n1 capr])
            refine wpAnyH_take (i := 12) (oi := ⟨some 6, _, _, _, _, _⟩) (v := ?_) rfl (by kernel_rfl) (by kernel_rfl) (by kernel_rfl) (fun _ _ _ h => h) (Or.inl ⟨by rfl, ?_⟩) HS.out ?_
            rotate_left
            · intro w' hSw; clear hSw; go_simp; try (with_reducible rfl)
            try simp only [Act.put, List.setIfInBounds_toArray, List.set_cons_zero, List.set_cons_succ]
            refine wpAnyH_done (by kernel_rfl) ?_ _
            go_wp2_with fail
            go_meet
            exact ⟨wm.heap.size, alr, capr, rfl, rfl, HFR.out, (HS.out.put (setRow_heap _ _ _ #[.int .u32 (v1 0), .int .u32 (v1 1), .int .u32 (v1 2), .int .u32 (v1 3), .int .u32 (v1 4), .int .u32 (v1 5), .int .u32 (v1 6), .int .u32 (v1 7), .slice alr n1 capr] _ _ HZ.out)).add (ids_rowC HIR.out HZ.out _)⟩
          · go_simp
            have HG := Lib.hid (KS.ne HS.out)
            refine hK.out _ _ (HS.out.alloc _) (fun _ => ?_)
            clear hK K
            try simp only [Act.put, List.setIfInBounds_toArray, List.set_cons_zero, List.set_cons_succ]
            have HZ := Lib.hid (Blk.new wa #[.int .u32 0, .int .u32 0, .int .u32 0, .int .u32 0, .int .u32 0, .int .u32 0, .int .u32 0, .int .u32 0, .slice none 0 0] 31)
            have HS := Lib.hid (HS.out.alloc (.cells #[.int .u32 0, .int .u32 0, .int .u32 0, .int .u32 0, .int .u32 0, .int .u32 0, .int .u32 0, .int .u32 0, .slice none 0 0] 31))
            have HGL := Lib.hid HZ.out.lt
            have HIa := Lib.hid (HIa.out.below ((Below.refl _ _).alloc (Nat.le_refl _) (.cells #[.int .u32 0, .int .u32 0, .int .u32 0, .int .u32 0, .int .u32 0, .int .u32 0, .int .u32 0, .int .u32 0, .slice none 0 0] 31)))
            generalize hgz : wa.heap.size = gz at HG HZ HGL ⊢
            generalize wa.alloc (.cells #[.int .u32 0, .int .u32 0, .int .u32 0, .int .u32 0, .int .u32 0, .int .u32 0, .int .u32 0, .int .u32 0, .slice none 0 0] 31) = wz1 at HS HZ HGL HIa ⊢
            clear hgz
            refine wpAnyH_ready (rs := [6]) (by kernel_rfl) (by simp) ?_
            refine AllReadyH.cons (o := ⟨some 23, _, _, _, _, _⟩) rfl (fun K hK => ?_) AllReadyH.nil
            go_simp
            go_at_call 9
            have hmk := cMake_cut a ala len capa L _ HIa.out hFa HIN.out
            rw [HV1.out, HS1.out, HC1.out, HN1.out] at hmk
            refine hmk.mono ?_
            clear hmk
            rintro e wm ⟨alr, capr, rfl, hIr, hFr, bm⟩
            have HIR := Lib.hid hIr
            have HFR := Lib.hid hFr
            have HZ := Lib.hid (HZ.out.below bm)
            have HS := Lib.hid (HS.out.next bm)
            clear bm hIr hFr HIa
            go_wp2_with fail
            refine hK.out _ _ HS.out (fun _ => ?_)
            clear hK K
            try simp only [Act.put, List.setIfInBounds_toArray, List.set_cons_zero, List.set_cons_succ]
            refine wpAnyH_take (i := 7) (oi := ⟨some 16, _, _, _, _, _⟩) (v := ?_) rfl (by kernel_rfl) (by kernel_rfl) (by kernel_rfl) (fun _ _ _ h => h) (Or.inl ⟨by rfl, ?_⟩) HS.out ?_
            rotate_left
            · intro w' hSw; clear hSw; go_simp; try (with_reducible rfl)
            try simp only [Act.put, List.setIfInBounds_toArray, List.set_cons_zero, List.set_cons_succ]
            refine wpAnyH_take (i := 8) (oi := ⟨some 24, _, _, _, _, _⟩) (v := ?_) rfl (by kernel_rfl) (by kernel_rfl) (by kernel_rfl) (fun _ _ _ h => h) (Or.inl ⟨by rfl, ?_⟩) HS.out ?_
            rotate_left
            · intro w' hSw; clear hSw; go_simp; try (with_reducible rfl)
            try simp only [Act.put, List.setIfInBounds_toArray, List.set_cons_zero, List.set_cons_succ]
            refine wpAnyH_take (i := 9) (oi := ⟨some 25, _, _, _, _, _⟩) (v := ?_) rfl (by kernel_rfl) (by kernel_rfl) (by kernel_rfl) (fun _ _ _ h => h) (Or.inl ⟨by rfl, ?_⟩) HS.out ?_
            rotate_left
            · intro w' hSw; clear hSw; go_simp; try (with_reducible rfl)
            try simp only [Act.put, List.setIfInBounds_toArray, List.set_cons_zero, List.set_cons_succ]
            refine wpAnyH_ready (rs := [11]) (by kernel_rfl) (by simp) ?_
            refine AllReadyH.cons (o := ⟨none, _, _, _, _, _⟩) rfl (fun K hK => ?_) AllReadyH.nil
            refine if_yes rfl ?_
            refine wp_store_row 31 (.tmp 5) (.tmp 24) rfl (gz) #[.int .u32 (v1 0), .int .u32 (v1 1), .int .u32 (v1 2), .int .u32 (v1 3), .int .u32 (v1 4), .int .u32 (v1 5), .int .u32 (v1 6), .int .u32 (v1 7), .slice alr n1 capr] rfl rfl 31 _ HZ.out (by kernel_rfl) rfl (cut_one _ _ _ _) ?_
            refine hK.out _ _ (HS.out.row HZ.out HG.out.1 HG.out.2 _) (fun _ => ?_)
            clear hK K
            try simp only [Act.put, List.setIfInBounds_toArray, List.set_cons_zero, List.set_cons_succ]
            have HS := Lib.hid (HS.out.row HZ.out HG.out.1 HG.out.2 #[.int .u32 (v1 0), .int .u32 (v1 1), .int .u32 (v1 2), .int .u32 (v1 3), .int .u32 (v1 4), .int .u32 (v1 5), .int .u32 (v1 6), .int .u32 (v1 7), .slice alr n1 capr])
            refine wpAnyH_take (i := 12) (oi := ⟨some 6, _, _, _, _, _⟩) (v := ?_) rfl (by kernel_rfl) (by kernel_rfl) (by kernel_rfl) (fun _ _ _ h => h) (Or.inl ⟨by rfl, ?_⟩) HS.out ?_
            rotate_left
            · intro w' hSw; clear hSw; go_simp; try (with_reducible rfl)
            try simp only [Act.put, List.setIfInBounds_toArray, List.set_cons_zero, List.set_cons_succ]
            refine wpAnyH_done (by kernel_rfl) ?_ _
            go_wp2_with fail
            go_meet
            exact ⟨gz, alr, capr, rfl, rfl, HFR.out, (HS.out.put (setRow_heap _ _ _ #[.int .u32 (v1 0), .int .u32 (v1 1), .int .u32 (v1 2), .int .u32 (v1 3), .int .u32 (v1 4), .int .u32 (v1 5), .int .u32 (v1 6), .int .u32 (v1 7), .slice alr n1 capr] _ _ HZ.out)).add (ids_rowC HIR.out HZ.out _)⟩
        · go_simp
          have HG := Lib.hid (KS.ne HS.out)
          refine hK.out _ _ (HS.out.alloc _) (fun _ => ?_)
          clear hK K
          try simp only [Act.put, List.setIfInBounds_toArray, List.set_cons_zero, List.set_cons_succ]
          have HZ := Lib.hid (blk_newS (W := wr) (.cells #[] 29) #[.int .u32 0, .int .u32 0, .int .u32 0, .int .u32 0, .int .u32 0, .int .u32 0, .int .u32 0, .int .u32 0, .slice none 0 0] 31)
          have HS := Lib.hid (HS.out.alloc (.cells #[.int .u32 0, .int .u32 0, .int .u32 0, .int .u32 0, .int .u32 0, .int .u32 0, .int .u32 0, .int .u32 0, .slice none 0 0] 31))
          have HB0 := Lib.hid (HB0.out.alloc HB0.out.size (.cells #[.int .u32 0, .int .u32 0, .int .u32 0, .int .u32 0, .int .u32 0, .int .u32 0, .int .u32 0, .int .u32 0, .slice none 0 0] 31))
          have HO := Lib.hid (HO.out.alloc (.cells #[.int .u32 0, .int .u32 0, .int .u32 0, .int .u32 0, .int .u32 0, .int .u32 0, .int .u32 0, .int .u32 0, .slice none 0 0] 31))
          have HG := Lib.hid (show (∀ x, x ∈ ([(w.heap.size + 1, #[.int .i64 o, .int .u32 q], 29), (w.heap.size, #[.int .u32 (a 0), .int .u32 (a 1), .int .u32 (a 2), .int .u32 (a 3), .int .u32 (a 4), .int .u32 (a 5), .int .u32 (a 6), .int .u32 (a 7), .slice al len cap], 27)] : List Bx) → x.1 ≠ wr.heap.size + 1) ∧ w.heap.size ≤ wr.heap.size + 1 from by simpa using HG.out)
          refine wpAnyH_ready (rs := [5]) (by kernel_rfl) (by simp) ?_
          refine AllReadyH.cons (o := ⟨some 22, _, _, _, _, _⟩) rfl (fun K hK => ?_) AllReadyH.nil
          refine if_yes rfl ?_
          refine wp_append_list (.tmp 19) (.tmp 21) rfl wr.heap.size ti hi hz0 hz1 hz2 _ _ [] rfl HO.out al len cap L rfl (HS.out.ids 0 rfl) (by omega) HB0.out.size ?_
          intro va wa hoa hga
          have hba : Below wr.heap.size wr wa := HB0.out.grown hga HB0.out.size (fun k hk => own_base HO.out k hk)
          have HZ : Hid (Blk wa (wr.heap.size + 1) #[.int .u32 0, .int .u32 0, .int .u32 0, .int .u32 0, .int .u32 0, .int .u32 0, .int .u32 0, .int .u32 0, .slice none 0 0] 31) := Lib.hid ((hga.block _ (by simp) (lit_block (by simp))).trans HZ.out)
          obtain ⟨ala, capa, rfl, hIa, hFa⟩ := app_got hoa
          have HIa := Lib.hid hIa
          have HS := Lib.hid (HS0.out.next hba)
          clear hoa hga hba hIa HO HB0
          refine hK.out _ _ HS.out (fun _ => ?_)
          clear hK K
          try simp only [Act.put, List.setIfInBounds_toArray, List.set_cons_zero, List.set_cons_succ]
          refine wpAnyH_ready (rs := [6]) (by kernel_rfl) (by simp) ?_
          refine AllReadyH.cons (o := ⟨some 23, _, _, _, _, _⟩) rfl (fun K hK => ?_) AllReadyH.nil
          go_simp
          go_at_call 9
          have hmk := cMake_cut a ala len capa L _ HIa.out hFa HIN.out
          rw [HV1.out, HS1.out, HC1.out, HN1.out] at hmk
          refine hmk.mono ?_
          clear hmk
          rintro e wm ⟨alr, capr, rfl, hIr, hFr, bm⟩
          have HIR := Lib.hid hIr
          have HFR := Lib.hid hFr
          have HZ := Lib.hid (HZ.out.below bm)
          have HS := Lib.hid (HS.out.next bm)
          clear bm hIr hFr HIa
          go_wp2_with fail
          refine hK.out _ _ HS.out (fun _ => ?_)
          clear hK K
          try simp only [Act.put, List.setIfInBounds_toArray, List.set_cons_zero, List.set_cons_succ]
          refine wpAnyH_take (i := 7) (oi := ⟨some 16, _, _, _, _, _⟩) (v := ?_) rfl (by kernel_rfl) (by kernel_rfl) (by kernel_rfl) (fun _ _ _ h => h) (Or.inl ⟨by rfl, ?_⟩) HS.out ?_
          rotate_left
          · intro w' hSw; clear hSw; go_simp; try (with_reducible rfl)
          try simp only [Act.put, List.setIfInBounds_toArray, List.set_cons_zero, List.set_cons_succ]
          refine wpAnyH_take (i := 8) (oi := ⟨some 24, _, _, _, _, _⟩) (v := ?_) rfl (by kernel_rfl) (by kernel_rfl) (by kernel_rfl) (fun _ _ _ h => h) (Or.inl ⟨by rfl, ?_⟩) HS.out ?_
          rotate_left
          · intro w' hSw; clear hSw; go_simp; try (with_reducible rfl)
          try simp only [Act.put, List.setIfInBounds_toArray, List.set_cons_zero, List.set_cons_succ]
          refine wpAnyH_take (i := 9) (oi := ⟨some 25, _, _, _, _, _⟩) (v := ?_) rfl (by kernel_rfl) (by kernel_rfl) (by kernel_rfl) (fun _ _ _ h => h) (Or.inl ⟨by rfl, ?_⟩) HS.out ?_
          rotate_left
          · intro w' hSw; clear hSw; go_simp; try (with_reducible rfl)
          try simp only [Act.put, List.setIfInBounds_toArray, List.set_cons_zero, List.set_cons_succ]
          refine wpAnyH_ready (rs := [11]) (by kernel_rfl) (by simp) ?_
          refine AllReadyH.cons (o := ⟨none, _, _, _, _, _⟩) rfl (fun K hK => ?_) AllReadyH.nil
          refine if_yes rfl ?_
          refine wp_store_row 31 (.tmp 5) (.tmp 24) rfl ((wr.heap.size + 1)) #[.int .u32 (v1 0), .int .u32 (v1 1), .int .u32 (v1 2), .int .u32 (v1 3), .int .u32 (v1 4), .int .u32 (v1 5), .int .u32 (v1 6), .int .u32 (v1 7), .slice alr n1 capr] rfl rfl 31 _ HZ.out (by kernel_rfl) rfl (cut_one _ _ _ _) ?_
          refine hK.out _ _ (HS.out.row HZ.out HG.out.1 HG.out.2 _) (fun _ => ?_)
          clear hK K
          try simp only [Act.put, List.setIfInBounds_toArray, List.set_cons_zero, List.set_cons_succ]
          have HS := Lib.hid (HS.out.row HZ.out HG.out.1 HG.out.2 #[.int .u32 (v1 0), .int .u32 (v1 1), .int .u32 (v1 2), .int .u32 (v1 3), .int .u32 (v1 4), .int .u32 (v1 5), .int .u32 (v1 6), .int .u32 (v1 7), .slice alr n1 capr])
          refine wpAnyH_take (i := 12) (oi := ⟨some 6, _, _, _, _, _⟩) (v := ?_) rfl (by kernel_rfl) (by kernel_rfl) (by kernel_rfl) (fun _ _ _ h => h) (Or.inl ⟨by rfl, ?_⟩) HS.out ?_
          rotate_left
          · intro w' hSw; clear hSw; go_simp; try (with_reducible rfl)
          try simp only [Act.put, List.setIfInBounds_toArray, List.set_cons_zero, List.set_cons_succ]
          refine wpAnyH_done (by kernel_rfl) ?_ _
          go_wp2_with fail
          go_meet
          exact ⟨(wr.heap.size + 1), alr, capr, rfl, rfl, HFR.out, (HS.out.put (setRow_heap _ _ _ #[.int .u32 (v1 0), .int .u32 (v1 1), .int .u32 (v1 2), .int .u32 (v1 3), .int .u32 (v1 4), .int .u32 (v1 5), .int .u32 (v1 6), .int .u32 (v1 7), .slice alr n1 capr] _ _ HZ.out)).add (ids_rowC HIR.out HZ.out _)⟩
      · go_simp
        have HG := Lib.hid (KS.ne HS.out)
        refine hK.out _ _ (HS.out.alloc _) (fun _ => ?_)
        clear hK K
        try simp only [Act.put, List.setIfInBounds_toArray, List.set_cons_zero, List.set_cons_succ]
        have HZ := Lib.hid (Blk.new wr #[.int .u32 0, .int .u32 0, .int .u32 0, .int .u32 0, .int .u32 0, .int .u32 0, .int .u32 0, .int .u32 0, .slice none 0 0] 31)
        have HS := Lib.hid (HS.out.alloc (.cells #[.int .u32 0, .int .u32 0, .int .u32 0, .int .u32 0, .int .u32 0, .int .u32 0, .int .u32 0, .int .u32 0, .slice none 0 0] 31))
        have HGL := Lib.hid HZ.out.lt
        generalize hgz : wr.heap.size = gz at HG HZ HGL ⊢
        generalize wr.alloc (.cells #[.int .u32 0, .int .u32 0, .int .u32 0, .int .u32 0, .int .u32 0, .int .u32 0, .int .u32 0, .int .u32 0, .slice none 0 0] 31) = wz1 at HS HZ HGL ⊢
        clear hgz
        refine wpAnyH_ready (rs := [2]) (by kernel_rfl) (by simp) ?_
        refine AllReadyH.cons (o := ⟨some 19, _, _, _, _, _⟩) rfl (fun K hK => ?_) AllReadyH.nil
        go_simp
        have HS0 := HS
        have HB0 := Lib.hid ((Below.refl wz1.heap.size wz1).alloc (Nat.le_refl _) (.cells #[] 29))
        refine hK.out _ _ (HS.out.alloc _) (fun _ => ?_)
        clear hK K
        try simp only [Act.put, List.setIfInBounds_toArray, List.set_cons_zero, List.set_cons_succ]
        have HO := Lib.hid (lit_own wz1)
        have HS := Lib.hid (HS.out.alloc (.cells #[] 29))
        have HZ0 := HZ
        refine wpAnyH_ready (rs := [5]) (by kernel_rfl) (by simp) ?_
        refine AllReadyH.cons (o := ⟨some 22, _, _, _, _, _⟩) rfl (fun K hK => ?_) AllReadyH.nil
        refine if_yes rfl ?_
        refine wp_append_list (.tmp 19) (.tmp 21) rfl wz1.heap.size ti hi hz0 hz1 hz2 _ _ [] rfl HO.out al len cap L rfl (HS.out.ids 0 rfl) (by omega) HB0.out.size ?_
        intro va wa hoa hga
        have hba : Below wz1.heap.size wz1 wa := HB0.out.grown hga HB0.out.size (fun k hk => own_base HO.out k hk)
        have HZ := Lib.hid (HZ0.out.below hba)
        obtain ⟨ala, capa, rfl, hIa, hFa⟩ := app_got hoa
        have HIa := Lib.hid hIa
        have HS := Lib.hid (HS0.out.next hba)
        clear hoa hga hba hIa HO HB0
        refine hK.out _ _ HS.out (fun _ => ?_)
        clear hK K
        try simp only [Act.put, List.setIfInBounds_toArray, List.set_cons_zero, List.set_cons_succ]
        refine wpAnyH_ready (rs := [6]) (by kernel_rfl) (by simp) ?_
        refine AllReadyH.cons (o := ⟨some 23, _, _, _, _, _⟩) rfl (fun K hK => ?_) AllReadyH.nil
        go_simp
        go_at_call 9
        have hmk := cMake_cut a ala len capa L _ HIa.out hFa HIN.out
        rw [HV1.out, HS1.out, HC1.out, HN1.out] at hmk
        refine hmk.mono ?_
        clear hmk
        rintro e wm ⟨alr, capr, rfl, hIr, hFr, bm⟩
        have HIR := Lib.hid hIr
        have HFR := Lib.hid hFr
        have HZ := Lib.hid (HZ.out.below bm)
        have HS := Lib.hid (HS.out.next bm)
        clear bm hIr hFr HIa
        go_wp2_with fail
        refine hK.out _ _ HS.out (fun _ => ?_)
        clear hK K
        try simp only [Act.put, List.setIfInBounds_toArray, List.set_cons_zero, List.set_cons_succ]
        refine wpAnyH_take (i := 7) (oi := ⟨some 16, _, _, _, _, _⟩) (v := ?_) rfl (by kernel_rfl) (by kernel_rfl) (by kernel_rfl) (fun _ _ _ h => h) (Or.inl ⟨by rfl, ?_⟩) HS.out ?_
        rotate_left
        · intro w' hSw; clear hSw; go_simp; try (with_reducible rfl)
        try simp only [Act.put, List.setIfInBounds_toArray, List.set_cons_zero, List.set_cons_succ]
        refine wpAnyH_take (i := 8) (oi := ⟨some 24, _, _, _, _, _⟩) (v := ?_) rfl (by kernel_rfl) (by kernel_rfl) (by kernel_rfl) (fun _ _ _ h => h) (Or.inl ⟨by rfl, ?_⟩) HS.out ?_
        rotate_left
        · intro w' hSw; clear hSw; go_simp; try (with_reducible rfl)
        try simp only [Act.put, List.setIfInBounds_toArray, List.set_cons_zero, List.set_cons_succ]
        refine wpAnyH_take (i := 9) (oi := ⟨some 25, _, _, _, _, _⟩) (v := ?_) rfl (by kernel_rfl) (by kernel_rfl) (by kernel_rfl) (fun _ _ _ h => h) (Or.inl ⟨by rfl, ?_⟩) HS.out ?_
        rotate_left
        · intro w' hSw; clear hSw; go_simp; try (with_reducible rfl)
        try simp only [Act.put, List.setIfInBounds_toArray, List.set_cons_zero, List.set_cons_succ]
        refine wpAnyH_ready (rs := [11]) (by kernel_rfl) (by simp) ?_
        refine AllReadyH.cons (o := ⟨none, _, _, _, _, _⟩) rfl (fun K hK => ?_) AllReadyH.nil
        refine if_yes rfl ?_
        refine wp_store_row 31 (.tmp 5) (.tmp 24) rfl (gz) #[.int .u32 (v1 0), .int .u32 (v1 1), .int .u32 (v1 2), .int .u32 (v1 3), .int .u32 (v1 4), .int .u32 (v1 5), .int .u32 (v1 6), .int .u32 (v1 7), .slice alr n1 capr] rfl rfl 31 _ HZ.out (by kernel_rfl) rfl (cut_one _ _ _ _) ?_
        refine hK.out _ _ (HS.out.row HZ.out HG.out.1 HG.out.2 _) (fun _ => ?_)
        clear hK K
        try simp only [Act.put, List.setIfInBounds_toArray, List.set_cons_zero, List.set_cons_succ]
        have HS := Lib.hid (HS.out.row HZ.out HG.out.1 HG.out.2 #[.int .u32 (v1 0), .int .u32 (v1 1), .int .u32 (v1 2), .int .u32 (v1 3), .int .u32 (v1 4), .int .u32 (v1 5), .int .u32 (v1 6), .int .u32 (v1 7), .slice alr n1 capr])
        refine wpAnyH_take (i := 12) (oi := ⟨some 6, _, _, _, _, _⟩) (v := ?_) rfl (by kernel_rfl) (by kernel_rfl) (by kernel_rfl) (fun _ _ _ h => h) (Or.inl ⟨by rfl, ?_⟩) HS.out ?_
        rotate_left
        · intro w' hSw; clear hSw; go_simp; try (with_reducible rfl)
        try simp only [Act.put, List.setIfInBounds_toArray, List.set_cons_zero, List.set_cons_succ]
        refine wpAnyH_done (by kernel_rfl) ?_ _
        go_wp2_with fail
        go_meet
        exact ⟨gz, alr, capr, rfl, rfl, HFR.out, (HS.out.put (setRow_heap _ _ _ #[.int .u32 (v1 0), .int .u32 (v1 1), .int .u32 (v1 2), .int .u32 (v1 3), .int .u32 (v1 4), .int .u32 (v1 5), .int .u32 (v1 6), .int .u32 (v1 7), .slice alr n1 capr] _ _ HZ.out)).add (ids_rowC HIR.out HZ.out _)⟩
    case rest =>
      obtain ⟨g1, al1, cap1, rfl, rfl, hF1, hks1⟩ := hcut
      have HK1 := Lib.hid hks1
      clear hks1 H2
      obtain ⟨a_0, a_1, a_2, a_3, a_4, a_5, a_6, a_7, a_8⟩ := cut_cells (HK1.out.blk 2 rfl)
      go_wp2_with fail
      have hmk := rMake_cut a al len cap L _ (HK1.out.ids 1 rfl) HIN.out
      rw [HV1.out, HS1.out, HC1.out, HN1.out] at hmk
      refine hmk.mono ?_
      clear hmk
      rintro e w3 ⟨alb, capb, rfl, hIb, b3⟩
      have HL := Lib.hid (((HK1.out.next b3).add hIb).box (g := w3.heap.size) rfl #[.int .u32 (v1 0), .int .u32 (v1 1), .int .u32 (v1 2), .int .u32 (v1 3), .int .u32 (v1 4), .int .u32 (v1 5), .int .u32 (v1 6), .int .u32 (v1 7), .slice alb n1 capb] 27)
      clear b3 hIb HK1 a_0 a_1 a_2 a_3 a_4 a_5 a_6 a_7 a_8
      go_upto_region 5 with fail
      go_cut [9, 10] (fun sx sy wx => ∃ (gx : Nat) (alx : Option Addr) (capx : Nat), sx = .pointer (some ⟨gx, 0, none⟩) ∧ sy = .int .i64 ac ∧ Flat alx ∧ KS w [(gx, #[.int .u32 (av 0), .int .u32 (av 1), .int .u32 (av 2), .int .u32 (av 3), .int .u32 (av 4), .int .u32 (av 5), .int .u32 (av 6), .int .u32 (av 7), .slice alx an capx], 31), (w3.heap.size, #[.int .u32 (v1 0), .int .u32 (v1 1), .int .u32 (v1 2), .int .u32 (v1 3), .int .u32 (v1 4), .int .u32 (v1 5), .int .u32 (v1 6), .int .u32 (v1 7), .slice alb n1 capb], 27), (g1, #[.int .u32 (v1 0), .int .u32 (v1 1), .int .u32 (v1 2), .int .u32 (v1 3), .int .u32 (v1 4), .int .u32 (v1 5), .int .u32 (v1 6), .int .u32 (v1 7), .slice al1 n1 cap1], 31), (w.heap.size + 1, #[.int .i64 o, .int .u32 q], 29), (w.heap.size, #[.int .u32 (a 0), .int .u32 (a 1), .int .u32 (a 2), .int .u32 (a 3), .int .u32 (a 4), .int .u32 (a 5), .int .u32 (a 6), .int .u32 (a 7), .slice al len cap], 27)] [(alx, an, capx, aS), (alb, n1, capb, S1), (al1, n1, cap1, S1), (al, len, cap, L)] wx)
      case first =>
        generalize w3.alloc (.cells #[.int .u32 (v1 0), .int .u32 (v1 1), .int .u32 (v1 2), .int .u32 (v1 3), .int .u32 (v1 4), .int .u32 (v1 5), .int .u32 (v1 6), .int .u32 (v1 7), .slice alb n1 capb] 27) = w4 at HL ⊢
        refine wp_region_held_drew (S := KS w [(w3.heap.size, #[.int .u32 (v1 0), .int .u32 (v1 1), .int .u32 (v1 2), .int .u32 (v1 3), .int .u32 (v1 4), .int .u32 (v1 5), .int .u32 (v1 6), .int .u32 (v1 7), .slice alb n1 capb], 27), (g1, #[.int .u32 (v1 0), .int .u32 (v1 1), .int .u32 (v1 2), .int .u32 (v1 3), .int .u32 (v1 4), .int .u32 (v1 5), .int .u32 (v1 6), .int .u32 (v1 7), .slice al1 n1 cap1], 31), (w.heap.size + 1, #[.int .i64 o, .int .u32 q], 29), (w.heap.size, #[.int .u32 (a 0), .int .u32 (a 1), .int .u32 (a 2), .int .u32 (a 3), .int .u32 (a 4), .int .u32 (a 5), .int .u32 (a 6), .int .u32 (a 7), .slice al len cap], 27)] [(alb, n1, capb, S1), (al1, n1, cap1, S1), (al, len, cap, L)]) (by kernel_rfl) HL.out.drew (fun _ => ?_)
        have HSr := Lib.hid HL.out.drew
        generalize w4.drew = wr at HSr ⊢
        have HS := HSr
        have HBr := Lib.hid (Below.refl wr.heap.size wr)
        refine wpAnyH_take (i := 0) (oi := ⟨some 35, _, _, _, _, _⟩) (v := ?_) rfl (by kernel_rfl) (by kernel_rfl) (by kernel_rfl) (fun _ _ _ h => h) (Or.inl ⟨by rfl, ?_⟩) HS.out ?_
        rotate_left
        · intro w' hSw; obtain ⟨id_0, id_1⟩ := id_cells (hSw.blk 2 rfl); obtain ⟨a_0, a_1, a_2, a_3, a_4, a_5, a_6, a_7, a_8⟩ := cut_cells (hSw.blk 3 rfl); go_simp; try (with_reducible rfl)
        try simp only [Act.put, List.setIfInBounds_toArray, List.set_cons_zero, List.set_cons_succ]
        refine wpAnyH_take (i := 2) (oi := ⟨some 37, _, _, _, _, _⟩) (v := ?_) rfl (by kernel_rfl) (by kernel_rfl) (by kernel_rfl) (fun _ _ _ h => h) (Or.inl ⟨by rfl, ?_⟩) HS.out ?_
        rotate_left
        · intro w' hSw; obtain ⟨id_0, id_1⟩ := id_cells (hSw.blk 2 rfl); obtain ⟨a_0, a_1, a_2, a_3, a_4, a_5, a_6, a_7, a_8⟩ := cut_cells (hSw.blk 3 rfl); go_simp; try (with_reducible rfl)
        try simp only [Act.put, List.setIfInBounds_toArray, List.set_cons_zero, List.set_cons_succ]
        refine wpAnyH_ready (rs := [1, 7]) (by kernel_rfl) (by simp) ?_
        refine AllReadyH.cons (o := ⟨some 36, _, _, _, _, _⟩) rfl (fun K hK => ?_) (AllReadyH.cons (o := ⟨some 9, _, _, _, _, _⟩) rfl (fun K hK => ?_) AllReadyH.nil)
        · go_simp
          go_at_call 12
          have hcl := to_cut a al len cap L wr (HS.out.ids 2 rfl) (by omega)
          refine hcl.mono ?_
          clear hcl
          rintro e u1 ⟨alt, capt, rfl, hIt, hFt, bu1⟩
          have HIt := Lib.hid hIt
          have HBr := Lib.hid (HBr.out.trans (bu1.mono HBr.out.size))
          have HS := Lib.hid (HSr.out.next HBr.out)
          clear bu1 hIt
          go_wp2_with fail
          refine hK.out _ _ HS.out (fun _ => ?_)
          clear hK K
          try simp only [Act.put, List.setIfInBounds_toArray, List.set_cons_zero, List.set_cons_succ]
          refine wpAnyH_ready (rs := [3, 7]) (by kernel_rfl) (by simp) ?_
          refine AllReadyH.cons (o := ⟨some 38, _, _, _, _, _⟩) rfl (fun K hK => ?_) (AllReadyH.cons (o := ⟨some 9, _, _, _, _, _⟩) rfl (fun K hK => ?_) AllReadyH.nil)
          · go_simp
            go_at_call 11
            have hcl := cAdd_any a alt len capt L o q u1 HIt.out hFt HIN.out
            rw [HP1.out, HP2.out, HP3.out, HAN.out] at hcl
            refine hcl.mono ?_
            clear hcl
            rintro e u2 ⟨alx, capx, rfl, hIx, hFx, bu2⟩
            have HIx := Lib.hid hIx
            have HBr := Lib.hid (HBr.out.trans (bu2.mono HBr.out.size))
            have HS := Lib.hid (HSr.out.next HBr.out)
            clear bu2 hIx
            go_wp2_with fail
            refine hK.out _ _ HS.out (fun _ => ?_)
            clear hK K
            try simp only [Act.put, List.setIfInBounds_toArray, List.set_cons_zero, List.set_cons_succ]
            refine wpAnyH_take (i := 4) (oi := ⟨some 34, _, _, _, _, _⟩) (v := ?_) rfl (by kernel_rfl) (by kernel_rfl) (by kernel_rfl) (fun _ _ _ h => h) (Or.inl ⟨by rfl, ?_⟩) HS.out ?_
            rotate_left
            · intro w' hSw; clear hSw; go_simp; try (with_reducible rfl)
            try simp only [Act.put, List.setIfInBounds_toArray, List.set_cons_zero, List.set_cons_succ]
            refine wpAnyH_take (i := 5) (oi := ⟨some 39, _, _, _, _, _⟩) (v := ?_) rfl (by kernel_rfl) (by kernel_rfl) (by kernel_rfl) (fun _ _ _ h => h) (Or.inl ⟨by rfl, ?_⟩) HS.out ?_
            rotate_left
            · intro w' hSw; clear hSw; go_simp; try (with_reducible rfl)
            try simp only [Act.put, List.setIfInBounds_toArray, List.set_cons_zero, List.set_cons_succ]
            refine wpAnyH_take (i := 6) (oi := ⟨some 40, _, _, _, _, _⟩) (v := ?_) rfl (by kernel_rfl) (by kernel_rfl) (by kernel_rfl) (fun _ _ _ h => h) (Or.inl ⟨by rfl, ?_⟩) HS.out ?_
            rotate_left
            · intro w' hSw; clear hSw; go_simp; try (with_reducible rfl)
            try simp only [Act.put, List.setIfInBounds_toArray, List.set_cons_zero, List.set_cons_succ]
            refine wpAnyH_ready (rs := [7]) (by kernel_rfl) (by simp) ?_
            refine AllReadyH.cons (o := ⟨some 9, _, _, _, _, _⟩) rfl (fun K hK => ?_) AllReadyH.nil
            go_simp
            have HG := Lib.hid (KS.ne HS.out)
            refine hK.out _ _ (HS.out.alloc _) (fun _ => ?_)
            clear hK K
            try simp only [Act.put, List.setIfInBounds_toArray, List.set_cons_zero, List.set_cons_succ]
            have HZ := Lib.hid (Blk.new u2 #[.int .u32 0, .int .u32 0, .int .u32 0, .int .u32 0, .int .u32 0, .int .u32 0, .int .u32 0, .int .u32 0, .slice none 0 0] 31)
            have HIx := Lib.hid (HIx.out.below ((Below.refl _ _).alloc (Nat.le_refl _) (.cells #[.int .u32 0, .int .u32 0, .int .u32 0, .int .u32 0, .int .u32 0, .int .u32 0, .int .u32 0, .int .u32 0, .slice none 0 0] 31)))
            have HBr := Lib.hid (HBr.out.alloc HBr.out.size (.cells #[.int .u32 0, .int .u32 0, .int .u32 0, .int .u32 0, .int .u32 0, .int .u32 0, .int .u32 0, .int .u32 0, .slice none 0 0] 31))
            have HS := Lib.hid (HS.out.alloc (.cells #[.int .u32 0, .int .u32 0, .int .u32 0, .int .u32 0, .int .u32 0, .int .u32 0, .int .u32 0, .int .u32 0, .slice none 0 0] 31))
            generalize hgz : u2.heap.size = gz at HG HZ ⊢
            clear hgz
            generalize u2.alloc (.cells #[.int .u32 0, .int .u32 0, .int .u32 0, .int .u32 0, .int .u32 0, .int .u32 0, .int .u32 0, .int .u32 0, .slice none 0 0] 31) = u3 at HBr HZ HS HIx ⊢
            refine wpAnyH_ready (rs := [8]) (by kernel_rfl) (by simp) ?_
            refine AllReadyH.cons (o := ⟨none, _, _, _, _, _⟩) rfl (fun K hK => ?_) AllReadyH.nil
            refine if_yes rfl ?_
            refine wp_store_row 31 (.tmp 9) (.tmp 39) rfl (gz) #[.int .u32 (av 0), .int .u32 (av 1), .int .u32 (av 2), .int .u32 (av 3), .int .u32 (av 4), .int .u32 (av 5), .int .u32 (av 6), .int .u32 (av 7), .slice alx an capx] rfl rfl 31 _ HZ.out (by kernel_rfl) rfl (cut_one _ _ _ _) ?_
            refine hK.out _ _ (HS.out.row HZ.out HG.out.1 HG.out.2 _) (fun _ => ?_)
            clear hK K
            try simp only [Act.put, List.setIfInBounds_toArray, List.set_cons_zero, List.set_cons_succ]
            have HS := Lib.hid (HS.out.row HZ.out HG.out.1 HG.out.2 #[.int .u32 (av 0), .int .u32 (av 1), .int .u32 (av 2), .int .u32 (av 3), .int .u32 (av 4), .int .u32 (av 5), .int .u32 (av 6), .int .u32 (av 7), .slice alx an capx])
            refine wpAnyH_take (i := 9) (oi := ⟨some 10, _, _, _, _, _⟩) (v := ?_) rfl (by kernel_rfl) (by kernel_rfl) (by kernel_rfl) (fun _ _ _ h => h) (Or.inl ⟨by rfl, ?_⟩) HS.out ?_
            rotate_left
            · intro w' hSw; clear hSw; go_simp; try (with_reducible rfl)
            try simp only [Act.put, List.setIfInBounds_toArray, List.set_cons_zero, List.set_cons_succ]
            refine wpAnyH_done (by kernel_rfl) ?_ _
            go_wp2_with fail
            go_meet
            exact ⟨gz, alx, capx, rfl, rfl, hFx, (HS.out.put (setRow_heap _ _ _ #[.int .u32 (av 0), .int .u32 (av 1), .int .u32 (av 2), .int .u32 (av 3), .int .u32 (av 4), .int .u32 (av 5), .int .u32 (av 6), .int .u32 (av 7), .slice alx an capx] _ _ HZ.out)).add (ids_rowC HIx.out HZ.out _)⟩
          · go_simp
            have HG := Lib.hid (KS.ne HS.out)
            refine hK.out _ _ (HS.out.alloc _) (fun _ => ?_)
            clear hK K
            try simp only [Act.put, List.setIfInBounds_toArray, List.set_cons_zero, List.set_cons_succ]
            have HZ := Lib.hid (Blk.new u1 #[.int .u32 0, .int .u32 0, .int .u32 0, .int .u32 0, .int .u32 0, .int .u32 0, .int .u32 0, .int .u32 0, .slice none 0 0] 31)
            have HIt := Lib.hid (HIt.out.below ((Below.refl _ _).alloc (Nat.le_refl _) (.cells #[.int .u32 0, .int .u32 0, .int .u32 0, .int .u32 0, .int .u32 0, .int .u32 0, .int .u32 0, .int .u32 0, .slice none 0 0] 31)))
            have HBr := Lib.hid (HBr.out.alloc HBr.out.size (.cells #[.int .u32 0, .int .u32 0, .int .u32 0, .int .u32 0, .int .u32 0, .int .u32 0, .int .u32 0, .int .u32 0, .slice none 0 0] 31))
            have HS := Lib.hid (HS.out.alloc (.cells #[.int .u32 0, .int .u32 0, .int .u32 0, .int .u32 0, .int .u32 0, .int .u32 0, .int .u32 0, .int .u32 0, .slice none 0 0] 31))
            generalize hgz : u1.heap.size = gz at HG HZ ⊢
            clear hgz
            generalize u1.alloc (.cells #[.int .u32 0, .int .u32 0, .int .u32 0, .int .u32 0, .int .u32 0, .int .u32 0, .int .u32 0, .int .u32 0, .slice none 0 0] 31) = u2 at HBr HZ HS HIt ⊢
            refine wpAnyH_ready (rs := [3]) (by kernel_rfl) (by simp) ?_
            refine AllReadyH.cons (o := ⟨some 38, _, _, _, _, _⟩) rfl (fun K hK => ?_) AllReadyH.nil
            go_simp
            go_at_call 11
            have hcl := cAdd_any a alt len capt L o q u2 HIt.out hFt HIN.out
            rw [HP1.out, HP2.out, HP3.out, HAN.out] at hcl
            refine hcl.mono ?_
            clear hcl
            rintro e u3 ⟨alx, capx, rfl, hIx, hFx, bu3⟩
            have HZ := Lib.hid (HZ.out.below bu3)
            have HIx := Lib.hid hIx
            have HBr := Lib.hid (HBr.out.trans (bu3.mono HBr.out.size))
            have HS := Lib.hid (HSr.out.next HBr.out)
            clear bu3 hIx
            go_wp2_with fail
            refine hK.out _ _ HS.out (fun _ => ?_)
            clear hK K
            try simp only [Act.put, List.setIfInBounds_toArray, List.set_cons_zero, List.set_cons_succ]
            refine wpAnyH_take (i := 4) (oi := ⟨some 34, _, _, _, _, _⟩) (v := ?_) rfl (by kernel_rfl) (by kernel_rfl) (by kernel_rfl) (fun _ _ _ h => h) (Or.inl ⟨by rfl, ?_⟩) HS.out ?_
            rotate_left
            · intro w' hSw; clear hSw; go_simp; try (with_reducible rfl)
            try simp only [Act.put, List.setIfInBounds_toArray, List.set_cons_zero, List.set_cons_succ]
            refine wpAnyH_take (i := 5) (oi := ⟨some 39, _, _, _, _, _⟩) (v := ?_) rfl (by kernel_rfl) (by kernel_rfl) (by kernel_rfl) (fun _ _ _ h => h) (Or.inl ⟨by rfl, ?_⟩) HS.out ?_
            rotate_left
            · intro w' hSw; clear hSw; go_simp; try (with_reducible rfl)
            try simp only [Act.put, List.setIfInBounds_toArray, List.set_cons_zero, List.set_cons_succ]
            refine wpAnyH_take (i := 6) (oi := ⟨some 40, _, _, _, _, _⟩) (v := ?_) rfl (by kernel_rfl) (by kernel_rfl) (by kernel_rfl) (fun _ _ _ h => h) (Or.inl ⟨by rfl, ?_⟩) HS.out ?_
            rotate_left
            · intro w' hSw; clear hSw; go_simp; try (with_reducible rfl)
            try simp only [Act.put, List.setIfInBounds_toArray, List.set_cons_zero, List.set_cons_succ]
            refine wpAnyH_ready (rs := [8]) (by kernel_rfl) (by simp) ?_
            refine AllReadyH.cons (o := ⟨none, _, _, _, _, _⟩) rfl (fun K hK => ?_) AllReadyH.nil
            refine if_yes rfl ?_
            refine wp_store_row 31 (.tmp 9) (.tmp 39) rfl (gz) #[.int .u32 (av 0), .int .u32 (av 1), .int .u32 (av 2), .int .u32 (av 3), .int .u32 (av 4), .int .u32 (av 5), .int .u32 (av 6), .int .u32 (av 7), .slice alx an capx] rfl rfl 31 _ HZ.out (by kernel_rfl) rfl (cut_one _ _ _ _) ?_
            refine hK.out _ _ (HS.out.row HZ.out HG.out.1 HG.out.2 _) (fun _ => ?_)
            clear hK K
            try simp only [Act.put, List.setIfInBounds_toArray, List.set_cons_zero, List.set_cons_succ]
            have HS := Lib.hid (HS.out.row HZ.out HG.out.1 HG.out.2 #[.int .u32 (av 0), .int .u32 (av 1), .int .u32 (av 2), .int .u32 (av 3), .int .u32 (av 4), .int .u32 (av 5), .int .u32 (av 6), .int .u32 (av 7), .slice alx an capx])
            refine wpAnyH_take (i := 9) (oi := ⟨some 10, _, _, _, _, _⟩) (v := ?_) rfl (by kernel_rfl) (by kernel_rfl) (by kernel_rfl) (fun _ _ _ h => h) (Or.inl ⟨by rfl, ?_⟩) HS.out ?_
            rotate_left
            · intro w' hSw; clear hSw; go_simp; try (with_reducible rfl)
            try simp only [Act.put, List.setIfInBounds_toArray, List.set_cons_zero, List.set_cons_succ]
            refine wpAnyH_done (by kernel_rfl) ?_ _
            go_wp2_with fail
            go_meet
            exact ⟨gz, alx, capx, rfl, rfl, hFx, (HS.out.put (setRow_heap _ _ _ #[.int .u32 (av 0), .int .u32 (av 1), .int .u32 (av 2), .int .u32 (av 3), .int .u32 (av 4), .int .u32 (av 5), .int .u32 (av 6), .int .u32 (av 7), .slice alx an capx] _ _ HZ.out)).add (ids_rowC HIx.out HZ.out _)⟩
        · go_simp
          have HG := Lib.hid (KS.ne HS.out)
          refine hK.out _ _ (HS.out.alloc _) (fun _ => ?_)
          clear hK K
          try simp only [Act.put, List.setIfInBounds_toArray, List.set_cons_zero, List.set_cons_succ]
          have HZ := Lib.hid (Blk.new wr #[.int .u32 0, .int .u32 0, .int .u32 0, .int .u32 0, .int .u32 0, .int .u32 0, .int .u32 0, .int .u32 0, .slice none 0 0] 31)
          have HBr := Lib.hid (HBr.out.alloc HBr.out.size (.cells #[.int .u32 0, .int .u32 0, .int .u32 0, .int .u32 0, .int .u32 0, .int .u32 0, .int .u32 0, .int .u32 0, .slice none 0 0] 31))
          have HS := Lib.hid (HS.out.alloc (.cells #[.int .u32 0, .int .u32 0, .int .u32 0, .int .u32 0, .int .u32 0, .int .u32 0, .int .u32 0, .int .u32 0, .slice none 0 0] 31))
          generalize hgz : wr.heap.size = gz at HG HZ ⊢
          clear hgz
          generalize wr.alloc (.cells #[.int .u32 0, .int .u32 0, .int .u32 0, .int .u32 0, .int .u32 0, .int .u32 0, .int .u32 0, .int .u32 0, .slice none 0 0] 31) = u1 at HBr HZ HS ⊢
          refine wpAnyH_ready (rs := [1]) (by kernel_rfl) (by simp) ?_
          refine AllReadyH.cons (o := ⟨some 36, _, _, _, _, _⟩) rfl (fun K hK => ?_) AllReadyH.nil
          go_simp
          go_at_call 12
          have hcl := to_cut a al len cap L u1 (HS.out.ids 2 rfl) (by omega)
          refine hcl.mono ?_
          clear hcl
          rintro e u2 ⟨alt, capt, rfl, hIt, hFt, bu2⟩
          have HZ := Lib.hid (HZ.out.below bu2)
          have HIt := Lib.hid hIt
          have HBr := Lib.hid (HBr.out.trans (bu2.mono HBr.out.size))
          have HS := Lib.hid (HSr.out.next HBr.out)
          clear bu2 hIt
          go_wp2_with fail
          refine hK.out _ _ HS.out (fun _ => ?_)
          clear hK K
          try simp only [Act.put, List.setIfInBounds_toArray, List.set_cons_zero, List.set_cons_succ]
          refine wpAnyH_ready (rs := [3]) (by kernel_rfl) (by simp) ?_
          refine AllReadyH.cons (o := ⟨some 38, _, _, _, _, _⟩) rfl (fun K hK => ?_) AllReadyH.nil
          go_simp
          go_at_call 11
          have hcl := cAdd_any a alt len capt L o q u2 HIt.out hFt HIN.out
          rw [HP1.out, HP2.out, HP3.out, HAN.out] at hcl
          refine hcl.mono ?_
          clear hcl
          rintro e u3 ⟨alx, capx, rfl, hIx, hFx, bu3⟩
          have HZ := Lib.hid (HZ.out.below bu3)
          have HIx := Lib.hid hIx
          have HBr := Lib.hid (HBr.out.trans (bu3.mono HBr.out.size))
          have HS := Lib.hid (HSr.out.next HBr.out)
          clear bu3 hIx
          go_wp2_with fail
          refine hK.out _ _ HS.out (fun _ => ?_)
          clear hK K
          try simp only [Act.put, List.setIfInBounds_toArray, List.set_cons_zero, List.set_cons_succ]
          refine wpAnyH_take (i := 4) (oi := ⟨some 34, _, _, _, _, _⟩) (v := ?_) rfl (by kernel_rfl) (by kernel_rfl) (by kernel_rfl) (fun _ _ _ h => h) (Or.inl ⟨by rfl, ?_⟩) HS.out ?_
          rotate_left
          · intro w' hSw; clear hSw; go_simp; try (with_reducible rfl)
          try simp only [Act.put, List.setIfInBounds_toArray, List.set_cons_zero, List.set_cons_succ]
          refine wpAnyH_take (i := 5) (oi := ⟨some 39, _, _, _, _, _⟩) (v := ?_) rfl (by kernel_rfl) (by kernel_rfl) (by kernel_rfl) (fun _ _ _ h => h) (Or.inl ⟨by rfl, ?_⟩) HS.out ?_
          rotate_left
          · intro w' hSw; clear hSw; go_simp; try (with_reducible rfl)
          try simp only [Act.put, List.setIfInBounds_toArray, List.set_cons_zero, List.set_cons_succ]
          refine wpAnyH_take (i := 6) (oi := ⟨some 40, _, _, _, _, _⟩) (v := ?_) rfl (by kernel_rfl) (by kernel_rfl) (by kernel_rfl) (fun _ _ _ h => h) (Or.inl ⟨by rfl, ?_⟩) HS.out ?_
          rotate_left
          · intro w' hSw; clear hSw; go_simp; try (with_reducible rfl)
          try simp only [Act.put, List.setIfInBounds_toArray, List.set_cons_zero, List.set_cons_succ]
          refine wpAnyH_ready (rs := [8]) (by kernel_rfl) (by simp) ?_
          refine AllReadyH.cons (o := ⟨none, _, _, _, _, _⟩) rfl (fun K hK => ?_) AllReadyH.nil
          refine if_yes rfl ?_
          refine wp_store_row 31 (.tmp 9) (.tmp 39) rfl (gz) #[.int .u32 (av 0), .int .u32 (av 1), .int .u32 (av 2), .int .u32 (av 3), .int .u32 (av 4), .int .u32 (av 5), .int .u32 (av 6), .int .u32 (av 7), .slice alx an capx] rfl rfl 31 _ HZ.out (by kernel_rfl) rfl (cut_one _ _ _ _) ?_
          refine hK.out _ _ (HS.out.row HZ.out HG.out.1 HG.out.2 _) (fun _ => ?_)
          clear hK K
          try simp only [Act.put, List.setIfInBounds_toArray, List.set_cons_zero, List.set_cons_succ]
          have HS := Lib.hid (HS.out.row HZ.out HG.out.1 HG.out.2 #[.int .u32 (av 0), .int .u32 (av 1), .int .u32 (av 2), .int .u32 (av 3), .int .u32 (av 4), .int .u32 (av 5), .int .u32 (av 6), .int .u32 (av 7), .slice alx an capx])
          refine wpAnyH_take (i := 9) (oi := ⟨some 10, _, _, _, _, _⟩) (v := ?_) rfl (by kernel_rfl) (by kernel_rfl) (by kernel_rfl) (fun _ _ _ h => h) (Or.inl ⟨by rfl, ?_⟩) HS.out ?_
          rotate_left
          · intro w' hSw; clear hSw; go_simp; try (with_reducible rfl)
          try simp only [Act.put, List.setIfInBounds_toArray, List.set_cons_zero, List.set_cons_succ]
          refine wpAnyH_done (by kernel_rfl) ?_ _
          go_wp2_with fail
          go_meet
          exact ⟨gz, alx, capx, rfl, rfl, hFx, (HS.out.put (setRow_heap _ _ _ #[.int .u32 (av 0), .int .u32 (av 1), .int .u32 (av 2), .int .u32 (av 3), .int .u32 (av 4), .int .u32 (av 5), .int .u32 (av 6), .int .u32 (av 7), .slice alx an capx] _ _ HZ.out)).add (ids_rowC HIx.out HZ.out _)⟩
      case rest =>
        obtain ⟨gx, alx, capx, rfl, rfl, hFx, hks⟩ := hcut
        have HX := Lib.hid hks
        clear hks HL
        obtain ⟨id_0, id_1⟩ := id_cells (HX.out.blk 3 rfl)
        obtain ⟨a_0, a_1, a_2, a_3, a_4, a_5, a_6, a_7, a_8⟩ := cut_cells (HX.out.blk 4 rfl)
        go_wp2_with fail
        have hmk := rAdd_cut a al len cap L o q _ (HX.out.ids 3 rfl) HIN.out
        rw [HKD.out, HAV.out, HAS.out, HAC.out, HAN.out] at hmk
        refine hmk.mono ?_
        clear hmk
        rintro e w6 ⟨aly, capy, rfl, hIy, b6⟩
        have HY := Lib.hid (((HX.out.next b6).add hIy).box (g := w6.heap.size) rfl #[.int .u32 (av 0), .int .u32 (av 1), .int .u32 (av 2), .int .u32 (av 3), .int .u32 (av 4), .int .u32 (av 5), .int .u32 (av 6), .int .u32 (av 7), .slice aly an capy] 27)
        clear b6 hIy HX id_0 id_1 a_0 a_1 a_2 a_3 a_4 a_5 a_6 a_7 a_8
        go_wp2_with fail
        generalize w6.alloc (.cells #[.int .u32 (av 0), .int .u32 (av 1), .int .u32 (av 2), .int .u32 (av 3), .int .u32 (av 4), .int .u32 (av 5), .int .u32 (av 6), .int .u32 (av 7), .slice aly an capy] 27) = w7 at HY ⊢
        refine wp_region_held_drew (S := KS w [(w6.heap.size, #[.int .u32 (av 0), .int .u32 (av 1), .int .u32 (av 2), .int .u32 (av 3), .int .u32 (av 4), .int .u32 (av 5), .int .u32 (av 6), .int .u32 (av 7), .slice aly an capy], 27), (gx, #[.int .u32 (av 0), .int .u32 (av 1), .int .u32 (av 2), .int .u32 (av 3), .int .u32 (av 4), .int .u32 (av 5), .int .u32 (av 6), .int .u32 (av 7), .slice alx an capx], 31), (w3.heap.size, #[.int .u32 (v1 0), .int .u32 (v1 1), .int .u32 (v1 2), .int .u32 (v1 3), .int .u32 (v1 4), .int .u32 (v1 5), .int .u32 (v1 6), .int .u32 (v1 7), .slice alb n1 capb], 27), (g1, #[.int .u32 (v1 0), .int .u32 (v1 1), .int .u32 (v1 2), .int .u32 (v1 3), .int .u32 (v1 4), .int .u32 (v1 5), .int .u32 (v1 6), .int .u32 (v1 7), .slice al1 n1 cap1], 31), (w.heap.size + 1, #[.int .i64 o, .int .u32 q], 29), (w.heap.size, #[.int .u32 (a 0), .int .u32 (a 1), .int .u32 (a 2), .int .u32 (a 3), .int .u32 (a 4), .int .u32 (a 5), .int .u32 (a 6), .int .u32 (a 7), .slice al len cap], 27)] [(aly, an, capy, aS), (alx, an, capx, aS), (alb, n1, capb, S1), (al1, n1, cap1, S1), (al, len, cap, L)]) (by kernel_rfl) HY.out.drew (fun _ => ?_)
        have HSr := Lib.hid HY.out.drew
        generalize w7.drew = wr at HSr ⊢
        have HS := HSr
        have HBr := Lib.hid (Below.refl wr.heap.size wr)
        refine wpAnyH_take (i := 0) (oi := ⟨some 47, _, _, _, _, _⟩) (v := ?_) rfl (by kernel_rfl) (by kernel_rfl) (by kernel_rfl) (fun _ _ _ h => h) (Or.inl ⟨by rfl, ?_⟩) HS.out ?_
        rotate_left
        · intro w' hSw; obtain ⟨p1_0, p1_1, p1_2, p1_3, p1_4, p1_5, p1_6, p1_7, p1_8⟩ := cut_cells (hSw.blk 3 rfl); go_simp; try (with_reducible rfl)
        try simp only [Act.put, List.setIfInBounds_toArray, List.set_cons_zero, List.set_cons_succ]
        refine wpAnyH_take (i := 2) (oi := ⟨some 49, _, _, _, _, _⟩) (v := ?_) rfl (by kernel_rfl) (by kernel_rfl) (by kernel_rfl) (fun _ _ _ h => h) (Or.inl ⟨by rfl, ?_⟩) HS.out ?_
        rotate_left
        · intro w' hSw; obtain ⟨b_0, b_1, b_2, b_3, b_4, b_5, b_6, b_7, b_8⟩ := cut_cells (hSw.blk 2 rfl); go_simp; try (with_reducible rfl)
        try simp only [Act.put, List.setIfInBounds_toArray, List.set_cons_zero, List.set_cons_succ]
        refine wpAnyH_ready (rs := [1]) (by kernel_rfl) (by simp) ?_
        refine AllReadyH.cons (o := ⟨some 48, _, _, _, _, _⟩) rfl (fun K hK => ?_) AllReadyH.nil
        go_simp
        go_at_call 15
        have hcl := from_cut v1 al1 n1 cap1 wr
        refine hcl.mono ?_
        clear hcl
        rintro e u1 ⟨rfl, bu1⟩
        have HBr := Lib.hid (HBr.out.trans (bu1.mono HBr.out.size))
        have HS := Lib.hid (HSr.out.next HBr.out)
        clear bu1
        go_wp2_with fail
        refine hK.out _ _ HS.out (fun _ => ?_)
        clear hK K
        try simp only [Act.put, List.setIfInBounds_toArray, List.set_cons_zero, List.set_cons_succ]
        refine wpAnyH_ready (rs := [3]) (by kernel_rfl) (by simp) ?_
        refine AllReadyH.cons (o := ⟨some 50, _, _, _, _, _⟩) rfl (fun K hK => ?_) AllReadyH.nil
        go_simp
        go_at_call 14
        have hcl := rSame_cut v1 v1 al1 alb n1 cap1 n1 capb S1 S1 u1 (HS.out.ids 3 rfl) (HS.out.ids 2 rfl)
        rw [eqC_own] at hcl
        refine hcl.mono ?_
        clear hcl
        rintro e u2 ⟨rfl, bu2⟩
        have HBr := Lib.hid (HBr.out.trans (bu2.mono HBr.out.size))
        have HS := Lib.hid (HSr.out.next HBr.out)
        clear bu2
        go_wp2_with fail
        refine hK.out _ _ HS.out (fun _ => ?_)
        clear hK K
        try simp only [Act.put, List.setIfInBounds_toArray, List.set_cons_zero, List.set_cons_succ]
        refine wpAnyH_take (i := 4) (oi := ⟨some 51, _, _, _, _, _⟩) (v := ?_) rfl (by kernel_rfl) (by kernel_rfl) (by kernel_rfl) (fun _ _ _ h => h) (Or.inl ⟨by rfl, ?_⟩) HS.out ?_
        rotate_left
        · intro w' hSw; clear hSw; go_simp; try (with_reducible rfl)
        try simp only [Act.put, List.setIfInBounds_toArray, List.set_cons_zero, List.set_cons_succ]
        refine wpAnyH_take (i := 5) (oi := ⟨some 52, _, _, _, _, _⟩) (v := ?_) rfl (by kernel_rfl) (by kernel_rfl) (by kernel_rfl) (fun _ _ _ h => h) (Or.inl ⟨by rfl, ?_⟩) HS.out ?_
        rotate_left
        · intro w' hSw; clear hSw; go_simp; try (with_reducible rfl)
        try simp only [Act.put, List.setIfInBounds_toArray, List.set_cons_zero, List.set_cons_succ]
        refine wpAnyH_take (i := 6) (oi := ⟨some 53, _, _, _, _, _⟩) (v := ?_) rfl (by kernel_rfl) (by kernel_rfl) (by kernel_rfl) (fun _ _ _ h => h) (Or.inl ⟨by rfl, ?_⟩) HS.out ?_
        rotate_left
        · intro w' hSw; clear hSw; go_simp; try (with_reducible rfl)
        try simp only [Act.put, List.setIfInBounds_toArray, List.set_cons_zero, List.set_cons_succ]
        refine wpAnyH_take (i := 7) (oi := ⟨some 54, _, _, _, _, _⟩) (v := ?_) rfl (by kernel_rfl) (by kernel_rfl) (by kernel_rfl) (fun _ _ _ h => h) (Or.inl ⟨by rfl, ?_⟩) HS.out ?_
        rotate_left
        · intro w' hSw; clear hSw; go_simp; try (with_reducible rfl)
        try simp only [Act.put, List.setIfInBounds_toArray, List.set_cons_zero, List.set_cons_succ]
        refine wpAnyH_take (i := 8) (oi := ⟨some 55, _, _, _, _, _⟩) (v := ?_) rfl (by kernel_rfl) (by kernel_rfl) (by kernel_rfl) (fun _ _ _ h => h) (Or.inl ⟨by rfl, ?_⟩) HS.out ?_
        rotate_left
        · intro w' hSw; clear hSw; go_simp; try (with_reducible rfl)
        try simp only [Act.put, List.setIfInBounds_toArray, List.set_cons_zero, List.set_cons_succ]
        refine wpAnyH_take (i := 9) (oi := ⟨some 56, _, _, _, _, _⟩) (v := ?_) rfl (by kernel_rfl) (by kernel_rfl) (by kernel_rfl) (fun _ _ _ h => h) (Or.inl ⟨by rfl, ?_⟩) HS.out ?_
        rotate_left
        · intro w' hSw; clear hSw; go_simp; try (with_reducible rfl)
        try simp only [Act.put, List.setIfInBounds_toArray, List.set_cons_zero, List.set_cons_succ]
        refine wpAnyH_take (i := 10) (oi := ⟨some 57, _, _, _, _, _⟩) (v := ?_) rfl (by kernel_rfl) (by kernel_rfl) (by kernel_rfl) (fun _ _ _ h => h) (Or.inl ⟨by rfl, ?_⟩) HS.out ?_
        rotate_left
        · intro w' hSw; obtain ⟨x_0, x_1, x_2, x_3, x_4, x_5, x_6, x_7, x_8⟩ := cut_cells (hSw.blk 1 rfl); go_simp; try (with_reducible rfl)
        try simp only [Act.put, List.setIfInBounds_toArray, List.set_cons_zero, List.set_cons_succ]
        refine wpAnyH_take (i := 12) (oi := ⟨some 59, _, _, _, _, _⟩) (v := ?_) rfl (by kernel_rfl) (by kernel_rfl) (by kernel_rfl) (fun _ _ _ h => h) (Or.inl ⟨by rfl, ?_⟩) HS.out ?_
        rotate_left
        · intro w' hSw; obtain ⟨y_0, y_1, y_2, y_3, y_4, y_5, y_6, y_7, y_8⟩ := cut_cells (hSw.blk 0 rfl); go_simp; try (with_reducible rfl)
        try simp only [Act.put, List.setIfInBounds_toArray, List.set_cons_zero, List.set_cons_succ]
        refine wpAnyH_ready (rs := [11]) (by kernel_rfl) (by simp) ?_
        refine AllReadyH.cons (o := ⟨some 58, _, _, _, _, _⟩) rfl (fun K hK => ?_) AllReadyH.nil
        go_simp
        go_at_call 15
        have hcl := from_cut av alx an capx u2
        refine hcl.mono ?_
        clear hcl
        rintro e u3 ⟨rfl, bu3⟩
        have HBr := Lib.hid (HBr.out.trans (bu3.mono HBr.out.size))
        have HS := Lib.hid (HSr.out.next HBr.out)
        clear bu3
        go_wp2_with fail
        refine hK.out _ _ HS.out (fun _ => ?_)
        clear hK K
        try simp only [Act.put, List.setIfInBounds_toArray, List.set_cons_zero, List.set_cons_succ]
        refine wpAnyH_ready (rs := [13]) (by kernel_rfl) (by simp) ?_
        refine AllReadyH.cons (o := ⟨some 60, _, _, _, _, _⟩) rfl (fun K hK => ?_) AllReadyH.nil
        go_simp
        go_at_call 14
        have hcl := rSame_cut av av alx aly an capx an capy aS aS u3 (HS.out.ids 1 rfl) (HS.out.ids 0 rfl)
        rw [eqC_own] at hcl
        refine hcl.mono ?_
        clear hcl
        rintro e u4 ⟨rfl, bu4⟩
        have HBr := Lib.hid (HBr.out.trans (bu4.mono HBr.out.size))
        have HS := Lib.hid (HSr.out.next HBr.out)
        clear bu4
        go_wp2_with fail
        refine hK.out _ _ HS.out (fun _ => ?_)
        clear hK K
        try simp only [Act.put, List.setIfInBounds_toArray, List.set_cons_zero, List.set_cons_succ]
        refine wpAnyH_take (i := 14) (oi := ⟨some 61, _, _, _, _, _⟩) (v := ?_) rfl (by kernel_rfl) (by kernel_rfl) (by kernel_rfl) (fun _ _ _ h => h) (Or.inl ⟨by rfl, ?_⟩) HS.out ?_
        rotate_left
        · intro w' hSw; clear hSw; go_simp; try (with_reducible rfl)
        try simp only [Act.put, List.setIfInBounds_toArray, List.set_cons_zero, List.set_cons_succ]
        refine wpAnyH_take (i := 15) (oi := ⟨some 62, _, _, _, _, _⟩) (v := ?_) rfl (by kernel_rfl) (by kernel_rfl) (by kernel_rfl) (fun _ _ _ h => h) (Or.inl ⟨by rfl, ?_⟩) HS.out ?_
        rotate_left
        · intro w' hSw; clear hSw; go_simp; try (with_reducible rfl)
        try simp only [Act.put, List.setIfInBounds_toArray, List.set_cons_zero, List.set_cons_succ]
        refine wpAnyH_take (i := 16) (oi := ⟨some 63, _, _, _, _, _⟩) (v := ?_) rfl (by kernel_rfl) (by kernel_rfl) (by kernel_rfl) (fun _ _ _ h => h) (Or.inl ⟨by rfl, ?_⟩) HS.out ?_
        rotate_left
        · intro w' hSw; clear hSw; go_simp; try (with_reducible rfl)
        try simp only [Act.put, List.setIfInBounds_toArray, List.set_cons_zero, List.set_cons_succ]
        refine wpAnyH_take (i := 17) (oi := ⟨some 64, _, _, _, _, _⟩) (v := ?_) rfl (by kernel_rfl) (by kernel_rfl) (by kernel_rfl) (fun _ _ _ h => h) (Or.inl ⟨by rfl, ?_⟩) HS.out ?_
        rotate_left
        · intro w' hSw; clear hSw; go_simp; try (with_reducible rfl)
        try simp only [Act.put, List.setIfInBounds_toArray, List.set_cons_zero, List.set_cons_succ]
        refine wpAnyH_take (i := 18) (oi := ⟨some 65, _, _, _, _, _⟩) (v := ?_) rfl (by kernel_rfl) (by kernel_rfl) (by kernel_rfl) (fun _ _ _ h => h) (Or.inl ⟨by rfl, ?_⟩) HS.out ?_
        rotate_left
        · intro w' hSw; clear hSw; go_simp; try (with_reducible rfl)
        try simp only [Act.put, List.setIfInBounds_toArray, List.set_cons_zero, List.set_cons_succ]
        refine wpAnyH_take (i := 19) (oi := ⟨some 66, _, _, _, _, _⟩) (v := ?_) rfl (by kernel_rfl) (by kernel_rfl) (by kernel_rfl) (fun _ _ _ h => h) (Or.inl ⟨by rfl, ?_⟩) HS.out ?_
        rotate_left
        · intro w' hSw; clear hSw; go_simp; try (with_reducible rfl)
        try simp only [Act.put, List.setIfInBounds_toArray, List.set_cons_zero, List.set_cons_succ]
        refine wpAnyH_take (i := 20) (oi := ⟨some 67, _, _, _, _, _⟩) (v := ?_) rfl (by kernel_rfl) (by kernel_rfl) (by kernel_rfl) (fun _ _ _ h => h) (Or.inl ⟨by rfl, ?_⟩) HS.out ?_
        rotate_left
        · intro w' hSw; clear hSw; go_simp; try (with_reducible rfl)
        try simp only [Act.put, List.setIfInBounds_toArray, List.set_cons_zero, List.set_cons_succ]
        refine wpAnyH_take (i := 21) (oi := ⟨some 68, _, _, _, _, _⟩) (v := ?_) rfl (by kernel_rfl) (by kernel_rfl) (by kernel_rfl) (fun _ _ _ h => h) (Or.inl ⟨by rfl, ?_⟩) HS.out ?_
        rotate_left
        · intro w' hSw; obtain ⟨a_0, a_1, a_2, a_3, a_4, a_5, a_6, a_7, a_8⟩ := cut_cells (hSw.blk 5 rfl); go_simp; try (with_reducible rfl)
        try simp only [Act.put, List.setIfInBounds_toArray, List.set_cons_zero, List.set_cons_succ]
        refine wpAnyH_take (i := 24) (oi := ⟨some 71, _, _, _, _, _⟩) (v := ?_) rfl (by kernel_rfl) (by kernel_rfl) (by kernel_rfl) (fun _ _ _ h => h) (Or.inl ⟨by rfl, ?_⟩) HS.out ?_
        rotate_left
        · intro w' hSw; obtain ⟨a_0, a_1, a_2, a_3, a_4, a_5, a_6, a_7, a_8⟩ := cut_cells (hSw.blk 5 rfl); go_simp; try (with_reducible rfl)
        try simp only [Act.put, List.setIfInBounds_toArray, List.set_cons_zero, List.set_cons_succ]
        refine wpAnyH_ready (rs := [22]) (by kernel_rfl) (by simp) ?_
        refine AllReadyH.cons (o := ⟨some 69, _, _, _, _, _⟩) rfl (fun K hK => ?_) AllReadyH.nil
        go_simp
        go_at_call 12
        have hcl := to_cut a al len cap L u4 (HS.out.ids 4 rfl) (by omega)
        refine hcl.mono ?_
        clear hcl
        rintro e u5 ⟨alt, capt, rfl, hIt, hFt, bu5⟩
        have HIt := Lib.hid hIt
        have HBr := Lib.hid (HBr.out.trans (bu5.mono HBr.out.size))
        have HS := Lib.hid (HSr.out.next HBr.out)
        clear bu5 hIt
        go_wp2_with fail
        refine hK.out _ _ HS.out (fun _ => ?_)
        clear hK K
        try simp only [Act.put, List.setIfInBounds_toArray, List.set_cons_zero, List.set_cons_succ]
        refine wpAnyH_ready (rs := [23]) (by kernel_rfl) (by simp) ?_
        refine AllReadyH.cons (o := ⟨some 70, _, _, _, _, _⟩) rfl (fun K hK => ?_) AllReadyH.nil
        go_simp
        go_at_call 16
        have hcl := cCheck_any a alt len capt L u5 HIt.out hFt HIN.out
        rw [HK.out] at hcl
        refine hcl.mono ?_
        clear hcl
        rintro e u6 ⟨rfl, bu6⟩
        have HIt := Lib.hid (HIt.out.below bu6)
        have HBr := Lib.hid (HBr.out.trans (bu6.mono HBr.out.size))
        have HS := Lib.hid (HSr.out.next HBr.out)
        clear bu6
        go_wp2_with fail
        refine hK.out _ _ HS.out (fun _ => ?_)
        clear hK K
        try simp only [Act.put, List.setIfInBounds_toArray, List.set_cons_zero, List.set_cons_succ]
        refine wpAnyH_ready (rs := [25]) (by kernel_rfl) (by simp) ?_
        refine AllReadyH.cons (o := ⟨some 72, _, _, _, _, _⟩) rfl (fun K hK => ?_) AllReadyH.nil
        go_simp
        go_at_call 17
        have hcl := rCheck_any a al len cap L u6 (HS.out.ids 4 rfl) HIN.out
        rw [HKD.out] at hcl
        refine hcl.mono ?_
        clear hcl
        rintro e u7 ⟨rfl, bu7⟩
        have HBr := Lib.hid (HBr.out.trans (bu7.mono HBr.out.size))
        have HS := Lib.hid (HSr.out.next HBr.out)
        clear bu7
        go_wp2_with fail
        refine hK.out _ _ HS.out (fun _ => ?_)
        clear hK K
        try simp only [Act.put, List.setIfInBounds_toArray, List.set_cons_zero, List.set_cons_succ]
        refine wpAnyH_take (i := 26) (oi := ⟨some 73, _, _, _, _, _⟩) (v := ?_) rfl (by kernel_rfl) (by kernel_rfl) (by kernel_rfl) (fun _ _ _ h => h) (Or.inl ⟨by rfl, ?_⟩) HS.out ?_
        rotate_left
        · intro w' hSw; clear hSw; go_simp; try (with_reducible rfl)
        try simp only [Act.put, List.setIfInBounds_toArray, List.set_cons_zero, List.set_cons_succ]
        refine wpAnyH_take (i := 27) (oi := ⟨some 74, _, _, _, _, _⟩) (v := ?_) rfl (by kernel_rfl) (by kernel_rfl) (by kernel_rfl) (fun _ _ _ h => h) (Or.inl ⟨by rfl, ?_⟩) HS.out ?_
        rotate_left
        · intro w' hSw; clear hSw; go_simp; try (with_reducible rfl)
        try simp only [Act.put, List.setIfInBounds_toArray, List.set_cons_zero, List.set_cons_succ]
        refine wpAnyH_take (i := 28) (oi := ⟨some 75, _, _, _, _, _⟩) (v := ?_) rfl (by kernel_rfl) (by kernel_rfl) (by kernel_rfl) (fun _ _ _ h => h) (Or.inl ⟨by rfl, ?_⟩) HS.out ?_
        rotate_left
        · intro w' hSw; clear hSw; go_simp; try (with_reducible rfl)
        try simp only [Act.put, List.setIfInBounds_toArray, List.set_cons_zero, List.set_cons_succ]
        refine wpAnyH_take (i := 29) (oi := ⟨some 76, _, _, _, _, _⟩) (v := ?_) rfl (by kernel_rfl) (by kernel_rfl) (by kernel_rfl) (fun _ _ _ h => h) (Or.inl ⟨by rfl, ?_⟩) HS.out ?_
        rotate_left
        · intro w' hSw; obtain ⟨a_0, a_1, a_2, a_3, a_4, a_5, a_6, a_7, a_8⟩ := cut_cells (hSw.blk 5 rfl); go_simp; try (with_reducible rfl)
        try simp only [Act.put, List.setIfInBounds_toArray, List.set_cons_zero, List.set_cons_succ]
        refine wpAnyH_take (i := 31) (oi := ⟨some 78, _, _, _, _, _⟩) (v := ?_) rfl (by kernel_rfl) (by kernel_rfl) (by kernel_rfl) (fun _ _ _ h => h) (Or.inl ⟨by rfl, ?_⟩) HS.out ?_
        rotate_left
        · intro w' hSw; obtain ⟨id_0, id_1⟩ := id_cells (hSw.blk 4 rfl); go_simp; try (with_reducible rfl)
        try simp only [Act.put, List.setIfInBounds_toArray, List.set_cons_zero, List.set_cons_succ]
        refine wpAnyH_take (i := 33) (oi := ⟨some 80, _, _, _, _, _⟩) (v := ?_) rfl (by kernel_rfl) (by kernel_rfl) (by kernel_rfl) (fun _ _ _ h => h) (Or.inl ⟨by rfl, ?_⟩) HS.out ?_
        rotate_left
        · intro w' hSw; obtain ⟨a_0, a_1, a_2, a_3, a_4, a_5, a_6, a_7, a_8⟩ := cut_cells (hSw.blk 5 rfl); go_simp; try (with_reducible rfl)
        try simp only [Act.put, List.setIfInBounds_toArray, List.set_cons_zero, List.set_cons_succ]
        refine wpAnyH_take (i := 34) (oi := ⟨some 81, _, _, _, _, _⟩) (v := ?_) rfl (by kernel_rfl) (by kernel_rfl) (by kernel_rfl) (fun _ _ _ h => h) (Or.inl ⟨by rfl, ?_⟩) HS.out ?_
        rotate_left
        · intro w' hSw; obtain ⟨id_0, id_1⟩ := id_cells (hSw.blk 4 rfl); go_simp; try (with_reducible rfl)
        try simp only [Act.put, List.setIfInBounds_toArray, List.set_cons_zero, List.set_cons_succ]
        refine wpAnyH_ready (rs := [30]) (by kernel_rfl) (by simp) ?_
        refine AllReadyH.cons (o := ⟨some 77, _, _, _, _, _⟩) rfl (fun K hK => ?_) AllReadyH.nil
        go_simp
        go_at_call 12
        have hcl := to_cut a al len cap L u7 (HS.out.ids 4 rfl) (by omega)
        refine hcl.mono ?_
        clear hcl
        rintro e u8 ⟨alz, capz, rfl, hIz, hFz, bu8⟩
        have HIz := Lib.hid hIz
        have HBr := Lib.hid (HBr.out.trans (bu8.mono HBr.out.size))
        have HS := Lib.hid (HSr.out.next HBr.out)
        clear bu8 hIz
        go_wp2_with fail
        refine hK.out _ _ HS.out (fun _ => ?_)
        clear hK K
        try simp only [Act.put, List.setIfInBounds_toArray, List.set_cons_zero, List.set_cons_succ]
        refine wpAnyH_ready (rs := [32]) (by kernel_rfl) (by simp) ?_
        refine AllReadyH.cons (o := ⟨some 79, _, _, _, _, _⟩) rfl (fun K hK => ?_) AllReadyH.nil
        go_simp
        go_at_call 18
        have hcl := cHas_cut a alz len capz L o q u8 HIz.out
        rw [HT.out] at hcl
        refine hcl.mono ?_
        clear hcl
        rintro e u9 ⟨rfl, bu9⟩
        have HIz := Lib.hid (HIz.out.below bu9)
        have HBr := Lib.hid (HBr.out.trans (bu9.mono HBr.out.size))
        have HS := Lib.hid (HSr.out.next HBr.out)
        clear bu9
        go_wp2_with fail
        refine hK.out _ _ HS.out (fun _ => ?_)
        clear hK K
        try simp only [Act.put, List.setIfInBounds_toArray, List.set_cons_zero, List.set_cons_succ]
        refine wpAnyH_ready (rs := [35]) (by kernel_rfl) (by simp) ?_
        refine AllReadyH.cons (o := ⟨some 82, _, _, _, _, _⟩) rfl (fun K hK => ?_) AllReadyH.nil
        go_simp
        go_at_call 19
        have hcl := rHas_cut a al len cap L o q u9 (HS.out.ids 4 rfl)
        rw [HT.out] at hcl
        refine hcl.mono ?_
        clear hcl
        rintro e u10 ⟨rfl, bu10⟩
        have HBr := Lib.hid (HBr.out.trans (bu10.mono HBr.out.size))
        have HS := Lib.hid (HSr.out.next HBr.out)
        clear bu10
        go_wp2_with fail
        refine hK.out _ _ HS.out (fun _ => ?_)
        clear hK K
        try simp only [Act.put, List.setIfInBounds_toArray, List.set_cons_zero, List.set_cons_succ]
        refine wpAnyH_take (i := 36) (oi := ⟨some 83, _, _, _, _, _⟩) (v := ?_) rfl (by kernel_rfl) (by kernel_rfl) (by kernel_rfl) (fun _ _ _ h => h) (Or.inl ⟨by rfl, ?_⟩) HS.out ?_
        rotate_left
        · intro w' hSw; clear hSw; go_simp; try (with_reducible rfl)
        try simp only [Act.put, List.setIfInBounds_toArray, List.set_cons_zero, List.set_cons_succ]
        refine wpAnyH_take (i := 37) (oi := ⟨some 84, _, _, _, _, _⟩) (v := ?_) rfl (by kernel_rfl) (by kernel_rfl) (by kernel_rfl) (fun _ _ _ h => h) (Or.inl ⟨by rfl, ?_⟩) HS.out ?_
        rotate_left
        · intro w' hSw; clear hSw; go_simp; try (with_reducible rfl)
        try simp only [Act.put, List.setIfInBounds_toArray, List.set_cons_zero, List.set_cons_succ]
        refine wpAnyH_take (i := 38) (oi := ⟨some 4, _, _, _, _, _⟩) (v := ?_) rfl (by kernel_rfl) (by kernel_rfl) (by kernel_rfl) (fun _ _ _ h => h) (Or.inl ⟨by rfl, ?_⟩) HS.out ?_
        rotate_left
        · intro w' hSw; clear hSw; go_simp; try (with_reducible rfl)
        try simp only [Act.put, List.setIfInBounds_toArray, List.set_cons_zero, List.set_cons_succ]
        refine wpAnyH_done (by kernel_rfl) ?_ _
        go_wp2_with fail
        go_ret
        exact ⟨by first | rfl | (cases t <;> rfl), HS.out.bel⟩
theorem cutMakes_walk (a : Nat → Int) (al : Option Addr) (len cap : Nat) (L : List (Int × Int)) (o q : Int) (w : World) (ha : ∀ i, i < 8 → (Lit.int .u32 (a i)).wf = true) (hL : Ids w al len cap L) (_ho : (Lit.int .i64 o).wf = true) (_hq : (Lit.int .u32 q).wf = true) :
    Calls Try.prog 3 #[.agg #[.int .u32 (a 0), .int .u32 (a 1), .int .u32 (a 2), .int .u32 (a 3), .int .u32 (a 4), .int .u32 (a 5), .int .u32 (a 6), .int .u32 (a 7), .slice al len cap], .agg #[.int .i64 o, .int .u32 q]] w fun e w' => e = .returned (.bool true) ∧ Below w.heap.size w w' :=
  cutMakes_if ckC_ckD a al len cap L o q w ha hL _ho _hq
end Go.Proofs.Ythbdjgebpjffgaa
