/-
  The walk of the law CutBack.
  Conditions: none.
-/
import Derived.Test.YthbdjgebpjffgaaCuJ
import Derived.Test.YthbdjgebpjffgaaDotK
import Derived.Test.YthbdjgebpjffgaaVecG
import Derived.Test.YthbdjgebpjffgaaVrD
set_option linter.unusedVariables false
set_option linter.unusedSimpArgs false
namespace Go.Proofs.Ythbdjgebpjffgaa
open Go.RowKit Go.Shelf Go.Lib Go.Sort

theorem eqC_self (v : Nat → Int) (L : List (Int × Int)) : eqC v L v L = true := eqC_iff.2 ⟨eqV_refl v, rfl⟩
theorem cwS_size {v : Nat → Int} {L : List (Int × Int)} (hv : InB v) (h : ckC v L = 0) : (writeV v ++ wrS L).size ≤ 1281 := by
  have := writeV_size hv
  have := wrS_size ((ckC_iff hv).1 h).s0
  have := app_size (writeV v) (wrS L)
  omega

set_option maxRecDepth 100000 in
set_option maxHeartbeats 8000000 in
theorem cutBack_walk (a : Nat → Int) (al : Option Addr) (len cap : Nat) (L : List (Int × Int)) (t : ByteArray) (w : World) (ha : ∀ i, i < 8 → (Lit.int .u32 (a i)).wf = true) (hL : Ids w al len cap L) (ht : t.size ≤ maxLen) :
    Calls Try.prog 7 #[.agg #[.int .u32 (a 0), .int .u32 (a 1), .int .u32 (a 2), .int .u32 (a 3), .int .u32 (a 4), .int .u32 (a 5), .int .u32 (a 6), .int .u32 (a 7), .slice al len cap], .string t] w fun e w' => e = .returned (.bool true) ∧ Below w.heap.size w w' := by
  obtain ⟨ti, hi, hz0, hz1, hz2⟩ := info_parts Try.infoId
  have hin : InB a := fun i hi => by have := bounds_u32 (ha i hi); omega
  have HIN := Lib.hid hin
  have hcap := hL.bd
  have hfit := hL.fit
  have hts : t.size ≤ 9223372036854775807 := by unfold maxLen at ht; omega
  have h0 := ((KS.nil w).add hL).box rfl #[.int .u32 (a 0), .int .u32 (a 1), .int .u32 (a 2), .int .u32 (a 3), .int .u32 (a 4), .int .u32 (a 5), .int .u32 (a 6), .int .u32 (a 7), .slice al len cap] 27
  have H0 := Lib.hid h0
  clear h0 hL ha hin ht
  obtain ⟨v1, hv1⟩ : ∃ u, cmV a L = u := ⟨_, rfl⟩
  obtain ⟨S1, hs1⟩ : ∃ R, cmS a L = R := ⟨_, rfl⟩
  obtain ⟨c1, hc1⟩ : ∃ c, cmC a L = c := ⟨_, rfl⟩
  obtain ⟨n1, hn1⟩ : ∃ n, S1.length = n := ⟨_, rfl⟩
  have HV1 := Lib.hid hv1; have HS1 := Lib.hid hs1; have HC1 := Lib.hid hc1; have HN1 := Lib.hid hn1; clear hv1 hs1 hc1 hn1
  go_enter Try.func7, Try.ntmps7
  go_wp2_with fail
  refine (cworks_any _).mono ?_
  rintro e w1 ⟨rfl, b1⟩
  have H1 := Lib.hid (H0.out.next b1)
  clear b1
  have x8 := (cut_cells (H1.out.blk 0 rfl)).2.2.2.2.2.2.2.2
  go_wp2_with fail
  refine (great_any al len cap _ hfit hcap).mono ?_
  cases hg : greatB len with
  | true =>
    rintro e w2 ⟨rfl, b2⟩
    have HB := Lib.hid (H1.out.next b2).bel
    clear b2 x8
    go_wp2
    go_ret
    exact ⟨rfl, HB.out⟩
  | false =>
    have hle1 := great_le hg
    rintro e w2 ⟨rfl, b2⟩
    have H2 := Lib.hid (H1.out.next b2)
    clear b2 x8 hg
    by_cases h1000 : 1000 < t.size
    case pos =>
      have d1 : (1000 : Int) < t.size := by omega
      go_wp2
      go_ret
      exact ⟨rfl, H2.out.bel⟩
    case neg =>
      have d1 : ¬ (1000 : Int) < t.size := by omega
      go_upto_region 5 with fail
      go_cut [5, 6] (fun sx sy wx => ∃ (g1 : Nat) (al1 : Option Addr) (cap1 : Nat), sx = .pointer (some ⟨g1, 0, none⟩) ∧ sy = .int .i64 c1 ∧ Flat al1 ∧ KS w [(g1, #[.int .u32 (v1 0), .int .u32 (v1 1), .int .u32 (v1 2), .int .u32 (v1 3), .int .u32 (v1 4), .int .u32 (v1 5), .int .u32 (v1 6), .int .u32 (v1 7), .slice al1 n1 cap1], 31), (w.heap.size, #[.int .u32 (a 0), .int .u32 (a 1), .int .u32 (a 2), .int .u32 (a 3), .int .u32 (a 4), .int .u32 (a 5), .int .u32 (a 6), .int .u32 (a 7), .slice al len cap], 27)] [(al1, n1, cap1, S1), (al, len, cap, L)] wx)
      case first =>
        refine wp_region_held_drew (S := KS w [(w.heap.size, #[.int .u32 (a 0), .int .u32 (a 1), .int .u32 (a 2), .int .u32 (a 3), .int .u32 (a 4), .int .u32 (a 5), .int .u32 (a 6), .int .u32 (a 7), .slice al len cap], 27)] [(al, len, cap, L)]) (by kernel_rfl) H2.out.drew (fun _ => ?_)
        have HS := Lib.hid H2.out.drew
        generalize w2.drew = wr at HS ⊢
        refine wpAnyH_take (i := 0) (oi := ⟨some 21, _, _, _, _, _⟩) (v := ?_) rfl (by kernel_rfl) (by kernel_rfl) (by kernel_rfl) (fun _ _ _ h => h) (Or.inl ⟨by rfl, ?_⟩) HS.out ?_
        rotate_left
        · intro w' hSw; clear hSw; go_simp; try (with_reducible rfl)
        try simp only [Act.put, List.setIfInBounds_toArray, List.set_cons_zero, List.set_cons_succ]
        refine wpAnyH_take (i := 1) (oi := ⟨some 22, _, _, _, _, _⟩) (v := ?_) rfl (by kernel_rfl) (by kernel_rfl) (by kernel_rfl) (fun _ _ _ h => h) (Or.inl ⟨by rfl, ?_⟩) HS.out ?_
        rotate_left
        · intro w' hSw; obtain ⟨a_0, a_1, a_2, a_3, a_4, a_5, a_6, a_7, a_8⟩ := cut_cells (hSw.blk 0 rfl); go_simp; try (with_reducible rfl)
        try simp only [Act.put, List.setIfInBounds_toArray, List.set_cons_zero, List.set_cons_succ]
        refine wpAnyH_take (i := 3) (oi := ⟨some 24, _, _, _, _, _⟩) (v := ?_) rfl (by kernel_rfl) (by kernel_rfl) (by kernel_rfl) (fun _ _ _ h => h) (Or.inl ⟨by rfl, ?_⟩) HS.out ?_
        rotate_left
        · intro w' hSw; clear hSw; go_simp; try (with_reducible rfl)
        try simp only [Act.put, List.setIfInBounds_toArray, List.set_cons_zero, List.set_cons_succ]
        refine wpAnyH_take (i := 4) (oi := ⟨some 25, _, _, _, _, _⟩) (v := ?_) rfl (by kernel_rfl) (by kernel_rfl) (by kernel_rfl) (fun _ _ _ h => h) (Or.inl ⟨by rfl, ?_⟩) HS.out ?_
        rotate_left
        · intro w' hSw; obtain ⟨a_0, a_1, a_2, a_3, a_4, a_5, a_6, a_7, a_8⟩ := cut_cells (hSw.blk 0 rfl); go_simp; try (with_reducible rfl)
        try simp only [Act.put, List.setIfInBounds_toArray, List.set_cons_zero, List.set_cons_succ]
        refine wpAnyH_ready (rs := [2, 10]) (by kernel_rfl) (by simp) ?_
        refine AllReadyH.cons (o := ⟨some 23, _, _, _, _, _⟩) rfl (fun K hK => ?_) (AllReadyH.cons (o := ⟨some 5, _, _, _, _, _⟩) rfl (fun K hK => ?_) AllReadyH.nil)
        · go_simp
          have HS0 := HS
          have HB0 := Lib.hid ((Below.refl wr.heap.size wr).alloc (Nat.le_refl _) (.cells #[] 29))
          refine hK.out _ _ (HS.out.alloc _) (fun _ => ?_)
          clear hK K
          try simp only [Act.put, List.setIfInBounds_toArray, List.set_cons_zero, List.set_cons_succ]
          have HO := Lib.hid (lit_own wr)
          have HS := Lib.hid (HS.out.alloc (.cells #[] 29))
          refine wpAnyH_ready (rs := [5, 10]) (by kernel_rfl) (by simp) ?_
          refine AllReadyH.cons (o := ⟨some 26, _, _, _, _, _⟩) rfl (fun K hK => ?_) (AllReadyH.cons (o := ⟨some 5, _, _, _, _, _⟩) rfl (fun K hK => ?_) AllReadyH.nil)
          · refine if_yes rfl ?_
            refine wp_append_list (.tmp 23) (.tmp 25) rfl wr.heap.size ti hi hz0 hz1 hz2 _ _ [] rfl HO.out al len cap L rfl (HS.out.ids 0 rfl) (by omega) HB0.out.size ?_
            intro va wa hoa hga
            have hba : Below wr.heap.size wr wa := HB0.out.grown hga HB0.out.size (fun k hk => own_base HO.out k hk)
            obtain ⟨ala, capa, rfl, hIa, hFa⟩ := app_got hoa
            have HIa := Lib.hid hIa
            have HS := Lib.hid (HS0.out.next hba)
            clear hoa hga hba hIa HO HB0
            refine hK.out _ _ HS.out (fun _ => ?_)
            clear hK K
            try simp only [Act.put, List.setIfInBounds_toArray, List.set_cons_zero, List.set_cons_succ]
            refine wpAnyH_ready (rs := [6, 10]) (by kernel_rfl) (by simp) ?_
            refine AllReadyH.cons (o := ⟨some 27, _, _, _, _, _⟩) rfl (fun K hK => ?_) (AllReadyH.cons (o := ⟨some 5, _, _, _, _, _⟩) rfl (fun K hK => ?_) AllReadyH.nil)
            · go_simp
              go_at_call 9
              have hmk := cMake_cut a ala len capa L _ HIa.out hFa HIN.out
              rw [HV1.out, HS1.out, HC1.out, HN1.out] at hmk
              refine hmk.mono ?_
              clear hmk
              rintro e wm ⟨alr, capr, rfl, hIr, hFr, bm⟩
              have HIR := Lib.hid hIr
              have HFR := Lib.hid hFr
              have HS := Lib.hid (HS.out.next bm)
              clear bm hIr hFr HIa
              go_wp2_with fail
              refine hK.out _ _ HS.out (fun _ => ?_)
              clear hK K
              try simp only [Act.put, List.setIfInBounds_toArray, List.set_cons_zero, List.set_cons_succ]
              refine wpAnyH_take (i := 7) (oi := ⟨some 20, _, _, _, _, _⟩) (v := ?_) rfl (by kernel_rfl) (by kernel_rfl) (by kernel_rfl) (fun _ _ _ h => h) (Or.inl ⟨by rfl, ?_⟩) HS.out ?_
              rotate_left
              · intro w' hSw; clear hSw; go_simp; try (with_reducible rfl)
              try simp only [Act.put, List.setIfInBounds_toArray, List.set_cons_zero, List.set_cons_succ]
              refine wpAnyH_take (i := 8) (oi := ⟨some 28, _, _, _, _, _⟩) (v := ?_) rfl (by kernel_rfl) (by kernel_rfl) (by kernel_rfl) (fun _ _ _ h => h) (Or.inl ⟨by rfl, ?_⟩) HS.out ?_
              rotate_left
              · intro w' hSw; clear hSw; go_simp; try (with_reducible rfl)
              try simp only [Act.put, List.setIfInBounds_toArray, List.set_cons_zero, List.set_cons_succ]
              refine wpAnyH_take (i := 9) (oi := ⟨some 29, _, _, _, _, _⟩) (v := ?_) rfl (by kernel_rfl) (by kernel_rfl) (by kernel_rfl) (fun _ _ _ h => h) (Or.inl ⟨by rfl, ?_⟩) HS.out ?_
              rotate_left
              · intro w' hSw; clear hSw; go_simp; try (with_reducible rfl)
              try simp only [Act.put, List.setIfInBounds_toArray, List.set_cons_zero, List.set_cons_succ]
              refine wpAnyH_ready (rs := [10]) (by kernel_rfl) (by simp) ?_
              refine AllReadyH.cons (o := ⟨some 5, _, _, _, _, _⟩) rfl (fun K hK => ?_) AllReadyH.nil
              go_simp
              have HG := Lib.hid (KS.ne HS.out)
              refine hK.out _ _ (HS.out.alloc _) (fun _ => ?_)
              clear hK K
              try simp only [Act.put, List.setIfInBounds_toArray, List.set_cons_zero, List.set_cons_succ]
              have HZ := Lib.hid (Blk.new wm #[.int .u32 0, .int .u32 0, .int .u32 0, .int .u32 0, .int .u32 0, .int .u32 0, .int .u32 0, .int .u32 0, .slice none 0 0] 31)
              have HS := Lib.hid (HS.out.alloc (.cells #[.int .u32 0, .int .u32 0, .int .u32 0, .int .u32 0, .int .u32 0, .int .u32 0, .int .u32 0, .int .u32 0, .slice none 0 0] 31))
              have HIR := Lib.hid (HIR.out.below ((Below.refl _ _).alloc (Nat.le_refl _) (.cells #[.int .u32 0, .int .u32 0, .int .u32 0, .int .u32 0, .int .u32 0, .int .u32 0, .int .u32 0, .int .u32 0, .slice none 0 0] 31)))
              refine wpAnyH_ready (rs := [11]) (by kernel_rfl) (by simp) ?_
              refine AllReadyH.cons (o := ⟨none, _, _, _, _, _⟩) rfl (fun K hK => ?_) AllReadyH.nil
              refine if_yes rfl ?_
              refine wp_store_row 31 (.tmp 5) (.tmp 28) rfl (wm.heap.size) #[.int .u32 (v1 0), .int .u32 (v1 1), .int .u32 (v1 2), .int .u32 (v1 3), .int .u32 (v1 4), .int .u32 (v1 5), .int .u32 (v1 6), .int .u32 (v1 7), .slice alr n1 capr] rfl rfl 31 _ HZ.out (by kernel_rfl) rfl (cut_one _ _ _ _) ?_
              refine hK.out _ _ (HS.out.row HZ.out HG.out.1 HG.out.2 _) (fun _ => ?_)
              clear hK K
              try simp only [Act.put, List.setIfInBounds_toArray, List.set_cons_zero, List.set_cons_succ]
              have HS := Lib.hid (HS.out.row HZ.out HG.out.1 HG.out.2 #[.int .u32 (v1 0), .int .u32 (v1 1), .int .u32 (v1 2), .int .u32 (v1 3), .int .u32 (v1 4), .int .u32 (v1 5), .int .u32 (v1 6), .int .u32 (v1 7), .slice alr n1 capr])
              refine wpAnyH_take (i := 12) (oi := ⟨some 6, _, _, _, _, _⟩) (v := ?_) rfl (by kernel_rfl) (by kernel_rfl) (by kernel_rfl) (fun _ _ _ h => h) (Or.inl ⟨by rfl, ?_⟩) HS.out ?_
              rotate_left
              · intro w' hSw; clear hSw; go_simp; try (with_reducible rfl)
              try simp only [Act.put, List.setIfInBounds_toArray, List.set_cons_zero, List.set_cons_succ]
              refine wpAnyH_done (by kernel_rfl) ?_ _
              go_wp2_with fail
              go_meet
              exact ⟨wm.heap.size, alr, capr, rfl, rfl, HFR.out, (HS.out.put (setRow_heap _ _ _ #[.int .u32 (v1 0), .int .u32 (v1 1), .int .u32 (v1 2), .int .u32 (v1 3), .int .u32 (v1 4), .int .u32 (v1 5), .int .u32 (v1 6), .int .u32 (v1 7), .slice alr n1 capr] _ _ HZ.out)).add (ids_rowC HIR.out HZ.out _)⟩
            · go_simp
              have HG := Lib.hid (KS.ne HS.out)
              refine hK.out _ _ (HS.out.alloc _) (fun _ => ?_)
              clear hK K
              try simp only [Act.put, List.setIfInBounds_toArray, List.set_cons_zero, List.set_cons_succ]
              have HZ := Lib.hid (Blk.new wa #[.int .u32 0, .int .u32 0, .int .u32 0, .int .u32 0, .int .u32 0, .int .u32 0, .int .u32 0, .int .u32 0, .slice none 0 0] 31)
              have HS := Lib.hid (HS.out.alloc (.cells #[.int .u32 0, .int .u32 0, .int .u32 0, .int .u32 0, .int .u32 0, .int .u32 0, .int .u32 0, .int .u32 0, .slice none 0 0] 31))
              have HGL := Lib.hid HZ.out.lt
              have HIa := Lib.hid (HIa.out.below ((Below.refl _ _).alloc (Nat.le_refl _) (.cells #[.int .u32 0, .int .u32 0, .int .u32 0, .int .u32 0, .int .u32 0, .int .u32 0, .int .u32 0, .int .u32 0, .slice none 0 0] 31)))
              generalize hgz : wa.heap.size = gz at HG HZ HGL ⊢
              generalize wa.alloc (.cells #[.int .u32 0, .int .u32 0, .int .u32 0, .int .u32 0, .int .u32 0, .int .u32 0, .int .u32 0, .int .u32 0, .slice none 0 0] 31) = wz1 at HS HZ HGL HIa ⊢
              clear hgz
              refine wpAnyH_ready (rs := [6]) (by kernel_rfl) (by simp) ?_
              refine AllReadyH.cons (o := ⟨some 27, _, _, _, _, _⟩) rfl (fun K hK => ?_) AllReadyH.nil
              go_simp
              go_at_call 9
              have hmk := cMake_cut a ala len capa L _ HIa.out hFa HIN.out
              rw [HV1.out, HS1.out, HC1.out, HN1.out] at hmk
              refine hmk.mono ?_
              clear hmk
              rintro e wm ⟨alr, capr, rfl, hIr, hFr, bm⟩
              have HIR := Lib.hid hIr
              have HFR := Lib.hid hFr
              have HZ := Lib.hid (HZ.out.below bm)
              have HS := Lib.hid (HS.out.next bm)
              clear bm hIr hFr HIa
              go_wp2_with fail
              refine hK.out _ _ HS.out (fun _ => ?_)
              clear hK K
              try simp only [Act.put, List.setIfInBounds_toArray, List.set_cons_zero, List.set_cons_succ]
              refine wpAnyH_take (i := 7) (oi := ⟨some 20, _, _, _, _, _⟩) (v := ?_) rfl (by kernel_rfl) (by kernel_rfl) (by kernel_rfl) (fun _ _ _ h => h) (Or.inl ⟨by rfl, ?_⟩) HS.out ?_
              rotate_left
              · intro w' hSw; clear hSw; go_simp; try (with_reducible rfl)
              try simp only [Act.put, List.setIfInBounds_toArray, List.set_cons_zero, List.set_cons_succ]
              refine wpAnyH_take (i := 8) (oi := ⟨some 28, _, _, _, _, _⟩) (v := ?_) rfl (by kernel_rfl) (by kernel_rfl) (by kernel_rfl) (fun _ _ _ h => h) (Or.inl ⟨by rfl, ?_⟩) HS.out ?_
              rotate_left
              · intro w' hSw; clear hSw; go_simp; try (with_reducible rfl)
              try simp only [Act.put, List.setIfInBounds_toArray, List.set_cons_zero, List.set_cons_succ]
              refine wpAnyH_take (i := 9) (oi := ⟨some 29, _, _, _, _, _⟩) (v := ?_) rfl (by kernel_rfl) (by kernel_rfl) (by kernel_rfl) (fun _ _ _ h => h) (Or.inl ⟨by rfl, ?_⟩) HS.out ?_
              rotate_left
              · intro w' hSw; clear hSw; go_simp; try (with_reducible rfl)
              try simp only [Act.put, List.setIfInBounds_toArray, List.set_cons_zero, List.set_cons_succ]
              refine wpAnyH_ready (rs := [11]) (by kernel_rfl) (by simp) ?_
              refine AllReadyH.cons (o := ⟨none, _, _, _, _, _⟩) rfl (fun K hK => ?_) AllReadyH.nil
              refine if_yes rfl ?_
              refine wp_store_row 31 (.tmp 5) (.tmp 28) rfl (gz) #[.int .u32 (v1 0), .int .u32 (v1 1), .int .u32 (v1 2), .int .u32 (v1 3), .int .u32 (v1 4), .int .u32 (v1 5), .int .u32 (v1 6), .int .u32 (v1 7), .slice alr n1 capr] rfl rfl 31 _ HZ.out (by kernel_rfl) rfl (cut_one _ _ _ _) ?_
              refine hK.out _ _ (HS.out.row HZ.out HG.out.1 HG.out.2 _) (fun _ => ?_)
              clear hK K
              try simp only [Act.put, List.setIfInBounds_toArray, List.set_cons_zero, List.set_cons_succ]
              have HS := Lib.hid (HS.out.row HZ.out HG.out.1 HG.out.2 #[.int .u32 (v1 0), .int .u32 (v1 1), .int .u32 (v1 2), .int .u32 (v1 3), .int .u32 (v1 4), .int .u32 (v1 5), .int .u32 (v1 6), .int .u32 (v1 7), .slice alr n1 capr])
              refine wpAnyH_take (i := 12) (oi := ⟨some 6, _, _, _, _, _⟩) (v := ?_) rfl (by kernel_rfl) (by kernel_rfl) (by kernel_rfl) (fun _ _ _ h => h) (Or.inl ⟨by rfl, ?_⟩) HS.out ?_
              rotate_left
              · intro w' hSw; clear hSw; go_simp; try (with_reducible rfl)
              try simp only [Act.put, List.setIfInBounds_toArray, List.set_cons_zero, List.set_cons_succ]
              refine wpAnyH_done (by kernel_rfl) ?_ _
              go_wp2_with fail
              go_meet
              exact ⟨gz, alr, capr, rfl, rfl, HFR.out, (HS.out.put (setRow_heap _ _ _ #[.int .u32 (v1 0), .int .u32 (v1 1), .int .u32 (v1 2), .int .u32 (v1 3), .int .u32 (v1 4), .int .u32 (v1 5), .int .u32 (v1 6), .int .u32 (v1 7), .slice alr n1 capr] _ _ HZ.out)).add (ids_rowC HIR.out HZ.out _)⟩
          · go_simp
            have HG := Lib.hid (KS.ne HS.out)
            refine hK.out _ _ (HS.out.alloc _) (fun _ => ?_)
            clear hK K
            try simp only [Act.put, List.setIfInBounds_toArray, List.set_cons_zero, List.set_cons_succ]
            have HZ := Lib.hid (blk_newS (W := wr) (.cells #[] 29) #[.int .u32 0, .int .u32 0, .int .u32 0, .int .u32 0, .int .u32 0, .int .u32 0, .int .u32 0, .int .u32 0, .slice none 0 0] 31)
            have HS := Lib.hid (HS.out.alloc (.cells #[.int .u32 0, .int .u32 0, .int .u32 0, .int .u32 0, .int .u32 0, .int .u32 0, .int .u32 0, .int .u32 0, .slice none 0 0] 31))
            have HB0 := Lib.hid (HB0.out.alloc HB0.out.size (.cells #[.int .u32 0, .int .u32 0, .int .u32 0, .int .u32 0, .int .u32 0, .int .u32 0, .int .u32 0, .int .u32 0, .slice none 0 0] 31))
            have HO := Lib.hid (HO.out.alloc (.cells #[.int .u32 0, .int .u32 0, .int .u32 0, .int .u32 0, .int .u32 0, .int .u32 0, .int .u32 0, .int .u32 0, .slice none 0 0] 31))
            have HG := Lib.hid (show (∀ x, x ∈ ([(w.heap.size, #[.int .u32 (a 0), .int .u32 (a 1), .int .u32 (a 2), .int .u32 (a 3), .int .u32 (a 4), .int .u32 (a 5), .int .u32 (a 6), .int .u32 (a 7), .slice al len cap], 27)] : List Bx) → x.1 ≠ wr.heap.size + 1) ∧ w.heap.size ≤ wr.heap.size + 1 from by simpa using HG.out)
            refine wpAnyH_ready (rs := [5]) (by kernel_rfl) (by simp) ?_
            refine AllReadyH.cons (o := ⟨some 26, _, _, _, _, _⟩) rfl (fun K hK => ?_) AllReadyH.nil
            refine if_yes rfl ?_
            refine wp_append_list (.tmp 23) (.tmp 25) rfl wr.heap.size ti hi hz0 hz1 hz2 _ _ [] rfl HO.out al len cap L rfl (HS.out.ids 0 rfl) (by omega) HB0.out.size ?_
            intro va wa hoa hga
            have hba : Below wr.heap.size wr wa := HB0.out.grown hga HB0.out.size (fun k hk => own_base HO.out k hk)
            have HZ : Hid (Blk wa (wr.heap.size + 1) #[.int .u32 0, .int .u32 0, .int .u32 0, .int .u32 0, .int .u32 0, .int .u32 0, .int .u32 0, .int .u32 0, .slice none 0 0] 31) := Lib.hid ((hga.block _ (by simp) (lit_block (by simp))).trans HZ.out)
            obtain ⟨ala, capa, rfl, hIa, hFa⟩ := app_got hoa
            have HIa := Lib.hid hIa
            have HS := Lib.hid (HS0.out.next hba)
            clear hoa hga hba hIa HO HB0
            refine hK.out _ _ HS.out (fun _ => ?_)
            clear hK K
            try simp only [Act.put, List.setIfInBounds_toArray, List.set_cons_zero, List.set_cons_succ]
            refine wpAnyH_ready (rs := [6]) (by kernel_rfl) (by simp) ?_
            refine AllReadyH.cons (o := ⟨some 27, _, _, _, _, _⟩) rfl (fun K hK => ?_) AllReadyH.nil
            go_simp
            go_at_call 9
            have hmk := cMake_cut a ala len capa L _ HIa.out hFa HIN.out
            rw [HV1.out, HS1.out, HC1.out, HN1.out] at hmk
            refine hmk.mono ?_
            clear hmk
            rintro e wm ⟨alr, capr, rfl, hIr, hFr, bm⟩
            have HIR := Lib.hid hIr
            have HFR := Lib.hid hFr
            have HZ := Lib.hid (HZ.out.below bm)
            have HS := Lib.hid (HS.out.next bm)
            clear bm hIr hFr HIa
            go_wp2_with fail
            refine hK.out _ _ HS.out (fun _ => ?_)
            clear hK K
            try simp only [Act.put, List.setIfInBounds_toArray, List.set_cons_zero, List.set_cons_succ]
            refine wpAnyH_take (i := 7) (oi := ⟨some 20, _, _, _, _, _⟩) (v := ?_) rfl (by kernel_rfl) (by kernel_rfl) (by kernel_rfl) (fun _ _ _ h => h) (Or.inl ⟨by rfl, ?_⟩) HS.out ?_
            rotate_left
            · intro w' hSw; clear hSw; go_simp; try (with_reducible rfl)
            try simp only [Act.put, List.setIfInBounds_toArray, List.set_cons_zero, List.set_cons_succ]
            refine wpAnyH_take (i := 8) (oi := ⟨some 28, _, _, _, _, _⟩) (v := ?_) rfl (by kernel_rfl) (by kernel_rfl) (by kernel_rfl) (fun _ _ _ h => h) (Or.inl ⟨by rfl, ?_⟩) HS.out ?_
            rotate_left
            · intro w' hSw; clear hSw; go_simp; try (with_reducible rfl)
            try simp only [Act.put, List.setIfInBounds_toArray, List.set_cons_zero, List.set_cons_succ]
            refine wpAnyH_take (i := 9) (oi := ⟨some 29, _, _, _, _, _⟩) (v := ?_) rfl (by kernel_rfl) (by kernel_rfl) (by kernel_rfl) (fun _ _ _ h => h) (Or.inl ⟨by rfl, ?_⟩) HS.out ?_
            rotate_left
            · intro w' hSw; clear hSw; go_simp; try (with_reducible rfl)
            try simp only [Act.put, List.setIfInBounds_toArray, List.set_cons_zero, List.set_cons_succ]
            refine wpAnyH_ready (rs := [11]) (by kernel_rfl) (by simp) ?_
            refine AllReadyH.cons (o := ⟨none, _, _, _, _, _⟩) rfl (fun K hK => ?_) AllReadyH.nil
            refine if_yes rfl ?_
            refine wp_store_row 31 (.tmp 5) (.tmp 28) rfl ((wr.heap.size + 1)) #[.int .u32 (v1 0), .int .u32 (v1 1), .int .u32 (v1 2), .int .u32 (v1 3), .int .u32 (v1 4), .int .u32 (v1 5), .int .u32 (v1 6), .int .u32 (v1 7), .slice alr n1 capr] rfl rfl 31 _ HZ.out (by kernel_rfl) rfl (cut_one _ _ _ _) ?_
            refine hK.out _ _ (HS.out.row HZ.out HG.out.1 HG.out.2 _) (fun _ => ?_)
            clear hK K
            try simp only [Act.put, List.setIfInBounds_toArray, List.set_cons_zero, List.set_cons_succ]
            have HS := Lib.hid (HS.out.row HZ.out HG.out.1 HG.out.2 #[.int .u32 (v1 0), .int .u32 (v1 1), .int .u32 (v1 2), .int .u32 (v1 3), .int .u32 (v1 4), .int .u32 (v1 5), .int .u32 (v1 6), .int .u32 (v1 7), .slice alr n1 capr])
            refine wpAnyH_take (i := 12) (oi := ⟨some 6, _, _, _, _, _⟩) (v := ?_) rfl (by kernel_rfl) (by kernel_rfl) (by kernel_rfl) (fun _ _ _ h => h) (Or.inl ⟨by rfl, ?_⟩) HS.out ?_
            rotate_left
            · intro w' hSw; clear hSw; go_simp; try (with_reducible rfl)
            try simp only [Act.put, List.setIfInBounds_toArray, List.set_cons_zero, List.set_cons_succ]
            refine wpAnyH_done (by kernel_rfl) ?_ _
            go_wp2_with fail
            go_meet
            exact ⟨(wr.heap.size + 1), alr, capr, rfl, rfl, HFR.out, (HS.out.put (setRow_heap _ _ _ #[.int .u32 (v1 0), .int .u32 (v1 1), .int .u32 (v1 2), .int .u32 (v1 3), .int .u32 (v1 4), .int .u32 (v1 5), .int .u32 (v1 6), .int .u32 (v1 7), .slice alr n1 capr] _ _ HZ.out)).add (ids_rowC HIR.out HZ.out _)⟩
        · go_simp
          have HG := Lib.hid (KS.ne HS.out)
          refine hK.out _ _ (HS.out.alloc _) (fun _ => ?_)
          clear hK K
          try simp only [Act.put, List.setIfInBounds_toArray, List.set_cons_zero, List.set_cons_succ]
          have HZ := Lib.hid (Blk.new wr #[.int .u32 0, .int .u32 0, .int .u32 0, .int .u32 0, .int .u32 0, .int .u32 0, .int .u32 0, .int .u32 0, .slice none 0 0] 31)
          have HS := Lib.hid (HS.out.alloc (.cells #[.int .u32 0, .int .u32 0, .int .u32 0, .int .u32 0, .int .u32 0, .int .u32 0, .int .u32 0, .int .u32 0, .slice none 0 0] 31))
          have HGL := Lib.hid HZ.out.lt
          generalize hgz : wr.heap.size = gz at HG HZ HGL ⊢
          generalize wr.alloc (.cells #[.int .u32 0, .int .u32 0, .int .u32 0, .int .u32 0, .int .u32 0, .int .u32 0, .int .u32 0, .int .u32 0, .slice none 0 0] 31) = wz1 at HS HZ HGL ⊢
          clear hgz
          refine wpAnyH_ready (rs := [2]) (by kernel_rfl) (by simp) ?_
          refine AllReadyH.cons (o := ⟨some 23, _, _, _, _, _⟩) rfl (fun K hK => ?_) AllReadyH.nil
          go_simp
          have HS0 := HS
          have HB0 := Lib.hid ((Below.refl wz1.heap.size wz1).alloc (Nat.le_refl _) (.cells #[] 29))
          refine hK.out _ _ (HS.out.alloc _) (fun _ => ?_)
          clear hK K
          try simp only [Act.put, List.setIfInBounds_toArray, List.set_cons_zero, List.set_cons_succ]
          have HO := Lib.hid (lit_own wz1)
          have HS := Lib.hid (HS.out.alloc (.cells #[] 29))
          have HZ0 := HZ
          refine wpAnyH_ready (rs := [5]) (by kernel_rfl) (by simp) ?_
          refine AllReadyH.cons (o := ⟨some 26, _, _, _, _, _⟩) rfl (fun K hK => ?_) AllReadyH.nil
          refine if_yes rfl ?_
          refine wp_append_list (.tmp 23) (.tmp 25) rfl wz1.heap.size ti hi hz0 hz1 hz2 _ _ [] rfl HO.out al len cap L rfl (HS.out.ids 0 rfl) (by omega) HB0.out.size ?_
          intro va wa hoa hga
          have hba : Below wz1.heap.size wz1 wa := HB0.out.grown hga HB0.out.size (fun k hk => own_base HO.out k hk)
          have HZ := Lib.hid (HZ0.out.below hba)
          obtain ⟨ala, capa, rfl, hIa, hFa⟩ := app_got hoa
          have HIa := Lib.hid hIa
          have HS := Lib.hid (HS0.out.next hba)
          clear hoa hga hba hIa HO HB0
          refine hK.out _ _ HS.out (fun _ => ?_)
          clear hK K
          try simp only [Act.put, List.setIfInBounds_toArray, List.set_cons_zero, List.set_cons_succ]
          refine wpAnyH_ready (rs := [6]) (by kernel_rfl) (by simp) ?_
          refine AllReadyH.cons (o := ⟨some 27, _, _, _, _, _⟩) rfl (fun K hK => ?_) AllReadyH.nil
          go_simp
          go_at_call 9
          have hmk := cMake_cut a ala len capa L _ HIa.out hFa HIN.out
          rw [HV1.out, HS1.out, HC1.out, HN1.out] at hmk
          refine hmk.mono ?_
          clear hmk
          rintro e wm ⟨alr, capr, rfl, hIr, hFr, bm⟩
          have HIR := Lib.hid hIr
          have HFR := Lib.hid hFr
          have HZ := Lib.hid (HZ.out.below bm)
          have HS := Lib.hid (HS.out.next bm)
          clear bm hIr hFr HIa
          go_wp2_with fail
          refine hK.out _ _ HS.out (fun _ => ?_)
          clear hK K
          try simp only [Act.put, List.setIfInBounds_toArray, List.set_cons_zero, List.set_cons_succ]
          refine wpAnyH_take (i := 7) (oi := ⟨some 20, _, _, _, _, _⟩) (v := ?_) rfl (by kernel_rfl) (by kernel_rfl) (by kernel_rfl) (fun _ _ _ h => h) (Or.inl ⟨by rfl, ?_⟩) HS.out ?_
          rotate_left
          · intro w' hSw; clear hSw; go_simp; try (with_reducible rfl)
          try simp only [Act.put, List.setIfInBounds_toArray, List.set_cons_zero, List.set_cons_succ]
          refine wpAnyH_take (i := 8) (oi := ⟨some 28, _, _, _, _, _⟩) (v := ?_) rfl (by kernel_rfl) (by kernel_rfl) (by kernel_rfl) (fun _ _ _ h => h) (Or.inl ⟨by rfl, ?_⟩) HS.out ?_
          rotate_left
          · intro w' hSw; clear hSw; go_simp; try (with_reducible rfl)
          try simp only [Act.put, List.setIfInBounds_toArray, List.set_cons_zero, List.set_cons_succ]
          refine wpAnyH_take (i := 9) (oi := ⟨some 29, _, _, _, _, _⟩) (v := ?_) rfl (by kernel_rfl) (by kernel_rfl) (by kernel_rfl) (fun _ _ _ h => h) (Or.inl ⟨by rfl, ?_⟩) HS.out ?_
          rotate_left
          · intro w' hSw; clear hSw; go_simp; try (with_reducible rfl)
          try simp only [Act.put, List.setIfInBounds_toArray, List.set_cons_zero, List.set_cons_succ]
          refine wpAnyH_ready (rs := [11]) (by kernel_rfl) (by simp) ?_
          refine AllReadyH.cons (o := ⟨none, _, _, _, _, _⟩) rfl (fun K hK => ?_) AllReadyH.nil
          refine if_yes rfl ?_
          refine wp_store_row 31 (.tmp 5) (.tmp 28) rfl (gz) #[.int .u32 (v1 0), .int .u32 (v1 1), .int .u32 (v1 2), .int .u32 (v1 3), .int .u32 (v1 4), .int .u32 (v1 5), .int .u32 (v1 6), .int .u32 (v1 7), .slice alr n1 capr] rfl rfl 31 _ HZ.out (by kernel_rfl) rfl (cut_one _ _ _ _) ?_
          refine hK.out _ _ (HS.out.row HZ.out HG.out.1 HG.out.2 _) (fun _ => ?_)
          clear hK K
          try simp only [Act.put, List.setIfInBounds_toArray, List.set_cons_zero, List.set_cons_succ]
          have HS := Lib.hid (HS.out.row HZ.out HG.out.1 HG.out.2 #[.int .u32 (v1 0), .int .u32 (v1 1), .int .u32 (v1 2), .int .u32 (v1 3), .int .u32 (v1 4), .int .u32 (v1 5), .int .u32 (v1 6), .int .u32 (v1 7), .slice alr n1 capr])
          refine wpAnyH_take (i := 12) (oi := ⟨some 6, _, _, _, _, _⟩) (v := ?_) rfl (by kernel_rfl) (by kernel_rfl) (by kernel_rfl) (fun _ _ _ h => h) (Or.inl ⟨by rfl, ?_⟩) HS.out ?_
          rotate_left
          · intro w' hSw; clear hSw; go_simp; try (with_reducible rfl)
          try simp only [Act.put, List.setIfInBounds_toArray, List.set_cons_zero, List.set_cons_succ]
          refine wpAnyH_done (by kernel_rfl) ?_ _
          go_wp2_with fail
          go_meet
          exact ⟨gz, alr, capr, rfl, rfl, HFR.out, (HS.out.put (setRow_heap _ _ _ #[.int .u32 (v1 0), .int .u32 (v1 1), .int .u32 (v1 2), .int .u32 (v1 3), .int .u32 (v1 4), .int .u32 (v1 5), .int .u32 (v1 6), .int .u32 (v1 7), .slice alr n1 capr] _ _ HZ.out)).add (ids_rowC HIR.out HZ.out _)⟩
      case rest =>
        obtain ⟨g1, al1, cap1, rfl, rfl, hF1, hks1⟩ := hcut
        have HK1 := Lib.hid hks1
        clear hks1 H2
        by_cases hz1 : c1 = 0
        case neg =>
          have hn : (c1 != 0) = true := by simpa using hz1
          clear hz1
          go_wp2
          go_ret
          exact ⟨rfl, HK1.out.bel⟩
        case pos =>
          subst hz1
          have i1 := cm_in L HIN.out
          have k1 := (ckC_iff i1).2 (cm_is HIN.out HC1.out)
          rw [HV1.out] at i1
          rw [HV1.out, HS1.out] at k1
          have hsz := cwS_size i1 k1
          have hbc := back_cut t i1 k1
          have hsw : cwS v1 S1 = writeV v1 ++ wrS S1 := by unfold cwS; rw [if_pos k1]
          have hzs := app_size (writeV v1 ++ wrS S1) t
          have J1 := Lib.hid i1; have K1 := Lib.hid k1
          clear i1 k1
          have hwr := cWrite_any v1 al1 n1 cap1 S1 _ (HK1.out.ids 0 rfl) hF1 J1.out
          rw [hsw, K1.out] at hwr
          generalize writeV v1 ++ wrS S1 = sW at hwr hsz hbc hzs
          generalize hZZ : sW ++ t = Z at hbc hzs
          have HZZ := Lib.hid hZZ
          have HBC := Lib.hid hbc
          have HZS := Lib.hid hzs
          clear hsw hbc hzs hZZ
          obtain ⟨p1_0, p1_1, p1_2, p1_3, p1_4, p1_5, p1_6, p1_7, p1_8⟩ := cut_cells (HK1.out.blk 0 rfl)
          go_wp2_with fail
          refine hwr.mono ?_
          clear hwr
          rintro e w5 ⟨rfl, b5⟩
          have H5 := Lib.hid (HK1.out.next b5)
          clear b5 p1_0 p1_1 p1_2 p1_3 p1_4 p1_5 p1_6 p1_7 p1_8
          go_wp2_with fail
          rw [HZZ.out]
          refine (new_any Z _).mono ?_
          rintro e w6 ⟨rfl, rfl⟩
          have hba := (Below.refl w5.heap.size w5).alloc (Nat.le_refl _) (.cells #[.string Z, .int .i64 0, .int .i64 0] 82)
          have HR := Lib.hid (show Rdr (w5.alloc (.cells #[.string Z, .int .i64 0, .int .i64 0] 82)) w5.heap.size Z 0 0 from Blk.new _ _ _)
          have H6 := Lib.hid (H5.out.next hba)
          have hwr5 := H5.out.bel.size
          have hgr : g1 < w5.heap.size := (H5.out.blk 0 rfl).lt
          clear hba
          generalize hww : w5.alloc (.cells #[.string Z, .int .i64 0, .int .i64 0] 82) = w6 at HR H6 ⊢
          clear hww
          generalize w5.heap.size = rr at HR hwr5 hgr ⊢
          go_wp2_with fail
          refine wp_region_held_drew (S := fun w' => Blk w' g1 #[.int .u32 (v1 0), .int .u32 (v1 1), .int .u32 (v1 2), .int .u32 (v1 3), .int .u32 (v1 4), .int .u32 (v1 5), .int .u32 (v1 6), .int .u32 (v1 7), .slice al1 n1 cap1] 31) (by kernel_rfl) (H6.out.drew.blk 0 rfl) (fun _ => ?_)
          have HS := Lib.hid (H6.out.drew.blk 0 rfl)
          have HB := Lib.hid H6.out.drew.bel
          have HI := Lib.hid (H6.out.drew.ids 0 rfl)
          have HR : Hid (Rdr w6.drew rr Z 0 0) := Lib.hid (Blk.drew1 HR.out)
          generalize w6.drew = wr at HS HB HI HR ⊢
          refine wpAnyH_take (i := 0) (oi := ⟨some 41, _, _, _, _, _⟩) (v := ?_) rfl (by kernel_rfl) (by kernel_rfl) (by kernel_rfl) (fun _ _ _ h => h) (Or.inl ⟨by rfl, ?_⟩) HS.out ?_
          rotate_left
          · intro w' hSw; clear hSw; go_simp; try (with_reducible rfl)
          try simp only [Act.put, List.setIfInBounds_toArray, List.set_cons_zero, List.set_cons_succ]
          refine wpAnyH_take (i := 1) (oi := ⟨some 42, _, _, _, _, _⟩) (v := ?_) rfl (by kernel_rfl) (by kernel_rfl) (by kernel_rfl) (fun _ _ _ h => h) (Or.inl ⟨by rfl, ?_⟩) HS.out ?_
          rotate_left
          · intro w' hSw; clear hSw; go_simp; try (with_reducible rfl)
          try simp only [Act.put, List.setIfInBounds_toArray, List.set_cons_zero, List.set_cons_succ]
          refine wpAnyH_take (i := 2) (oi := ⟨some 43, _, _, _, _, _⟩) (v := ?_) rfl (by kernel_rfl) (by kernel_rfl) (by kernel_rfl) (fun _ _ _ h => h) (Or.inl ⟨by rfl, ?_⟩) HS.out ?_
          rotate_left
          · intro w' hSw; clear hSw; go_simp; try (with_reducible rfl)
          try simp only [Act.put, List.setIfInBounds_toArray, List.set_cons_zero, List.set_cons_succ]
          refine wpAnyH_take (i := 3) (oi := ⟨some 44, _, _, _, _, _⟩) (v := ?_) rfl (by kernel_rfl) (by kernel_rfl) (by kernel_rfl) (fun _ _ _ h => h) (Or.inl ⟨by rfl, ?_⟩) HS.out ?_
          rotate_left
          · intro w' hSw; clear hSw; go_simp; try (with_reducible rfl)
          try simp only [Act.put, List.setIfInBounds_toArray, List.set_cons_zero, List.set_cons_succ]
          refine wpAnyH_take (i := 5) (oi := ⟨some 46, _, _, _, _, _⟩) (v := ?_) rfl (by kernel_rfl) (by kernel_rfl) (by kernel_rfl) (fun _ _ _ h => h) (Or.inl ⟨by rfl, ?_⟩) HS.out ?_
          rotate_left
          · intro w' hSw; obtain ⟨p_0, p_1, p_2, p_3, p_4, p_5, p_6, p_7, p_8⟩ := cut_cells hSw; go_simp; try (with_reducible rfl)
          try simp only [Act.put, List.setIfInBounds_toArray, List.set_cons_zero, List.set_cons_succ]
          refine wpAnyH_ready (rs := [4]) (by kernel_rfl) (by simp) ?_
          refine AllReadyH.cons (o := ⟨some 45, _, _, _, _, _⟩) rfl (fun K hK => ?_) AllReadyH.nil
          go_simp
          go_at_call 29
          have hrr := cRead_any rr 0 Z 0 _ HR.out (Nat.zero_le _) (by have := HZS.out; omega)
          obtain ⟨z1, z2, z3, z4⟩ := HBC.out
          rw [z1, z2, z3, z4 0 (by omega), z4 1 (by omega), z4 2 (by omega), z4 3 (by omega), z4 4 (by omega), z4 5 (by omega), z4 6 (by omega), z4 7 (by omega), HN1.out] at hrr
          clear z1 z2 z3 z4
          refine hrr.mono ?_
          clear hrr
          rintro e w7 ⟨alr, capr, rfl, hIr, hFr, hr7, ho7⟩
          have HI := Lib.hid (ids_only HI.out HR.out ho7)
          have HS := Lib.hid (HS.out.only ho7 (by omega))
          have HB := Lib.hid (Only.below HB.out ho7 hwr5 HB.out.size)
          have HIr := Lib.hid hIr
          have HR := Lib.hid hr7
          clear hIr hr7 ho7 hFr
          go_wp2_with fail
          refine hK.out _ _ HS.out (fun _ => ?_)
          clear hK K
          try simp only [Act.put, List.setIfInBounds_toArray, List.set_cons_zero, List.set_cons_succ]
          refine wpAnyH_ready (rs := [6]) (by kernel_rfl) (by simp) ?_
          refine AllReadyH.cons (o := ⟨some 47, _, _, _, _, _⟩) rfl (fun K hK => ?_) AllReadyH.nil
          go_simp
          go_at_call 25
          have hsm := cSame_cut v1 v1 alr al1 n1 capr n1 cap1 S1 S1 _ HIr.out HI.out
          rw [eqC_self] at hsm
          refine hsm.mono ?_
          clear hsm
          rintro e w8 ⟨rfl, b8⟩
          have HS := Lib.hid (Blk.below HS.out b8)
          have HB := Lib.hid (below_then HB.out b8)
          have HR := Lib.hid (Blk.below HR.out b8)
          clear b8
          go_wp2_with fail
          refine hK.out _ _ HS.out (fun _ => ?_)
          clear hK K
          try simp only [Act.put, List.setIfInBounds_toArray, List.set_cons_zero, List.set_cons_succ]
          refine wpAnyH_take (i := 7) (oi := ⟨some 48, _, _, _, _, _⟩) (v := ?_) rfl (by kernel_rfl) (by kernel_rfl) (by kernel_rfl) (fun _ _ _ h => h) (Or.inl ⟨by rfl, ?_⟩) HS.out ?_
          rotate_left
          · intro w' hSw; clear hSw; go_simp; try (with_reducible rfl)
          try simp only [Act.put, List.setIfInBounds_toArray, List.set_cons_zero, List.set_cons_succ]
          refine wpAnyH_take (i := 8) (oi := ⟨some 49, _, _, _, _, _⟩) (v := ?_) rfl (by kernel_rfl) (by kernel_rfl) (by kernel_rfl) (fun _ _ _ h => h) (Or.inl ⟨by rfl, ?_⟩) HS.out ?_
          rotate_left
          · intro w' hSw; clear hSw; go_simp; try (with_reducible rfl)
          try simp only [Act.put, List.setIfInBounds_toArray, List.set_cons_zero, List.set_cons_succ]
          refine wpAnyH_take (i := 9) (oi := ⟨some 50, _, _, _, _, _⟩) (v := ?_) rfl (by kernel_rfl) (by kernel_rfl) (by kernel_rfl) (fun _ _ _ h => h) (Or.inl ⟨by rfl, ?_⟩) HS.out ?_
          rotate_left
          · intro w' hSw; clear hSw; go_simp; try (with_reducible rfl)
          try simp only [Act.put, List.setIfInBounds_toArray, List.set_cons_zero, List.set_cons_succ]
          refine wpAnyH_take (i := 11) (oi := ⟨some 52, _, _, _, _, _⟩) (v := ?_) rfl (by kernel_rfl) (by kernel_rfl) (by kernel_rfl) (fun _ _ _ h => h) (Or.inl ⟨by rfl, ?_⟩) HS.out ?_
          rotate_left
          · intro w' hSw; clear hSw; go_simp; try (with_reducible rfl)
          try simp only [Act.put, List.setIfInBounds_toArray, List.set_cons_zero, List.set_cons_succ]
          refine wpAnyH_take (i := 12) (oi := ⟨some 53, _, _, _, _, _⟩) (v := ?_) rfl (by kernel_rfl) (by kernel_rfl) (by kernel_rfl) (fun _ _ _ h => h) (Or.inl ⟨by rfl, ?_⟩) HS.out ?_
          rotate_left
          · intro w' hSw; clear hSw; go_simp; try (with_reducible rfl)
          try simp only [Act.put, List.setIfInBounds_toArray, List.set_cons_zero, List.set_cons_succ]
          refine wpAnyH_ready (rs := [10]) (by kernel_rfl) (by simp) ?_
          refine AllReadyH.cons (o := ⟨some 51, _, _, _, _, _⟩) rfl (fun K hK => ?_) AllReadyH.nil
          go_simp
          go_at_call 30
          refine (left_any rr sW.size Z 0 _ HR.out (by have := HZS.out; omega) (by have := HZS.out; omega)).mono ?_
          rw [show ((Z.size : Int) - sW.size) = t.size by have := HZS.out; omega]
          rintro e w9 ⟨rfl, nd, rfl⟩
          have HS := Lib.hid (HS.out.drewN nd)
          have HB := Lib.hid (below_drewN HB.out nd)
          have HR : Hid (Rdr (w8.drewN nd) rr Z sW.size 0) := Lib.hid (Blk.drewN HR.out nd)
          generalize w8.drewN nd = w9 at HS HB HR ⊢
          go_wp2_with fail
          refine hK.out _ _ HS.out (fun _ => ?_)
          clear hK K
          try simp only [Act.put, List.setIfInBounds_toArray, List.set_cons_zero, List.set_cons_succ]
          refine wpAnyH_take (i := 13) (oi := ⟨some 54, _, _, _, _, _⟩) (v := ?_) rfl (by kernel_rfl) (by kernel_rfl) (by kernel_rfl) (fun _ _ _ h => h) (Or.inl ⟨by rfl, ?_⟩) HS.out ?_
          rotate_left
          · intro w' hSw; clear hSw; go_simp; try (with_reducible rfl)
          try simp only [Act.put, List.setIfInBounds_toArray, List.set_cons_zero, List.set_cons_succ]
          refine wpAnyH_take (i := 14) (oi := ⟨some 55, _, _, _, _, _⟩) (v := ?_) rfl (by kernel_rfl) (by kernel_rfl) (by kernel_rfl) (fun _ _ _ h => h) (Or.inl ⟨by rfl, ?_⟩) HS.out ?_
          rotate_left
          · intro w' hSw; clear hSw; go_simp; try (with_reducible rfl)
          try simp only [Act.put, List.setIfInBounds_toArray, List.set_cons_zero, List.set_cons_succ]
          refine wpAnyH_take (i := 15) (oi := ⟨some 56, _, _, _, _, _⟩) (v := ?_) rfl (by kernel_rfl) (by kernel_rfl) (by kernel_rfl) (fun _ _ _ h => h) (Or.inl ⟨by rfl, ?_⟩) HS.out ?_
          rotate_left
          · intro w' hSw; clear hSw; go_simp; try (with_reducible rfl)
          try simp only [Act.put, List.setIfInBounds_toArray, List.set_cons_zero, List.set_cons_succ]
          refine wpAnyH_take (i := 16) (oi := ⟨some 57, _, _, _, _, _⟩) (v := ?_) rfl (by kernel_rfl) (by kernel_rfl) (by kernel_rfl) (fun _ _ _ h => h) (Or.inl ⟨by rfl, ?_⟩) HS.out ?_
          rotate_left
          · intro w' hSw; clear hSw; go_simp; try (with_reducible rfl)
          try simp only [Act.put, List.setIfInBounds_toArray, List.set_cons_zero, List.set_cons_succ]
          refine wpAnyH_ready (rs := [17]) (by kernel_rfl) (by simp) ?_
          refine AllReadyH.cons (o := ⟨some 58, _, _, _, _, _⟩) rfl (fun K hK => ?_) AllReadyH.nil
          go_simp
          go_at_call 31
          refine (err_none rr sW.size Z _ HR.out).mono ?_
          rintro e wx ⟨rfl, rfl⟩
          go_wp2_with fail
          refine hK.out _ _ HS.out (fun _ => ?_)
          clear hK K
          try simp only [Act.put, List.setIfInBounds_toArray, List.set_cons_zero, List.set_cons_succ]
          refine wpAnyH_take (i := 18) (oi := ⟨some 59, _, _, _, _, _⟩) (v := ?_) rfl (by kernel_rfl) (by kernel_rfl) (by kernel_rfl) (fun _ _ _ h => h) (Or.inl ⟨by rfl, ?_⟩) HS.out ?_
          rotate_left
          · intro w' hSw; clear hSw; go_simp; try (with_reducible rfl)
          try simp only [Act.put, List.setIfInBounds_toArray, List.set_cons_zero, List.set_cons_succ]
          refine wpAnyH_take (i := 19) (oi := ⟨some 60, _, _, _, _, _⟩) (v := ?_) rfl (by kernel_rfl) (by kernel_rfl) (by kernel_rfl) (fun _ _ _ h => h) (Or.inl ⟨by rfl, ?_⟩) HS.out ?_
          rotate_left
          · intro w' hSw; clear hSw; go_simp; try (with_reducible rfl)
          try simp only [Act.put, List.setIfInBounds_toArray, List.set_cons_zero, List.set_cons_succ]
          refine wpAnyH_take (i := 20) (oi := ⟨some 4, _, _, _, _, _⟩) (v := ?_) rfl (by kernel_rfl) (by kernel_rfl) (by kernel_rfl) (fun _ _ _ h => h) (Or.inl ⟨by rfl, ?_⟩) HS.out ?_
          rotate_left
          · intro w' hSw; clear hSw; go_simp; try (with_reducible rfl)
          try simp only [Act.put, List.setIfInBounds_toArray, List.set_cons_zero, List.set_cons_succ]
          refine wpAnyH_done (by kernel_rfl) ?_ _
          go_wp2_with fail
          go_ret
          exact ⟨rfl, HB.out⟩
end Go.Proofs.Ythbdjgebpjffgaa

/-
  A cut that came in by value.
  Conditions: none.
-/

namespace Go.Proofs.Ythbdjgebpjffgaa
open Go.ChangeShapes Go.WideShapes Go.ChangeAt Go.RowKit Go.Shelf Go.Lib Go.Sort Go.Deep

theorem cut9Cells : Try.prog.cellsOf 27 = 9 := by kernel_rfl
theorem slice1Cells : Try.prog.cellsOf 25 = 1 := by kernel_rfl
theorem array9 {α : Type} {cs : Array α} (h : cs.size = 9) : ∃ c0 c1 c2 c3 c4 c5 c6 c7 c8, cs = #[c0, c1, c2, c3, c4, c5, c6, c7, c8] := by
  obtain ⟨l⟩ := cs
  match l, h with
  | [c0, c1, c2, c3, c4, c5, c6, c7, c8], _ => exact ⟨c0, c1, c2, c3, c4, c5, c6, c7, c8, rfl⟩
section
variable {H : Type} {enc : TypeId × Value → H} {w : World} {base : Nat} {sp : Nat → Bool} {hd : Bool}
set_option maxRecDepth 100000 in
theorem vec_trod {fuel : Nat} {c0 c1 c2 c3 c4 c5 c6 c7 : Value} {z : DataW H × List MemPlace} (hf : DataW.trod enc Try.prog w base sp hd fuel 24 [c0, c1, c2, c3, c4, c5, c6, c7] = some z) :
    ∃ x : Nat → Int, c0 = .int .u32 (x 0) ∧ c1 = .int .u32 (x 1) ∧ c2 = .int .u32 (x 2) ∧ c3 = .int .u32 (x 3) ∧ c4 = .int .u32 (x 4) ∧ c5 = .int .u32 (x 5) ∧ c6 = .int .u32 (x 6) ∧ c7 = .int .u32 (x 7) ∧ ∀ i, i < 8 → (Lit.int .u32 (x i)).wf = true := by
  obtain ⟨xs, m, _, hx, _, hn, hi⟩ := DataW.trod_array Try.underlying24 hf
  obtain ⟨y0, y1, y2, y3, y4, y5, y6, y7, hxs⟩ := array8 (cs := xs.toArray) (by simpa using hn)
  obtain rfl : xs = [y0, y1, y2, y3, y4, y5, y6, y7] := by simpa using congrArg Array.toList hxs
  have g0 := hi 0 (by omega)
  have g1 := hi 1 (by omega)
  have g2 := hi 2 (by omega)
  have g3 := hi 3 (by omega)
  have g4 := hi 4 (by omega)
  have g5 := hi 5 (by omega)
  have g6 := hi 6 (by omega)
  have g7 := hi 7 (by omega)
  simp only [u321Cells, List.drop_zero, List.drop_succ_cons, List.take_succ_cons, List.take_zero, Nat.mul_one, List.getElem?_cons_zero, List.getElem?_cons_succ] at g0 g1 g2 g3 g4 g5 g6 g7
  obtain ⟨z0, e0, k0, w0⟩ := DataW.trod_int Try.underlying22 g0
  obtain ⟨z1, e1, k1, w1⟩ := DataW.trod_int Try.underlying22 g1
  obtain ⟨z2, e2, k2, w2⟩ := DataW.trod_int Try.underlying22 g2
  obtain ⟨z3, e3, k3, w3⟩ := DataW.trod_int Try.underlying22 g3
  obtain ⟨z4, e4, k4, w4⟩ := DataW.trod_int Try.underlying22 g4
  obtain ⟨z5, e5, k5, w5⟩ := DataW.trod_int Try.underlying22 g5
  obtain ⟨z6, e6, k6, w6⟩ := DataW.trod_int Try.underlying22 g6
  obtain ⟨z7, e7, k7, w7⟩ := DataW.trod_int Try.underlying22 g7
  refine ⟨fun8 z0 z1 z2 z3 z4 z5 z6 z7, (List.cons.inj e0).1, (List.cons.inj e1).1, (List.cons.inj e2).1, (List.cons.inj e3).1, (List.cons.inj e4).1, (List.cons.inj e5).1, (List.cons.inj e6).1, (List.cons.inj e7).1, fun i hi => ?_⟩
  match i, hi with
  | 0, _ => exact w0
  | 1, _ => exact w1
  | 2, _ => exact w2
  | 3, _ => exact w3
  | 4, _ => exact w4
  | 5, _ => exact w5
  | 6, _ => exact w6
  | 7, _ => exact w7
set_option maxRecDepth 100000 in
theorem open_cut {r : Reach} {b0 : Nat} {v : Value} {d : DataW H} {p : List MemPlace} (hv : Value.okWide Try.prog w r b0 27 v) (h : DataW.Trod enc Try.prog w base sp hd 27 v d p) :
    ∃ (x : Nat → Int) (al : Option Addr) (len cap : Nat) (L : List (Int × Int)), v = .agg #[.int .u32 (x 0), .int .u32 (x 1), .int .u32 (x 2), .int .u32 (x 3), .int .u32 (x 4), .int .u32 (x 5), .int .u32 (x 6), .int .u32 (x 7), .slice al len cap] ∧ (∀ i, i < 8 → (Lit.int .u32 (x i)).wf = true) ∧ Ids w al len cap L := by
  obtain ⟨cs, rfl, hsz⟩ := okWide_struct Try.underlying27 hv
  obtain ⟨c0, c1, c2, c3, c4, c5, c6, c7, c8, rfl⟩ := array9 (hsz.trans cut9Cells)
  obtain ⟨fuel, hf⟩ := h
  obtain ⟨z0, z1, m, hz, _, g0, g1⟩ := trod_struct2 Try.underlying27 hf
  simp only [Value.cells, vecCells, slice1Cells, List.drop_zero, List.drop_succ_cons, List.take_succ_cons, List.take_zero] at g0 g1
  obtain ⟨x, rfl, rfl, rfl, rfl, rfl, rfl, rfl, rfl, hw⟩ := vec_trod g0
  obtain ⟨al, len, cap, rfl⟩ : ∃ al len cap, c8 = .slice al len cap := by
    rcases open_slice Try.underlying25 g1 with ⟨hcs, _⟩ | ⟨y, l, c, _, _, _, _, hcs, _⟩
    · exact ⟨_, _, _, (List.cons.inj hcs).1⟩
    · exact ⟨_, _, _, (List.cons.inj hcs).1⟩
  obtain ⟨L, hL⟩ := open_list (d := z1.1) (ps := z1.2) ⟨m, g1⟩
  exact ⟨x, al, len, cap, L, rfl, hw, hL⟩
end
end Go.Proofs.Ythbdjgebpjffgaa
