/-
  The walk of the law CutTwo.
  Conditions: package cut's Check tells what the document's does.
-/
import Derived.Test.YthbdjgebpjffgaaCuT
set_option linter.unusedVariables false
set_option linter.unusedSimpArgs false
namespace Go.Proofs.Ythbdjgebpjffgaa
open Go.RowKit Go.Shelf Go.Lib Go.Sort

theorem eqC_twin (v : Nat → Int) (L : List (Int × Int)) : eqC v L v L = true := eqC_iff.2 ⟨eqV_refl v, rfl⟩

set_option maxRecDepth 100000 in
set_option maxHeartbeats 8000000 in
theorem cutTwo_if (hagree : ∀ v L, InB v → ckC v L = ckD v L) (a : Nat → Int) (al : Option Addr) (len cap : Nat) (A : List (Int × Int)) (b : Nat → Int) (al' : Option Addr) (len' cap' : Nat) (B : List (Int × Int)) (w : World) (ha : ∀ i, i < 8 → (Lit.int .u32 (a i)).wf = true) (hA : Ids w al len cap A) (hb : ∀ i, i < 8 → (Lit.int .u32 (b i)).wf = true) (hB : Ids w al' len' cap' B) :
    Calls Try.prog 4 #[.agg #[.int .u32 (a 0), .int .u32 (a 1), .int .u32 (a 2), .int .u32 (a 3), .int .u32 (a 4), .int .u32 (a 5), .int .u32 (a 6), .int .u32 (a 7), .slice al len cap], .agg #[.int .u32 (b 0), .int .u32 (b 1), .int .u32 (b 2), .int .u32 (b 3), .int .u32 (b 4), .int .u32 (b 5), .int .u32 (b 6), .int .u32 (b 7), .slice al' len' cap']] w fun e w' => e = .returned (.bool true) ∧ Below w.heap.size w w' := by
  have hina : InB a := fun i hi => by have := bounds_u32 (ha i hi); omega
  have hinb : InB b := fun i hi => by have := bounds_u32 (hb i hi); omega
  have HIN := Lib.hid hina
  have HIN' := Lib.hid hinb
  have hcap := hA.bd
  have hfit := hA.fit
  have hcap' := hB.bd
  have hfit' := hB.fit
  have h0 := ((((KS.nil w).add hA).add hB).box rfl #[.int .u32 (a 0), .int .u32 (a 1), .int .u32 (a 2), .int .u32 (a 3), .int .u32 (a 4), .int .u32 (a 5), .int .u32 (a 6), .int .u32 (a 7), .slice al len cap] 27).box (g := w.heap.size + 1) (by simp) #[.int .u32 (b 0), .int .u32 (b 1), .int .u32 (b 2), .int .u32 (b 3), .int .u32 (b 4), .int .u32 (b 5), .int .u32 (b 6), .int .u32 (b 7), .slice al' len' cap'] 27
  have H0 := Lib.hid h0
  obtain ⟨k, hk⟩ : ∃ k, orZ (ckD a A) (ckD b B) = k := ⟨_, rfl⟩
  obtain ⟨jv, hjv⟩ : ∃ u, joKV k a A b B = u := ⟨_, rfl⟩
  obtain ⟨jS, hjS⟩ : ∃ u, joKS k a A b B = u := ⟨_, rfl⟩
  obtain ⟨jc, hjc⟩ : ∃ u, joKC k a A b B = u := ⟨_, rfl⟩
  obtain ⟨jn, hjn⟩ : ∃ u, jS.length = u := ⟨_, rfl⟩
  obtain ⟨t, ht⟩ : ∃ t, leD a A b B = t := ⟨_, rfl⟩
  obtain ⟨s, hs⟩ : ∃ s, eqC a A b B = s := ⟨_, rfl⟩
  obtain ⟨p1, p2, p3⟩ := jo_K a A b B
  rw [hagree a A hina, hagree b B hinb, hk] at p1 p2 p3
  rw [hjc] at p1
  rw [hjv] at p2
  rw [hjS] at p3
  have hlp : leP a A b B = t := by rw [← ht]; unfold leP leD; rw [hagree a A hina, hagree b B hinb]
  have HK := Lib.hid hk; have HJV := Lib.hid hjv; have HJS := Lib.hid hjS; have HJC := Lib.hid hjc; have HJN := Lib.hid hjn; have HT := Lib.hid ht; have HS0 := Lib.hid hs; have HP1 := Lib.hid p1; have HP2 := Lib.hid p2; have HP3 := Lib.hid p3; have HLP := Lib.hid hlp
  clear h0 hA hB ha hb hina hinb hagree hk hjv hjS hjc hjn ht hs p1 p2 p3 hlp
  have x8 := (cut_cells (H0.out.blk 1 rfl)).2.2.2.2.2.2.2.2
  go_enter Try.func4, Try.ntmps4
  go_wp2_with fail
  refine (great_any al len cap _ hfit hcap).mono ?_
  cases hg : greatB len with
  | true =>
    rintro e w1 ⟨rfl, b1⟩
    have HB := Lib.hid (H0.out.next b1).bel
    clear b1 x8
    go_wp2
    go_ret
    exact ⟨rfl, HB.out⟩
  | false =>
    have hle1 := great_le hg
    rintro e w1 ⟨rfl, b1⟩
    have H1 := Lib.hid (H0.out.next b1)
    clear b1 x8 hg
    have y8 := (cut_cells (H1.out.blk 0 rfl)).2.2.2.2.2.2.2.2
    go_wp2_with fail
    refine (great_any al' len' cap' _ hfit' hcap').mono ?_
    cases hg : greatB len' with
    | true =>
      rintro e w2 ⟨rfl, b2⟩
      have H2 := Lib.hid (H1.out.next b2)
      clear b2 y8
      go_wp2
      go_ret
      exact ⟨rfl, H2.out.bel⟩
    | false =>
      have hle2 := great_le hg
      rintro e w2 ⟨rfl, b2⟩
      have H2 := Lib.hid (H1.out.next b2)
      clear b2 y8 hg
      obtain ⟨a_0, a_1, a_2, a_3, a_4, a_5, a_6, a_7, a_8⟩ := cut_cells (H2.out.blk 1 rfl)
      go_wp2_with fail
      refine (far_cut a al len cap _ HIN.out).mono ?_
      cases hf : farV a with
      | true =>
        rintro e w3 ⟨rfl, b3⟩
        have H3 := Lib.hid (H2.out.next b3)
        clear b3 a_0 a_1 a_2 a_3 a_4 a_5 a_6 a_7 a_8
        go_wp2
        go_ret
        exact ⟨rfl, H3.out.bel⟩
      | false =>
        rintro e w3 ⟨rfl, b3⟩
        have H3 := Lib.hid (H2.out.next b3)
        clear b3 hf a_0 a_1 a_2 a_3 a_4 a_5 a_6 a_7 a_8
        obtain ⟨b_0, b_1, b_2, b_3, b_4, b_5, b_6, b_7, b_8⟩ := cut_cells (H3.out.blk 0 rfl)
        go_wp2_with fail
        refine (far_cut b al' len' cap' _ HIN'.out).mono ?_
        cases hf : farV b with
        | true =>
          rintro e w4 ⟨rfl, b4⟩
          have H4 := Lib.hid (H3.out.next b4)
          clear b4 b_0 b_1 b_2 b_3 b_4 b_5 b_6 b_7 b_8
          go_wp2
          go_ret
          exact ⟨rfl, H4.out.bel⟩
        | false =>
          rintro e w4 ⟨rfl, b4⟩
          have H4 := Lib.hid (H3.out.next b4)
          clear b4 hf b_0 b_1 b_2 b_3 b_4 b_5 b_6 b_7 b_8
          go_upto_region 3 with fail
          go_cut [5, 6] (fun sx sy wx => ∃ (gx : Nat) (alx : Option Addr) (capx : Nat), sx = .pointer (some ⟨gx, 0, none⟩) ∧ sy = .int .i64 jc ∧ KS w [(gx, #[.int .u32 (jv 0), .int .u32 (jv 1), .int .u32 (jv 2), .int .u32 (jv 3), .int .u32 (jv 4), .int .u32 (jv 5), .int .u32 (jv 6), .int .u32 (jv 7), .slice alx jn capx], 31), (w.heap.size + 1, #[.int .u32 (b 0), .int .u32 (b 1), .int .u32 (b 2), .int .u32 (b 3), .int .u32 (b 4), .int .u32 (b 5), .int .u32 (b 6), .int .u32 (b 7), .slice al' len' cap'], 27), (w.heap.size, #[.int .u32 (a 0), .int .u32 (a 1), .int .u32 (a 2), .int .u32 (a 3), .int .u32 (a 4), .int .u32 (a 5), .int .u32 (a 6), .int .u32 (a 7), .slice al len cap], 27)] [(alx, jn, capx, jS), (al', len', cap', B), (al, len, cap, A)] wx)
          case first =>
            refine wp_region_held_drew (S := KS w [(w.heap.size + 1, #[.int .u32 (b 0), .int .u32 (b 1), .int .u32 (b 2), .int .u32 (b 3), .int .u32 (b 4), .int .u32 (b 5), .int .u32 (b 6), .int .u32 (b 7), .slice al' len' cap'], 27), (w.heap.size, #[.int .u32 (a 0), .int .u32 (a 1), .int .u32 (a 2), .int .u32 (a 3), .int .u32 (a 4), .int .u32 (a 5), .int .u32 (a 6), .int .u32 (a 7), .slice al len cap], 27)] [(al', len', cap', B), (al, len, cap, A)]) (by kernel_rfl) H4.out.drew (fun _ => ?_)
            have HSr := Lib.hid H4.out.drew
            generalize w4.drew = wr at HSr ⊢
            have HS := HSr
            have HBr := Lib.hid (Below.refl wr.heap.size wr)
            refine wpAnyH_take (i := 0) (oi := ⟨some 26, _, _, _, _, _⟩) (v := ?_) rfl (by kernel_rfl) (by kernel_rfl) (by kernel_rfl) (fun _ _ _ h => h) (Or.inl ⟨by rfl, ?_⟩) HS.out ?_
            rotate_left
            · intro w' hSw; obtain ⟨a_0, a_1, a_2, a_3, a_4, a_5, a_6, a_7, a_8⟩ := cut_cells (hSw.blk 1 rfl); go_simp; try (with_reducible rfl)
            try simp only [Act.put, List.setIfInBounds_toArray, List.set_cons_zero, List.set_cons_succ]
            refine wpAnyH_take (i := 2) (oi := ⟨some 28, _, _, _, _, _⟩) (v := ?_) rfl (by kernel_rfl) (by kernel_rfl) (by kernel_rfl) (fun _ _ _ h => h) (Or.inl ⟨by rfl, ?_⟩) HS.out ?_
            rotate_left
            · intro w' hSw; obtain ⟨b_0, b_1, b_2, b_3, b_4, b_5, b_6, b_7, b_8⟩ := cut_cells (hSw.blk 0 rfl); go_simp; try (with_reducible rfl)
            try simp only [Act.put, List.setIfInBounds_toArray, List.set_cons_zero, List.set_cons_succ]
            refine wpAnyH_ready (rs := [1, 8]) (by kernel_rfl) (by simp) ?_
            refine AllReadyH.cons (o := ⟨some 27, _, _, _, _, _⟩) rfl (fun K hK => ?_) (AllReadyH.cons (o := ⟨some 5, _, _, _, _, _⟩) rfl (fun K hK => ?_) AllReadyH.nil)
            · go_simp
              go_at_call 12
              have hcl := to_cut a al len cap A wr (HS.out.ids 1 rfl) (by omega)
              refine hcl.mono ?_
              clear hcl
              rintro e u1 ⟨alt1, capt1, rfl, hIt1, hFt1, bu1⟩
              have HIt1 := Lib.hid hIt1
              have HBr := Lib.hid (HBr.out.trans (bu1.mono HBr.out.size))
              have HS := Lib.hid (HSr.out.next HBr.out)
              clear bu1 hIt1
              go_wp2_with fail
              refine hK.out _ _ HS.out (fun _ => ?_)
              clear hK K
              try simp only [Act.put, List.setIfInBounds_toArray, List.set_cons_zero, List.set_cons_succ]
              refine wpAnyH_ready (rs := [3, 8]) (by kernel_rfl) (by simp) ?_
              refine AllReadyH.cons (o := ⟨some 29, _, _, _, _, _⟩) rfl (fun K hK => ?_) (AllReadyH.cons (o := ⟨some 5, _, _, _, _, _⟩) rfl (fun K hK => ?_) AllReadyH.nil)
              · go_simp
                go_at_call 12
                have hcl := to_cut b al' len' cap' B u1 (HS.out.ids 0 rfl) (by omega)
                refine hcl.mono ?_
                clear hcl
                rintro e u2 ⟨als1, caps1, rfl, hIs1, hFs1, bu2⟩
                have HIt1 := Lib.hid (HIt1.out.below bu2)
                have HIs1 := Lib.hid hIs1
                have HBr := Lib.hid (HBr.out.trans (bu2.mono HBr.out.size))
                have HS := Lib.hid (HSr.out.next HBr.out)
                clear bu2 hIs1
                go_wp2_with fail
                refine hK.out _ _ HS.out (fun _ => ?_)
                clear hK K
                try simp only [Act.put, List.setIfInBounds_toArray, List.set_cons_zero, List.set_cons_succ]
                refine wpAnyH_ready (rs := [4, 8]) (by kernel_rfl) (by simp) ?_
                refine AllReadyH.cons (o := ⟨some 30, _, _, _, _, _⟩) rfl (fun K hK => ?_) (AllReadyH.cons (o := ⟨some 5, _, _, _, _, _⟩) rfl (fun K hK => ?_) AllReadyH.nil)
                · go_simp
                  go_at_call 21
                  have hcl := cJoin_any a b alt1 als1 len capt1 len' caps1 A B u2 HIt1.out HIs1.out hFt1 hFs1 HIN.out HIN'.out
                  rw [HP1.out, HP2.out, HP3.out, HJN.out] at hcl
                  refine hcl.mono ?_
                  clear hcl
                  rintro e u3 ⟨alx, capx, rfl, hIx, hFx, bu3⟩
                  have HIx := Lib.hid hIx
                  have HBr := Lib.hid (HBr.out.trans (bu3.mono HBr.out.size))
                  have HS := Lib.hid (HSr.out.next HBr.out)
                  clear bu3 hIx
                  go_wp2_with fail
                  refine hK.out _ _ HS.out (fun _ => ?_)
                  clear hK K
                  try simp only [Act.put, List.setIfInBounds_toArray, List.set_cons_zero, List.set_cons_succ]
                  refine wpAnyH_take (i := 5) (oi := ⟨some 25, _, _, _, _, _⟩) (v := ?_) rfl (by kernel_rfl) (by kernel_rfl) (by kernel_rfl) (fun _ _ _ h => h) (Or.inl ⟨by rfl, ?_⟩) HS.out ?_
                  rotate_left
                  · intro w' hSw; clear hSw; go_simp; try (with_reducible rfl)
                  try simp only [Act.put, List.setIfInBounds_toArray, List.set_cons_zero, List.set_cons_succ]
                  refine wpAnyH_take (i := 6) (oi := ⟨some 31, _, _, _, _, _⟩) (v := ?_) rfl (by kernel_rfl) (by kernel_rfl) (by kernel_rfl) (fun _ _ _ h => h) (Or.inl ⟨by rfl, ?_⟩) HS.out ?_
                  rotate_left
                  · intro w' hSw; clear hSw; go_simp; try (with_reducible rfl)
                  try simp only [Act.put, List.setIfInBounds_toArray, List.set_cons_zero, List.set_cons_succ]
                  refine wpAnyH_take (i := 7) (oi := ⟨some 32, _, _, _, _, _⟩) (v := ?_) rfl (by kernel_rfl) (by kernel_rfl) (by kernel_rfl) (fun _ _ _ h => h) (Or.inl ⟨by rfl, ?_⟩) HS.out ?_
                  rotate_left
                  · intro w' hSw; clear hSw; go_simp; try (with_reducible rfl)
                  try simp only [Act.put, List.setIfInBounds_toArray, List.set_cons_zero, List.set_cons_succ]
                  refine wpAnyH_ready (rs := [8]) (by kernel_rfl) (by simp) ?_
                  refine AllReadyH.cons (o := ⟨some 5, _, _, _, _, _⟩) rfl (fun K hK => ?_) AllReadyH.nil
                  go_simp
                  have HG := Lib.hid (KS.ne HS.out)
                  refine hK.out _ _ (HS.out.alloc _) (fun _ => ?_)
                  clear hK K
                  try simp only [Act.put, List.setIfInBounds_toArray, List.set_cons_zero, List.set_cons_succ]
                  have HZ := Lib.hid (Blk.new u3 #[.int .u32 0, .int .u32 0, .int .u32 0, .int .u32 0, .int .u32 0, .int .u32 0, .int .u32 0, .int .u32 0, .slice none 0 0] 31)
                  have HIx := Lib.hid (HIx.out.below ((Below.refl _ _).alloc (Nat.le_refl _) (.cells #[.int .u32 0, .int .u32 0, .int .u32 0, .int .u32 0, .int .u32 0, .int .u32 0, .int .u32 0, .int .u32 0, .slice none 0 0] 31)))
                  have HBr := Lib.hid (HBr.out.alloc HBr.out.size (.cells #[.int .u32 0, .int .u32 0, .int .u32 0, .int .u32 0, .int .u32 0, .int .u32 0, .int .u32 0, .int .u32 0, .slice none 0 0] 31))
                  have HS := Lib.hid (HS.out.alloc (.cells #[.int .u32 0, .int .u32 0, .int .u32 0, .int .u32 0, .int .u32 0, .int .u32 0, .int .u32 0, .int .u32 0, .slice none 0 0] 31))
                  generalize hgz : u3.heap.size = gz at HG HZ ⊢
                  clear hgz
                  generalize u3.alloc (.cells #[.int .u32 0, .int .u32 0, .int .u32 0, .int .u32 0, .int .u32 0, .int .u32 0, .int .u32 0, .int .u32 0, .slice none 0 0] 31) = u4 at HBr HZ HS HIx ⊢
                  refine wpAnyH_ready (rs := [9]) (by kernel_rfl) (by simp) ?_
                  refine AllReadyH.cons (o := ⟨none, _, _, _, _, _⟩) rfl (fun K hK => ?_) AllReadyH.nil
                  refine if_yes rfl ?_
                  refine wp_store_row 31 (.tmp 5) (.tmp 31) rfl (gz) #[.int .u32 (jv 0), .int .u32 (jv 1), .int .u32 (jv 2), .int .u32 (jv 3), .int .u32 (jv 4), .int .u32 (jv 5), .int .u32 (jv 6), .int .u32 (jv 7), .slice alx jn capx] rfl rfl 31 _ HZ.out (by kernel_rfl) rfl (cut_one _ _ _ _) ?_
                  refine hK.out _ _ (HS.out.row HZ.out HG.out.1 HG.out.2 _) (fun _ => ?_)
                  clear hK K
                  try simp only [Act.put, List.setIfInBounds_toArray, List.set_cons_zero, List.set_cons_succ]
                  have HS := Lib.hid (HS.out.row HZ.out HG.out.1 HG.out.2 #[.int .u32 (jv 0), .int .u32 (jv 1), .int .u32 (jv 2), .int .u32 (jv 3), .int .u32 (jv 4), .int .u32 (jv 5), .int .u32 (jv 6), .int .u32 (jv 7), .slice alx jn capx])
                  refine wpAnyH_take (i := 10) (oi := ⟨some 6, _, _, _, _, _⟩) (v := ?_) rfl (by kernel_rfl) (by kernel_rfl) (by kernel_rfl) (fun _ _ _ h => h) (Or.inl ⟨by rfl, ?_⟩) HS.out ?_
                  rotate_left
                  · intro w' hSw; clear hSw; go_simp; try (with_reducible rfl)
                  try simp only [Act.put, List.setIfInBounds_toArray, List.set_cons_zero, List.set_cons_succ]
                  refine wpAnyH_done (by kernel_rfl) ?_ _
                  go_wp2_with fail
                  go_meet
                  exact ⟨gz, alx, capx, rfl, rfl, (HS.out.put (setRow_heap _ _ _ #[.int .u32 (jv 0), .int .u32 (jv 1), .int .u32 (jv 2), .int .u32 (jv 3), .int .u32 (jv 4), .int .u32 (jv 5), .int .u32 (jv 6), .int .u32 (jv 7), .slice alx jn capx] _ _ HZ.out)).add (ids_rowC HIx.out HZ.out _)⟩
                · go_simp
                  have HG := Lib.hid (KS.ne HS.out)
                  refine hK.out _ _ (HS.out.alloc _) (fun _ => ?_)
                  clear hK K
                  try simp only [Act.put, List.setIfInBounds_toArray, List.set_cons_zero, List.set_cons_succ]
                  have HZ := Lib.hid (Blk.new u2 #[.int .u32 0, .int .u32 0, .int .u32 0, .int .u32 0, .int .u32 0, .int .u32 0, .int .u32 0, .int .u32 0, .slice none 0 0] 31)
                  have HIt1 := Lib.hid (HIt1.out.below ((Below.refl _ _).alloc (Nat.le_refl _) (.cells #[.int .u32 0, .int .u32 0, .int .u32 0, .int .u32 0, .int .u32 0, .int .u32 0, .int .u32 0, .int .u32 0, .slice none 0 0] 31)))
                  have HIs1 := Lib.hid (HIs1.out.below ((Below.refl _ _).alloc (Nat.le_refl _) (.cells #[.int .u32 0, .int .u32 0, .int .u32 0, .int .u32 0, .int .u32 0, .int .u32 0, .int .u32 0, .int .u32 0, .slice none 0 0] 31)))
                  have HBr := Lib.hid (HBr.out.alloc HBr.out.size (.cells #[.int .u32 0, .int .u32 0, .int .u32 0, .int .u32 0, .int .u32 0, .int .u32 0, .int .u32 0, .int .u32 0, .slice none 0 0] 31))
                  have HS := Lib.hid (HS.out.alloc (.cells #[.int .u32 0, .int .u32 0, .int .u32 0, .int .u32 0, .int .u32 0, .int .u32 0, .int .u32 0, .int .u32 0, .slice none 0 0] 31))
                  generalize hgz : u2.heap.size = gz at HG HZ ⊢
                  clear hgz
                  generalize u2.alloc (.cells #[.int .u32 0, .int .u32 0, .int .u32 0, .int .u32 0, .int .u32 0, .int .u32 0, .int .u32 0, .int .u32 0, .slice none 0 0] 31) = u3 at HBr HZ HS HIt1 HIs1 ⊢
                  refine wpAnyH_ready (rs := [4]) (by kernel_rfl) (by simp) ?_
                  refine AllReadyH.cons (o := ⟨some 30, _, _, _, _, _⟩) rfl (fun K hK => ?_) AllReadyH.nil
                  go_simp
                  go_at_call 21
                  have hcl := cJoin_any a b alt1 als1 len capt1 len' caps1 A B u3 HIt1.out HIs1.out hFt1 hFs1 HIN.out HIN'.out
                  rw [HP1.out, HP2.out, HP3.out, HJN.out] at hcl
                  refine hcl.mono ?_
                  clear hcl
                  rintro e u4 ⟨alx, capx, rfl, hIx, hFx, bu4⟩
                  have HZ := Lib.hid (HZ.out.below bu4)
                  have HIx := Lib.hid hIx
                  have HBr := Lib.hid (HBr.out.trans (bu4.mono HBr.out.size))
                  have HS := Lib.hid (HSr.out.next HBr.out)
                  clear bu4 hIx
                  go_wp2_with fail
                  refine hK.out _ _ HS.out (fun _ => ?_)
                  clear hK K
                  try simp only [Act.put, List.setIfInBounds_toArray, List.set_cons_zero, List.set_cons_succ]
                  refine wpAnyH_take (i := 5) (oi := ⟨some 25, _, _, _, _, _⟩) (v := ?_) rfl (by kernel_rfl) (by kernel_rfl) (by kernel_rfl) (fun _ _ _ h => h) (Or.inl ⟨by rfl, ?_⟩) HS.out ?_
                  rotate_left
                  · intro w' hSw; clear hSw; go_simp; try (with_reducible rfl)
                  try simp only [Act.put, List.setIfInBounds_toArray, List.set_cons_zero, List.set_cons_succ]
                  refine wpAnyH_take (i := 6) (oi := ⟨some 31, _, _, _, _, _⟩) (v := ?_) rfl (by kernel_rfl) (by kernel_rfl) (by kernel_rfl) (fun _ _ _ h => h) (Or.inl ⟨by rfl, ?_⟩) HS.out ?_
                  rotate_left
                  · intro w' hSw; clear hSw; go_simp; try (with_reducible rfl)
                  try simp only [Act.put, List.setIfInBounds_toArray, List.set_cons_zero, List.set_cons_succ]
                  refine wpAnyH_take (i := 7) (oi := ⟨some 32, _, _, _, _, _⟩) (v := ?_) rfl (by kernel_rfl) (by kernel_rfl) (by kernel_rfl) (fun _ _ _ h => h) (Or.inl ⟨by rfl, ?_⟩) HS.out ?_
                  rotate_left
                  · intro w' hSw; clear hSw; go_simp; try (with_reducible rfl)
                  try simp only [Act.put, List.setIfInBounds_toArray, List.set_cons_zero, List.set_cons_succ]
                  refine wpAnyH_ready (rs := [9]) (by kernel_rfl) (by simp) ?_
                  refine AllReadyH.cons (o := ⟨none, _, _, _, _, _⟩) rfl (fun K hK => ?_) AllReadyH.nil
                  refine if_yes rfl ?_
                  refine wp_store_row 31 (.tmp 5) (.tmp 31) rfl (gz) #[.int .u32 (jv 0), .int .u32 (jv 1), .int .u32 (jv 2), .int .u32 (jv 3), .int .u32 (jv 4), .int .u32 (jv 5), .int .u32 (jv 6), .int .u32 (jv 7), .slice alx jn capx] rfl rfl 31 _ HZ.out (by kernel_rfl) rfl (cut_one _ _ _ _) ?_
                  refine hK.out _ _ (HS.out.row HZ.out HG.out.1 HG.out.2 _) (fun _ => ?_)
                  clear hK K
                  try simp only [Act.put, List.setIfInBounds_toArray, List.set_cons_zero, List.set_cons_succ]
                  have HS := Lib.hid (HS.out.row HZ.out HG.out.1 HG.out.2 #[.int .u32 (jv 0), .int .u32 (jv 1), .int .u32 (jv 2), .int .u32 (jv 3), .int .u32 (jv 4), .int .u32 (jv 5), .int .u32 (jv 6), .int .u32 (jv 7), .slice alx jn capx])
                  refine wpAnyH_take (i := 10) (oi := ⟨some 6, _, _, _, _, _⟩) (v := ?_) rfl (by kernel_rfl) (by kernel_rfl) (by kernel_rfl) (fun _ _ _ h => h) (Or.inl ⟨by rfl, ?_⟩) HS.out ?_
                  rotate_left
                  · intro w' hSw; clear hSw; go_simp; try (with_reducible rfl)
                  try simp only [Act.put, List.setIfInBounds_toArray, List.set_cons_zero, List.set_cons_succ]
                  refine wpAnyH_done (by kernel_rfl) ?_ _
                  go_wp2_with fail
                  go_meet
                  exact ⟨gz, alx, capx, rfl, rfl, (HS.out.put (setRow_heap _ _ _ #[.int .u32 (jv 0), .int .u32 (jv 1), .int .u32 (jv 2), .int .u32 (jv 3), .int .u32 (jv 4), .int .u32 (jv 5), .int .u32 (jv 6), .int .u32 (jv 7), .slice alx jn capx] _ _ HZ.out)).add (ids_rowC HIx.out HZ.out _)⟩
              · go_simp
                have HG := Lib.hid (KS.ne HS.out)
                refine hK.out _ _ (HS.out.alloc _) (fun _ => ?_)
                clear hK K
                try simp only [Act.put, List.setIfInBounds_toArray, List.set_cons_zero, List.set_cons_succ]
                have HZ := Lib.hid (Blk.new u1 #[.int .u32 0, .int .u32 0, .int .u32 0, .int .u32 0, .int .u32 0, .int .u32 0, .int .u32 0, .int .u32 0, .slice none 0 0] 31)
                have HIt1 := Lib.hid (HIt1.out.below ((Below.refl _ _).alloc (Nat.le_refl _) (.cells #[.int .u32 0, .int .u32 0, .int .u32 0, .int .u32 0, .int .u32 0, .int .u32 0, .int .u32 0, .int .u32 0, .slice none 0 0] 31)))
                have HBr := Lib.hid (HBr.out.alloc HBr.out.size (.cells #[.int .u32 0, .int .u32 0, .int .u32 0, .int .u32 0, .int .u32 0, .int .u32 0, .int .u32 0, .int .u32 0, .slice none 0 0] 31))
                have HS := Lib.hid (HS.out.alloc (.cells #[.int .u32 0, .int .u32 0, .int .u32 0, .int .u32 0, .int .u32 0, .int .u32 0, .int .u32 0, .int .u32 0, .slice none 0 0] 31))
                generalize hgz : u1.heap.size = gz at HG HZ ⊢
                clear hgz
                generalize u1.alloc (.cells #[.int .u32 0, .int .u32 0, .int .u32 0, .int .u32 0, .int .u32 0, .int .u32 0, .int .u32 0, .int .u32 0, .slice none 0 0] 31) = u2 at HBr HZ HS HIt1 ⊢
                refine wpAnyH_ready (rs := [3]) (by kernel_rfl) (by simp) ?_
                refine AllReadyH.cons (o := ⟨some 29, _, _, _, _, _⟩) rfl (fun K hK => ?_) AllReadyH.nil
                go_simp
                go_at_call 12
                have hcl := to_cut b al' len' cap' B u2 (HS.out.ids 0 rfl) (by omega)
                refine hcl.mono ?_
                clear hcl
                rintro e u3 ⟨als1, caps1, rfl, hIs1, hFs1, bu3⟩
                have HIt1 := Lib.hid (HIt1.out.below bu3)
                have HZ := Lib.hid (HZ.out.below bu3)
                have HIs1 := Lib.hid hIs1
                have HBr := Lib.hid (HBr.out.trans (bu3.mono HBr.out.size))
                have HS := Lib.hid (HSr.out.next HBr.out)
                clear bu3 hIs1
                go_wp2_with fail
                refine hK.out _ _ HS.out (fun _ => ?_)
                clear hK K
                try simp only [Act.put, List.setIfInBounds_toArray, List.set_cons_zero, List.set_cons_succ]
                refine wpAnyH_ready (rs := [4]) (by kernel_rfl) (by simp) ?_
                refine AllReadyH.cons (o := ⟨some 30, _, _, _, _, _⟩) rfl (fun K hK => ?_) AllReadyH.nil
                go_simp
                go_at_call 21
                have hcl := cJoin_any a b alt1 als1 len capt1 len' caps1 A B u3 HIt1.out HIs1.out hFt1 hFs1 HIN.out HIN'.out
                rw [HP1.out, HP2.out, HP3.out, HJN.out] at hcl
                refine hcl.mono ?_
                clear hcl
                rintro e u4 ⟨alx, capx, rfl, hIx, hFx, bu4⟩
                have HZ := Lib.hid (HZ.out.below bu4)
                have HIx := Lib.hid hIx
                have HBr := Lib.hid (HBr.out.trans (bu4.mono HBr.out.size))
                have HS := Lib.hid (HSr.out.next HBr.out)
                clear bu4 hIx
                go_wp2_with fail
                refine hK.out _ _ HS.out (fun _ => ?_)
                clear hK K
                try simp only [Act.put, List.setIfInBounds_toArray, List.set_cons_zero, List.set_cons_succ]
                refine wpAnyH_take (i := 5) (oi := ⟨some 25, _, _, _, _, _⟩) (v := ?_) rfl (by kernel_rfl) (by kernel_rfl) (by kernel_rfl) (fun _ _ _ h => h) (Or.inl ⟨by rfl, ?_⟩) HS.out ?_
                rotate_left
                · intro w' hSw; clear hSw; go_simp; try (with_reducible rfl)
                try simp only [Act.put, List.setIfInBounds_toArray, List.set_cons_zero, List.set_cons_succ]
                refine wpAnyH_take (i := 6) (oi := ⟨some 31, _, _, _, _, _⟩) (v := ?_) rfl (by kernel_rfl) (by kernel_rfl) (by kernel_rfl) (fun _ _ _ h => h) (Or.inl ⟨by rfl, ?_⟩) HS.out ?_
                rotate_left
                · intro w' hSw; clear hSw; go_simp; try (with_reducible rfl)
                try simp only [Act.put, List.setIfInBounds_toArray, List.set_cons_zero, List.set_cons_succ]
                refine wpAnyH_take (i := 7) (oi := ⟨some 32, _, _, _, _, _⟩) (v := ?_) rfl (by kernel_rfl) (by kernel_rfl) (by kernel_rfl) (fun _ _ _ h => h) (Or.inl ⟨by rfl, ?_⟩) HS.out ?_
                rotate_left
                · intro w' hSw; clear hSw; go_simp; try (with_reducible rfl)
                try simp only [Act.put, List.setIfInBounds_toArray, List.set_cons_zero, List.set_cons_succ]
                refine wpAnyH_ready (rs := [9]) (by kernel_rfl) (by simp) ?_
                refine AllReadyH.cons (o := ⟨none, _, _, _, _, _⟩) rfl (fun K hK => ?_) AllReadyH.nil
                refine if_yes rfl ?_
                refine wp_store_row 31 (.tmp 5) (.tmp 31) rfl (gz) #[.int .u32 (jv 0), .int .u32 (jv 1), .int .u32 (jv 2), .int .u32 (jv 3), .int .u32 (jv 4), .int .u32 (jv 5), .int .u32 (jv 6), .int .u32 (jv 7), .slice alx jn capx] rfl rfl 31 _ HZ.out (by kernel_rfl) rfl (cut_one _ _ _ _) ?_
                refine hK.out _ _ (HS.out.row HZ.out HG.out.1 HG.out.2 _) (fun _ => ?_)
                clear hK K
                try simp only [Act.put, List.setIfInBounds_toArray, List.set_cons_zero, List.set_cons_succ]
                have HS := Lib.hid (HS.out.row HZ.out HG.out.1 HG.out.2 #[.int .u32 (jv 0), .int .u32 (jv 1), .int .u32 (jv 2), .int .u32 (jv 3), .int .u32 (jv 4), .int .u32 (jv 5), .int .u32 (jv 6), .int .u32 (jv 7), .slice alx jn capx])
                refine wpAnyH_take (i := 10) (oi := ⟨some 6, _, _, _, _, _⟩) (v := ?_) rfl (by kernel_rfl) (by kernel_rfl) (by kernel_rfl) (fun _ _ _ h => h) (Or.inl ⟨by rfl, ?_⟩) HS.out ?_
                rotate_left
                · intro w' hSw; clear hSw; go_simp; try (with_reducible rfl)
                try simp only [Act.put, List.setIfInBounds_toArray, List.set_cons_zero, List.set_cons_succ]
                refine wpAnyH_done (by kernel_rfl) ?_ _
                go_wp2_with fail
                go_meet
                exact ⟨gz, alx, capx, rfl, rfl, (HS.out.put (setRow_heap _ _ _ #[.int .u32 (jv 0), .int .u32 (jv 1), .int .u32 (jv 2), .int .u32 (jv 3), .int .u32 (jv 4), .int .u32 (jv 5), .int .u32 (jv 6), .int .u32 (jv 7), .slice alx jn capx] _ _ HZ.out)).add (ids_rowC HIx.out HZ.out _)⟩
            · go_simp
              have HG := Lib.hid (KS.ne HS.out)
              refine hK.out _ _ (HS.out.alloc _) (fun _ => ?_)
              clear hK K
              try simp only [Act.put, List.setIfInBounds_toArray, List.set_cons_zero, List.set_cons_succ]
              have HZ := Lib.hid (Blk.new wr #[.int .u32 0, .int .u32 0, .int .u32 0, .int .u32 0, .int .u32 0, .int .u32 0, .int .u32 0, .int .u32 0, .slice none 0 0] 31)
              have HBr := Lib.hid (HBr.out.alloc HBr.out.size (.cells #[.int .u32 0, .int .u32 0, .int .u32 0, .int .u32 0, .int .u32 0, .int .u32 0, .int .u32 0, .int .u32 0, .slice none 0 0] 31))
              have HS := Lib.hid (HS.out.alloc (.cells #[.int .u32 0, .int .u32 0, .int .u32 0, .int .u32 0, .int .u32 0, .int .u32 0, .int .u32 0, .int .u32 0, .slice none 0 0] 31))
              generalize hgz : wr.heap.size = gz at HG HZ ⊢
              clear hgz
              generalize wr.alloc (.cells #[.int .u32 0, .int .u32 0, .int .u32 0, .int .u32 0, .int .u32 0, .int .u32 0, .int .u32 0, .int .u32 0, .slice none 0 0] 31) = u1 at HBr HZ HS ⊢
              refine wpAnyH_ready (rs := [1]) (by kernel_rfl) (by simp) ?_
              refine AllReadyH.cons (o := ⟨some 27, _, _, _, _, _⟩) rfl (fun K hK => ?_) AllReadyH.nil
              go_simp
              go_at_call 12
              have hcl := to_cut a al len cap A u1 (HS.out.ids 1 rfl) (by omega)
              refine hcl.mono ?_
              clear hcl
              rintro e u2 ⟨alt1, capt1, rfl, hIt1, hFt1, bu2⟩
              have HZ := Lib.hid (HZ.out.below bu2)
              have HIt1 := Lib.hid hIt1
              have HBr := Lib.hid (HBr.out.trans (bu2.mono HBr.out.size))
              have HS := Lib.hid (HSr.out.next HBr.out)
              clear bu2 hIt1
              go_wp2_with fail
              refine hK.out _ _ HS.out (fun _ => ?_)
              clear hK K
              try simp only [Act.put, List.setIfInBounds_toArray, List.set_cons_zero, List.set_cons_succ]
              refine wpAnyH_ready (rs := [3]) (by kernel_rfl) (by simp) ?_
              refine AllReadyH.cons (o := ⟨some 29, _, _, _, _, _⟩) rfl (fun K hK => ?_) AllReadyH.nil
              go_simp
              go_at_call 12
              have hcl := to_cut b al' len' cap' B u2 (HS.out.ids 0 rfl) (by omega)
              refine hcl.mono ?_
              clear hcl
              rintro e u3 ⟨als1, caps1, rfl, hIs1, hFs1, bu3⟩
              have HZ := Lib.hid (HZ.out.below bu3)
              have HIt1 := Lib.hid (HIt1.out.below bu3)
              have HIs1 := Lib.hid hIs1
              have HBr := Lib.hid (HBr.out.trans (bu3.mono HBr.out.size))
              have HS := Lib.hid (HSr.out.next HBr.out)
              clear bu3 hIs1
              go_wp2_with fail
              refine hK.out _ _ HS.out (fun _ => ?_)
              clear hK K
              try simp only [Act.put, List.setIfInBounds_toArray, List.set_cons_zero, List.set_cons_succ]
              refine wpAnyH_ready (rs := [4]) (by kernel_rfl) (by simp) ?_
              refine AllReadyH.cons (o := ⟨some 30, _, _, _, _, _⟩) rfl (fun K hK => ?_) AllReadyH.nil
              go_simp
              go_at_call 21
              have hcl := cJoin_any a b alt1 als1 len capt1 len' caps1 A B u3 HIt1.out HIs1.out hFt1 hFs1 HIN.out HIN'.out
              rw [HP1.out, HP2.out, HP3.out, HJN.out] at hcl
              refine hcl.mono ?_
              clear hcl
              rintro e u4 ⟨alx, capx, rfl, hIx, hFx, bu4⟩
              have HZ := Lib.hid (HZ.out.below bu4)
              have HIx := Lib.hid hIx
              have HBr := Lib.hid (HBr.out.trans (bu4.mono HBr.out.size))
              have HS := Lib.hid (HSr.out.next HBr.out)
              clear bu4 hIx
              go_wp2_with fail
              refine hK.out _ _ HS.out (fun _ => ?_)
              clear hK K
              try simp only [Act.put, List.setIfInBounds_toArray, List.set_cons_zero, List.set_cons_succ]
              refine wpAnyH_take (i := 5) (oi := ⟨some 25, _, _, _, _, _⟩) (v := ?_) rfl (by kernel_rfl) (by kernel_rfl) (by kernel_rfl) (fun _ _ _ h => h) (Or.inl ⟨by rfl, ?_⟩) HS.out ?_
              rotate_left
              · intro w' hSw; clear hSw; go_simp; try (with_reducible rfl)
              try simp only [Act.put, List.setIfInBounds_toArray, List.set_cons_zero, List.set_cons_succ]
              refine wpAnyH_take (i := 6) (oi := ⟨some 31, _, _, _, _, _⟩) (v := ?_) rfl (by kernel_rfl) (by kernel_rfl) (by kernel_rfl) (fun _ _ _ h => h) (Or.inl ⟨by rfl, ?_⟩) HS.out ?_
              rotate_left
              · intro w' hSw; clear hSw; go_simp; try (with_reducible rfl)
              try simp only [Act.put, List.setIfInBounds_toArray, List.set_cons_zero, List.set_cons_succ]
              refine wpAnyH_take (i := 7) (oi := ⟨some 32, _, _, _, _, _⟩) (v := ?_) rfl (by kernel_rfl) (by kernel_rfl) (by kernel_rfl) (fun _ _ _ h => h) (Or.inl ⟨by rfl, ?_⟩) HS.out ?_
              rotate_left
              · intro w' hSw; clear hSw; go_simp; try (with_reducible rfl)
              try simp only [Act.put, List.setIfInBounds_toArray, List.set_cons_zero, List.set_cons_succ]
              refine wpAnyH_ready (rs := [9]) (by kernel_rfl) (by simp) ?_
              refine AllReadyH.cons (o := ⟨none, _, _, _, _, _⟩) rfl (fun K hK => ?_) AllReadyH.nil
              refine if_yes rfl ?_
              refine wp_store_row 31 (.tmp 5) (.tmp 31) rfl (gz) #[.int .u32 (jv 0), .int .u32 (jv 1), .int .u32 (jv 2), .int .u32 (jv 3), .int .u32 (jv 4), .int .u32 (jv 5), .int .u32 (jv 6), .int .u32 (jv 7), .slice alx jn capx] rfl rfl 31 _ HZ.out (by kernel_rfl) rfl (cut_one _ _ _ _) ?_
              refine hK.out _ _ (HS.out.row HZ.out HG.out.1 HG.out.2 _) (fun _ => ?_)
              clear hK K
              try simp only [Act.put, List.setIfInBounds_toArray, List.set_cons_zero, List.set_cons_succ]
              have HS := Lib.hid (HS.out.row HZ.out HG.out.1 HG.out.2 #[.int .u32 (jv 0), .int .u32 (jv 1), .int .u32 (jv 2), .int .u32 (jv 3), .int .u32 (jv 4), .int .u32 (jv 5), .int .u32 (jv 6), .int .u32 (jv 7), .slice alx jn capx])
              refine wpAnyH_take (i := 10) (oi := ⟨some 6, _, _, _, _, _⟩) (v := ?_) rfl (by kernel_rfl) (by kernel_rfl) (by kernel_rfl) (fun _ _ _ h => h) (Or.inl ⟨by rfl, ?_⟩) HS.out ?_
              rotate_left
              · intro w' hSw; clear hSw; go_simp; try (with_reducible rfl)
              try simp only [Act.put, List.setIfInBounds_toArray, List.set_cons_zero, List.set_cons_succ]
              refine wpAnyH_done (by kernel_rfl) ?_ _
              go_wp2_with fail
              go_meet
              exact ⟨gz, alx, capx, rfl, rfl, (HS.out.put (setRow_heap _ _ _ #[.int .u32 (jv 0), .int .u32 (jv 1), .int .u32 (jv 2), .int .u32 (jv 3), .int .u32 (jv 4), .int .u32 (jv 5), .int .u32 (jv 6), .int .u32 (jv 7), .slice alx jn capx] _ _ HZ.out)).add (ids_rowC HIx.out HZ.out _)⟩
          case rest =>
            obtain ⟨gx, alx, capx, rfl, rfl, hks⟩ := hcut
            have HX := Lib.hid hks
            clear hks H4
            obtain ⟨b_0, b_1, b_2, b_3, b_4, b_5, b_6, b_7, b_8⟩ := cut_cells (HX.out.blk 1 rfl)
            obtain ⟨a_0, a_1, a_2, a_3, a_4, a_5, a_6, a_7, a_8⟩ := cut_cells (HX.out.blk 2 rfl)
            go_wp2_with fail
            have hmk := rJoin_cut a b al al' len cap len' cap' A B _ (HX.out.ids 2 rfl) (HX.out.ids 1 rfl) HIN.out HIN'.out
            rw [HK.out, HJV.out, HJS.out, HJC.out, HJN.out] at hmk
            refine hmk.mono ?_
            clear hmk
            rintro e w6 ⟨aly, capy, rfl, hIy, b6⟩
            have HY := Lib.hid (((HX.out.next b6).add hIy).box (g := w6.heap.size) rfl #[.int .u32 (jv 0), .int .u32 (jv 1), .int .u32 (jv 2), .int .u32 (jv 3), .int .u32 (jv 4), .int .u32 (jv 5), .int .u32 (jv 6), .int .u32 (jv 7), .slice aly jn capy] 27)
            clear b6 hIy HX b_0 b_1 b_2 b_3 b_4 b_5 b_6 b_7 b_8 a_0 a_1 a_2 a_3 a_4 a_5 a_6 a_7 a_8
            go_wp2_with fail
            generalize w6.alloc (.cells #[.int .u32 (jv 0), .int .u32 (jv 1), .int .u32 (jv 2), .int .u32 (jv 3), .int .u32 (jv 4), .int .u32 (jv 5), .int .u32 (jv 6), .int .u32 (jv 7), .slice aly jn capy] 27) = w7 at HY ⊢
            refine wp_region_held_drew (S := KS w [(w6.heap.size, #[.int .u32 (jv 0), .int .u32 (jv 1), .int .u32 (jv 2), .int .u32 (jv 3), .int .u32 (jv 4), .int .u32 (jv 5), .int .u32 (jv 6), .int .u32 (jv 7), .slice aly jn capy], 27), (gx, #[.int .u32 (jv 0), .int .u32 (jv 1), .int .u32 (jv 2), .int .u32 (jv 3), .int .u32 (jv 4), .int .u32 (jv 5), .int .u32 (jv 6), .int .u32 (jv 7), .slice alx jn capx], 31), (w.heap.size + 1, #[.int .u32 (b 0), .int .u32 (b 1), .int .u32 (b 2), .int .u32 (b 3), .int .u32 (b 4), .int .u32 (b 5), .int .u32 (b 6), .int .u32 (b 7), .slice al' len' cap'], 27), (w.heap.size, #[.int .u32 (a 0), .int .u32 (a 1), .int .u32 (a 2), .int .u32 (a 3), .int .u32 (a 4), .int .u32 (a 5), .int .u32 (a 6), .int .u32 (a 7), .slice al len cap], 27)] [(aly, jn, capy, jS), (alx, jn, capx, jS), (al', len', cap', B), (al, len, cap, A)]) (by kernel_rfl) HY.out.drew (fun _ => ?_)
            have HSr := Lib.hid HY.out.drew
            generalize w7.drew = wr at HSr ⊢
            have HS := HSr
            have HBr := Lib.hid (Below.refl wr.heap.size wr)
            refine wpAnyH_take (i := 0) (oi := ⟨some 39, _, _, _, _, _⟩) (v := ?_) rfl (by kernel_rfl) (by kernel_rfl) (by kernel_rfl) (fun _ _ _ h => h) (Or.inl ⟨by rfl, ?_⟩) HS.out ?_
            rotate_left
            · intro w' hSw; obtain ⟨a_0, a_1, a_2, a_3, a_4, a_5, a_6, a_7, a_8⟩ := cut_cells (hSw.blk 3 rfl); go_simp; try (with_reducible rfl)
            try simp only [Act.put, List.setIfInBounds_toArray, List.set_cons_zero, List.set_cons_succ]
            refine wpAnyH_take (i := 2) (oi := ⟨some 41, _, _, _, _, _⟩) (v := ?_) rfl (by kernel_rfl) (by kernel_rfl) (by kernel_rfl) (fun _ _ _ h => h) (Or.inl ⟨by rfl, ?_⟩) HS.out ?_
            rotate_left
            · intro w' hSw; obtain ⟨b_0, b_1, b_2, b_3, b_4, b_5, b_6, b_7, b_8⟩ := cut_cells (hSw.blk 2 rfl); go_simp; try (with_reducible rfl)
            try simp only [Act.put, List.setIfInBounds_toArray, List.set_cons_zero, List.set_cons_succ]
            refine wpAnyH_take (i := 5) (oi := ⟨some 44, _, _, _, _, _⟩) (v := ?_) rfl (by kernel_rfl) (by kernel_rfl) (by kernel_rfl) (fun _ _ _ h => h) (Or.inl ⟨by rfl, ?_⟩) HS.out ?_
            rotate_left
            · intro w' hSw; obtain ⟨a_0, a_1, a_2, a_3, a_4, a_5, a_6, a_7, a_8⟩ := cut_cells (hSw.blk 3 rfl); go_simp; try (with_reducible rfl)
            try simp only [Act.put, List.setIfInBounds_toArray, List.set_cons_zero, List.set_cons_succ]
            refine wpAnyH_take (i := 6) (oi := ⟨some 45, _, _, _, _, _⟩) (v := ?_) rfl (by kernel_rfl) (by kernel_rfl) (by kernel_rfl) (fun _ _ _ h => h) (Or.inl ⟨by rfl, ?_⟩) HS.out ?_
            rotate_left
            · intro w' hSw; obtain ⟨b_0, b_1, b_2, b_3, b_4, b_5, b_6, b_7, b_8⟩ := cut_cells (hSw.blk 2 rfl); go_simp; try (with_reducible rfl)
            try simp only [Act.put, List.setIfInBounds_toArray, List.set_cons_zero, List.set_cons_succ]
            refine wpAnyH_ready (rs := [1]) (by kernel_rfl) (by simp) ?_
            refine AllReadyH.cons (o := ⟨some 40, _, _, _, _, _⟩) rfl (fun K hK => ?_) AllReadyH.nil
            go_simp
            go_at_call 12
            have hcl := to_cut a al len cap A wr (HS.out.ids 3 rfl) (by omega)
            refine hcl.mono ?_
            clear hcl
            rintro e u1 ⟨alt2, capt2, rfl, hIt2, hFt2, bu1⟩
            have HIt2 := Lib.hid hIt2
            have HBr := Lib.hid (HBr.out.trans (bu1.mono HBr.out.size))
            have HS := Lib.hid (HSr.out.next HBr.out)
            clear bu1 hIt2
            go_wp2_with fail
            refine hK.out _ _ HS.out (fun _ => ?_)
            clear hK K
            try simp only [Act.put, List.setIfInBounds_toArray, List.set_cons_zero, List.set_cons_succ]
            refine wpAnyH_ready (rs := [3]) (by kernel_rfl) (by simp) ?_
            refine AllReadyH.cons (o := ⟨some 42, _, _, _, _, _⟩) rfl (fun K hK => ?_) AllReadyH.nil
            go_simp
            go_at_call 12
            have hcl := to_cut b al' len' cap' B u1 (HS.out.ids 2 rfl) (by omega)
            refine hcl.mono ?_
            clear hcl
            rintro e u2 ⟨als2, caps2, rfl, hIs2, hFs2, bu2⟩
            have HIt2 := Lib.hid (HIt2.out.below bu2)
            have HIs2 := Lib.hid hIs2
            have HBr := Lib.hid (HBr.out.trans (bu2.mono HBr.out.size))
            have HS := Lib.hid (HSr.out.next HBr.out)
            clear bu2 hIs2
            go_wp2_with fail
            refine hK.out _ _ HS.out (fun _ => ?_)
            clear hK K
            try simp only [Act.put, List.setIfInBounds_toArray, List.set_cons_zero, List.set_cons_succ]
            refine wpAnyH_ready (rs := [4]) (by kernel_rfl) (by simp) ?_
            refine AllReadyH.cons (o := ⟨some 43, _, _, _, _, _⟩) rfl (fun K hK => ?_) AllReadyH.nil
            go_simp
            go_at_call 23
            have hcl := cLE_any a b alt2 als2 len capt2 len' caps2 A B u2 HIt2.out HIs2.out hFt2 hFs2 HIN.out HIN'.out
            rw [HLP.out] at hcl
            refine hcl.mono ?_
            clear hcl
            rintro e u3 ⟨rfl, bu3⟩
            have HBr := Lib.hid (HBr.out.trans (bu3.mono HBr.out.size))
            have HS := Lib.hid (HSr.out.next HBr.out)
            clear bu3
            go_wp2_with fail
            refine hK.out _ _ HS.out (fun _ => ?_)
            clear hK K
            try simp only [Act.put, List.setIfInBounds_toArray, List.set_cons_zero, List.set_cons_succ]
            refine wpAnyH_ready (rs := [7]) (by kernel_rfl) (by simp) ?_
            refine AllReadyH.cons (o := ⟨some 46, _, _, _, _, _⟩) rfl (fun K hK => ?_) AllReadyH.nil
            go_simp
            go_at_call 24
            have hcl := rLE_cut a b al al' len cap len' cap' A B u3 (HS.out.ids 3 rfl) (HS.out.ids 2 rfl) HIN.out HIN'.out
            rw [HT.out] at hcl
            refine hcl.mono ?_
            clear hcl
            rintro e u4 ⟨rfl, bu4⟩
            have HBr := Lib.hid (HBr.out.trans (bu4.mono HBr.out.size))
            have HS := Lib.hid (HSr.out.next HBr.out)
            clear bu4
            go_wp2_with fail
            refine hK.out _ _ HS.out (fun _ => ?_)
            clear hK K
            try simp only [Act.put, List.setIfInBounds_toArray, List.set_cons_zero, List.set_cons_succ]
            refine wpAnyH_take (i := 8) (oi := ⟨some 47, _, _, _, _, _⟩) (v := ?_) rfl (by kernel_rfl) (by kernel_rfl) (by kernel_rfl) (fun _ _ _ h => h) (Or.inl ⟨by rfl, ?_⟩) HS.out ?_
            rotate_left
            · intro w' hSw; clear hSw; go_simp; try (with_reducible rfl)
            try simp only [Act.put, List.setIfInBounds_toArray, List.set_cons_zero, List.set_cons_succ]
            refine wpAnyH_take (i := 9) (oi := ⟨some 48, _, _, _, _, _⟩) (v := ?_) rfl (by kernel_rfl) (by kernel_rfl) (by kernel_rfl) (fun _ _ _ h => h) (Or.inl ⟨by rfl, ?_⟩) HS.out ?_
            rotate_left
            · intro w' hSw; clear hSw; go_simp; try (with_reducible rfl)
            try simp only [Act.put, List.setIfInBounds_toArray, List.set_cons_zero, List.set_cons_succ]
            refine wpAnyH_take (i := 10) (oi := ⟨some 49, _, _, _, _, _⟩) (v := ?_) rfl (by kernel_rfl) (by kernel_rfl) (by kernel_rfl) (fun _ _ _ h => h) (Or.inl ⟨by rfl, ?_⟩) HS.out ?_
            rotate_left
            · intro w' hSw; obtain ⟨a_0, a_1, a_2, a_3, a_4, a_5, a_6, a_7, a_8⟩ := cut_cells (hSw.blk 3 rfl); go_simp; try (with_reducible rfl)
            try simp only [Act.put, List.setIfInBounds_toArray, List.set_cons_zero, List.set_cons_succ]
            refine wpAnyH_take (i := 12) (oi := ⟨some 51, _, _, _, _, _⟩) (v := ?_) rfl (by kernel_rfl) (by kernel_rfl) (by kernel_rfl) (fun _ _ _ h => h) (Or.inl ⟨by rfl, ?_⟩) HS.out ?_
            rotate_left
            · intro w' hSw; obtain ⟨b_0, b_1, b_2, b_3, b_4, b_5, b_6, b_7, b_8⟩ := cut_cells (hSw.blk 2 rfl); go_simp; try (with_reducible rfl)
            try simp only [Act.put, List.setIfInBounds_toArray, List.set_cons_zero, List.set_cons_succ]
            refine wpAnyH_take (i := 15) (oi := ⟨some 54, _, _, _, _, _⟩) (v := ?_) rfl (by kernel_rfl) (by kernel_rfl) (by kernel_rfl) (fun _ _ _ h => h) (Or.inl ⟨by rfl, ?_⟩) HS.out ?_
            rotate_left
            · intro w' hSw; obtain ⟨a_0, a_1, a_2, a_3, a_4, a_5, a_6, a_7, a_8⟩ := cut_cells (hSw.blk 3 rfl); go_simp; try (with_reducible rfl)
            try simp only [Act.put, List.setIfInBounds_toArray, List.set_cons_zero, List.set_cons_succ]
            refine wpAnyH_take (i := 16) (oi := ⟨some 55, _, _, _, _, _⟩) (v := ?_) rfl (by kernel_rfl) (by kernel_rfl) (by kernel_rfl) (fun _ _ _ h => h) (Or.inl ⟨by rfl, ?_⟩) HS.out ?_
            rotate_left
            · intro w' hSw; obtain ⟨b_0, b_1, b_2, b_3, b_4, b_5, b_6, b_7, b_8⟩ := cut_cells (hSw.blk 2 rfl); go_simp; try (with_reducible rfl)
            try simp only [Act.put, List.setIfInBounds_toArray, List.set_cons_zero, List.set_cons_succ]
            refine wpAnyH_ready (rs := [11]) (by kernel_rfl) (by simp) ?_
            refine AllReadyH.cons (o := ⟨some 50, _, _, _, _, _⟩) rfl (fun K hK => ?_) AllReadyH.nil
            go_simp
            go_at_call 12
            have hcl := to_cut a al len cap A u4 (HS.out.ids 3 rfl) (by omega)
            refine hcl.mono ?_
            clear hcl
            rintro e u5 ⟨alt3, capt3, rfl, hIt3, hFt3, bu5⟩
            have HIt3 := Lib.hid hIt3
            have HBr := Lib.hid (HBr.out.trans (bu5.mono HBr.out.size))
            have HS := Lib.hid (HSr.out.next HBr.out)
            clear bu5 hIt3
            go_wp2_with fail
            refine hK.out _ _ HS.out (fun _ => ?_)
            clear hK K
            try simp only [Act.put, List.setIfInBounds_toArray, List.set_cons_zero, List.set_cons_succ]
            refine wpAnyH_ready (rs := [13]) (by kernel_rfl) (by simp) ?_
            refine AllReadyH.cons (o := ⟨some 52, _, _, _, _, _⟩) rfl (fun K hK => ?_) AllReadyH.nil
            go_simp
            go_at_call 12
            have hcl := to_cut b al' len' cap' B u5 (HS.out.ids 2 rfl) (by omega)
            refine hcl.mono ?_
            clear hcl
            rintro e u6 ⟨als3, caps3, rfl, hIs3, hFs3, bu6⟩
            have HIt3 := Lib.hid (HIt3.out.below bu6)
            have HIs3 := Lib.hid hIs3
            have HBr := Lib.hid (HBr.out.trans (bu6.mono HBr.out.size))
            have HS := Lib.hid (HSr.out.next HBr.out)
            clear bu6 hIs3
            go_wp2_with fail
            refine hK.out _ _ HS.out (fun _ => ?_)
            clear hK K
            try simp only [Act.put, List.setIfInBounds_toArray, List.set_cons_zero, List.set_cons_succ]
            refine wpAnyH_ready (rs := [14]) (by kernel_rfl) (by simp) ?_
            refine AllReadyH.cons (o := ⟨some 53, _, _, _, _, _⟩) rfl (fun K hK => ?_) AllReadyH.nil
            go_simp
            go_at_call 25
            have hcl := cSame_cut a b alt3 als3 len capt3 len' caps3 A B u6 HIt3.out HIs3.out
            rw [HS0.out] at hcl
            refine hcl.mono ?_
            clear hcl
            rintro e u7 ⟨rfl, bu7⟩
            have HBr := Lib.hid (HBr.out.trans (bu7.mono HBr.out.size))
            have HS := Lib.hid (HSr.out.next HBr.out)
            clear bu7
            go_wp2_with fail
            refine hK.out _ _ HS.out (fun _ => ?_)
            clear hK K
            try simp only [Act.put, List.setIfInBounds_toArray, List.set_cons_zero, List.set_cons_succ]
            refine wpAnyH_ready (rs := [17]) (by kernel_rfl) (by simp) ?_
            refine AllReadyH.cons (o := ⟨some 56, _, _, _, _, _⟩) rfl (fun K hK => ?_) AllReadyH.nil
            go_simp
            go_at_call 14
            have hcl := rSame_cut a b al al' len cap len' cap' A B u7 (HS.out.ids 3 rfl) (HS.out.ids 2 rfl)
            rw [HS0.out] at hcl
            refine hcl.mono ?_
            clear hcl
            rintro e u8 ⟨rfl, bu8⟩
            have HBr := Lib.hid (HBr.out.trans (bu8.mono HBr.out.size))
            have HS := Lib.hid (HSr.out.next HBr.out)
            clear bu8
            go_wp2_with fail
            refine hK.out _ _ HS.out (fun _ => ?_)
            clear hK K
            try simp only [Act.put, List.setIfInBounds_toArray, List.set_cons_zero, List.set_cons_succ]
            refine wpAnyH_take (i := 18) (oi := ⟨some 57, _, _, _, _, _⟩) (v := ?_) rfl (by kernel_rfl) (by kernel_rfl) (by kernel_rfl) (fun _ _ _ h => h) (Or.inl ⟨by rfl, ?_⟩) HS.out ?_
            rotate_left
            · intro w' hSw; clear hSw; go_simp; try (with_reducible rfl)
            try simp only [Act.put, List.setIfInBounds_toArray, List.set_cons_zero, List.set_cons_succ]
            refine wpAnyH_take (i := 19) (oi := ⟨some 58, _, _, _, _, _⟩) (v := ?_) rfl (by kernel_rfl) (by kernel_rfl) (by kernel_rfl) (fun _ _ _ h => h) (Or.inl ⟨by rfl, ?_⟩) HS.out ?_
            rotate_left
            · intro w' hSw; clear hSw; go_simp; try (with_reducible rfl)
            try simp only [Act.put, List.setIfInBounds_toArray, List.set_cons_zero, List.set_cons_succ]
            refine wpAnyH_take (i := 20) (oi := ⟨some 59, _, _, _, _, _⟩) (v := ?_) rfl (by kernel_rfl) (by kernel_rfl) (by kernel_rfl) (fun _ _ _ h => h) (Or.inl ⟨by rfl, ?_⟩) HS.out ?_
            rotate_left
            · intro w' hSw; clear hSw; go_simp; try (with_reducible rfl)
            try simp only [Act.put, List.setIfInBounds_toArray, List.set_cons_zero, List.set_cons_succ]
            refine wpAnyH_take (i := 21) (oi := ⟨some 60, _, _, _, _, _⟩) (v := ?_) rfl (by kernel_rfl) (by kernel_rfl) (by kernel_rfl) (fun _ _ _ h => h) (Or.inl ⟨by rfl, ?_⟩) HS.out ?_
            rotate_left
            · intro w' hSw; obtain ⟨x_0, x_1, x_2, x_3, x_4, x_5, x_6, x_7, x_8⟩ := cut_cells (hSw.blk 1 rfl); go_simp; try (with_reducible rfl)
            try simp only [Act.put, List.setIfInBounds_toArray, List.set_cons_zero, List.set_cons_succ]
            refine wpAnyH_take (i := 23) (oi := ⟨some 62, _, _, _, _, _⟩) (v := ?_) rfl (by kernel_rfl) (by kernel_rfl) (by kernel_rfl) (fun _ _ _ h => h) (Or.inl ⟨by rfl, ?_⟩) HS.out ?_
            rotate_left
            · intro w' hSw; obtain ⟨y_0, y_1, y_2, y_3, y_4, y_5, y_6, y_7, y_8⟩ := cut_cells (hSw.blk 0 rfl); go_simp; try (with_reducible rfl)
            try simp only [Act.put, List.setIfInBounds_toArray, List.set_cons_zero, List.set_cons_succ]
            refine wpAnyH_ready (rs := [22]) (by kernel_rfl) (by simp) ?_
            refine AllReadyH.cons (o := ⟨some 61, _, _, _, _, _⟩) rfl (fun K hK => ?_) AllReadyH.nil
            go_simp
            go_at_call 15
            have hcl := from_cut jv alx jn capx u8
            refine hcl.mono ?_
            clear hcl
            rintro e u9 ⟨rfl, bu9⟩
            have HBr := Lib.hid (HBr.out.trans (bu9.mono HBr.out.size))
            have HS := Lib.hid (HSr.out.next HBr.out)
            clear bu9
            go_wp2_with fail
            refine hK.out _ _ HS.out (fun _ => ?_)
            clear hK K
            try simp only [Act.put, List.setIfInBounds_toArray, List.set_cons_zero, List.set_cons_succ]
            refine wpAnyH_ready (rs := [24]) (by kernel_rfl) (by simp) ?_
            refine AllReadyH.cons (o := ⟨some 63, _, _, _, _, _⟩) rfl (fun K hK => ?_) AllReadyH.nil
            go_simp
            go_at_call 14
            have hcl := rSame_cut jv jv alx aly jn capx jn capy jS jS u9 (HS.out.ids 1 rfl) (HS.out.ids 0 rfl)
            rw [eqC_twin] at hcl
            refine hcl.mono ?_
            clear hcl
            rintro e u10 ⟨rfl, bu10⟩
            have HBr := Lib.hid (HBr.out.trans (bu10.mono HBr.out.size))
            have HS := Lib.hid (HSr.out.next HBr.out)
            clear bu10
            go_wp2_with fail
            refine hK.out _ _ HS.out (fun _ => ?_)
            clear hK K
            try simp only [Act.put, List.setIfInBounds_toArray, List.set_cons_zero, List.set_cons_succ]
            refine wpAnyH_take (i := 25) (oi := ⟨some 64, _, _, _, _, _⟩) (v := ?_) rfl (by kernel_rfl) (by kernel_rfl) (by kernel_rfl) (fun _ _ _ h => h) (Or.inl ⟨by rfl, ?_⟩) HS.out ?_
            rotate_left
            · intro w' hSw; clear hSw; go_simp; try (with_reducible rfl)
            try simp only [Act.put, List.setIfInBounds_toArray, List.set_cons_zero, List.set_cons_succ]
            refine wpAnyH_take (i := 26) (oi := ⟨some 65, _, _, _, _, _⟩) (v := ?_) rfl (by kernel_rfl) (by kernel_rfl) (by kernel_rfl) (fun _ _ _ h => h) (Or.inl ⟨by rfl, ?_⟩) HS.out ?_
            rotate_left
            · intro w' hSw; clear hSw; go_simp; try (with_reducible rfl)
            try simp only [Act.put, List.setIfInBounds_toArray, List.set_cons_zero, List.set_cons_succ]
            refine wpAnyH_take (i := 27) (oi := ⟨some 66, _, _, _, _, _⟩) (v := ?_) rfl (by kernel_rfl) (by kernel_rfl) (by kernel_rfl) (fun _ _ _ h => h) (Or.inl ⟨by rfl, ?_⟩) HS.out ?_
            rotate_left
            · intro w' hSw; clear hSw; go_simp; try (with_reducible rfl)
            try simp only [Act.put, List.setIfInBounds_toArray, List.set_cons_zero, List.set_cons_succ]
            refine wpAnyH_take (i := 28) (oi := ⟨some 67, _, _, _, _, _⟩) (v := ?_) rfl (by kernel_rfl) (by kernel_rfl) (by kernel_rfl) (fun _ _ _ h => h) (Or.inl ⟨by rfl, ?_⟩) HS.out ?_
            rotate_left
            · intro w' hSw; clear hSw; go_simp; try (with_reducible rfl)
            try simp only [Act.put, List.setIfInBounds_toArray, List.set_cons_zero, List.set_cons_succ]
            refine wpAnyH_take (i := 29) (oi := ⟨some 68, _, _, _, _, _⟩) (v := ?_) rfl (by kernel_rfl) (by kernel_rfl) (by kernel_rfl) (fun _ _ _ h => h) (Or.inl ⟨by rfl, ?_⟩) HS.out ?_
            rotate_left
            · intro w' hSw; clear hSw; go_simp; try (with_reducible rfl)
            try simp only [Act.put, List.setIfInBounds_toArray, List.set_cons_zero, List.set_cons_succ]
            refine wpAnyH_take (i := 30) (oi := ⟨some 69, _, _, _, _, _⟩) (v := ?_) rfl (by kernel_rfl) (by kernel_rfl) (by kernel_rfl) (fun _ _ _ h => h) (Or.inl ⟨by rfl, ?_⟩) HS.out ?_
            rotate_left
            · intro w' hSw; clear hSw; go_simp; try (with_reducible rfl)
            try simp only [Act.put, List.setIfInBounds_toArray, List.set_cons_zero, List.set_cons_succ]
            refine wpAnyH_take (i := 31) (oi := ⟨some 4, _, _, _, _, _⟩) (v := ?_) rfl (by kernel_rfl) (by kernel_rfl) (by kernel_rfl) (fun _ _ _ h => h) (Or.inl ⟨by rfl, ?_⟩) HS.out ?_
            rotate_left
            · intro w' hSw; clear hSw; go_simp; try (with_reducible rfl)
            try simp only [Act.put, List.setIfInBounds_toArray, List.set_cons_zero, List.set_cons_succ]
            refine wpAnyH_done (by kernel_rfl) ?_ _
            go_wp2_with fail
            go_ret
            exact ⟨rfl, HS.out.bel⟩
theorem cutTwo_walk (a : Nat → Int) (al : Option Addr) (len cap : Nat) (A : List (Int × Int)) (b : Nat → Int) (al' : Option Addr) (len' cap' : Nat) (B : List (Int × Int)) (w : World) (ha : ∀ i, i < 8 → (Lit.int .u32 (a i)).wf = true) (hA : Ids w al len cap A) (hb : ∀ i, i < 8 → (Lit.int .u32 (b i)).wf = true) (hB : Ids w al' len' cap' B) :
    Calls Try.prog 4 #[.agg #[.int .u32 (a 0), .int .u32 (a 1), .int .u32 (a 2), .int .u32 (a 3), .int .u32 (a 4), .int .u32 (a 5), .int .u32 (a 6), .int .u32 (a 7), .slice al len cap], .agg #[.int .u32 (b 0), .int .u32 (b 1), .int .u32 (b 2), .int .u32 (b 3), .int .u32 (b 4), .int .u32 (b 5), .int .u32 (b 6), .int .u32 (b 7), .slice al' len' cap']] w fun e w' => e = .returned (.bool true) ∧ Below w.heap.size w w' :=
  cutTwo_if ckC_ckD a al len cap A b al' len' cap' B w ha hA hb hB
end Go.Proofs.Ythbdjgebpjffgaa
