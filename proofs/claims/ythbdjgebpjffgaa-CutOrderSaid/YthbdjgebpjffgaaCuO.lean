/-
  The walk of the law CutOrder.
  Conditions: none.
-/
import Derived.Test.YthbdjgebpjffgaaCuK
set_option linter.unusedVariables false
set_option linter.unusedSimpArgs false
namespace Go.Proofs.Ythbdjgebpjffgaa
open Go.RowKit Go.Shelf Go.Lib Go.Sort

theorem made_ok {a : Nat → Int} {L : List (Int × Int)} (ha : InB a) (h : cmC a L = 0) : InB (cmV a L) ∧ IsC (cmV a L) (cmS a L) ∧ ckC (cmV a L) (cmS a L) = 0 :=
  ⟨cm_in L ha, cm_is ha h, (ckC_iff (cm_in L ha)).2 (cm_is ha h)⟩
/-- Of three answers: the first two say the third. -/
def Tra (x y z : Bool) : Prop := x = true → y = true → z = true
/-- What LE tells of three cuts. -/
theorem or_facts {p r s : Nat → Int} {P R S : List (Int × Int)} (hp : IsC p P) (hr : IsC r R) (cp : ckC p P = 0) (cr : ckC r R = 0) (cs : ckC s S = 0) :
    leP p P p P = true ∧ Tra (leP p P r R) (leP r R s S) (leP p P s S) ∧ (leP p P r R && leP r R p P) = eqC p P r R := by
  rw [leP_c cp cp, leP_c cp cr, leP_c cr cs, leP_c cp cs, leP_c cr cp]
  exact ⟨le_self p P, le_tra, le_both hp hr⟩

set_option maxRecDepth 100000 in
set_option maxHeartbeats 8000000 in
theorem cutOrder_walk (a : Nat → Int) (al : Option Addr) (len cap : Nat) (L : List (Int × Int)) (b : Nat → Int) (al' : Option Addr) (len' cap' : Nat) (M : List (Int × Int)) (d : Nat → Int) (al'' : Option Addr) (len'' cap'' : Nat) (N : List (Int × Int)) (w : World) (ha : ∀ i, i < 8 → (Lit.int .u32 (a i)).wf = true) (hL : Ids w al len cap L) (hb : ∀ i, i < 8 → (Lit.int .u32 (b i)).wf = true) (hM : Ids w al' len' cap' M) (hd : ∀ i, i < 8 → (Lit.int .u32 (d i)).wf = true) (hN : Ids w al'' len'' cap'' N) :
    Calls Try.prog 6 #[.agg #[.int .u32 (a 0), .int .u32 (a 1), .int .u32 (a 2), .int .u32 (a 3), .int .u32 (a 4), .int .u32 (a 5), .int .u32 (a 6), .int .u32 (a 7), .slice al len cap], .agg #[.int .u32 (b 0), .int .u32 (b 1), .int .u32 (b 2), .int .u32 (b 3), .int .u32 (b 4), .int .u32 (b 5), .int .u32 (b 6), .int .u32 (b 7), .slice al' len' cap'], .agg #[.int .u32 (d 0), .int .u32 (d 1), .int .u32 (d 2), .int .u32 (d 3), .int .u32 (d 4), .int .u32 (d 5), .int .u32 (d 6), .int .u32 (d 7), .slice al'' len'' cap'']] w fun e w' => e = .returned (.bool true) ∧ Below w.heap.size w w' := by
  obtain ⟨ti, hi, hz0, hz1, hz2⟩ := info_parts Try.infoId
  have hina : InB a := fun i hi => by have := bounds_u32 (ha i hi); omega
  have HINa := Lib.hid hina
  have hcapL := hL.bd
  have hfitL := hL.fit
  have hinb : InB b := fun i hi => by have := bounds_u32 (hb i hi); omega
  have HINb := Lib.hid hinb
  have hcapM := hM.bd
  have hfitM := hM.fit
  have hind : InB d := fun i hi => by have := bounds_u32 (hd i hi); omega
  have HINd := Lib.hid hind
  have hcapN := hN.bd
  have hfitN := hN.fit
  have h0 := ((((((KS.nil w).add hL).add hM).add hN).box rfl #[.int .u32 (a 0), .int .u32 (a 1), .int .u32 (a 2), .int .u32 (a 3), .int .u32 (a 4), .int .u32 (a 5), .int .u32 (a 6), .int .u32 (a 7), .slice al len cap] 27).box (g := w.heap.size + 1) (by simp) #[.int .u32 (b 0), .int .u32 (b 1), .int .u32 (b 2), .int .u32 (b 3), .int .u32 (b 4), .int .u32 (b 5), .int .u32 (b 6), .int .u32 (b 7), .slice al' len' cap'] 27).box (g := w.heap.size + 1 + 1) (by simp) #[.int .u32 (d 0), .int .u32 (d 1), .int .u32 (d 2), .int .u32 (d 3), .int .u32 (d 4), .int .u32 (d 5), .int .u32 (d 6), .int .u32 (d 7), .slice al'' len'' cap''] 27
  have H0 := Lib.hid h0
  clear h0 hL hM hN ha hb hd hina hinb hind
  obtain ⟨v1, hv1⟩ : ∃ u, cmV a L = u := ⟨_, rfl⟩
  obtain ⟨S1, hs1⟩ : ∃ R, cmS a L = R := ⟨_, rfl⟩
  obtain ⟨c1, hc1⟩ : ∃ c, cmC a L = c := ⟨_, rfl⟩
  obtain ⟨n1, hn1⟩ : ∃ n, S1.length = n := ⟨_, rfl⟩
  have HV1 := Lib.hid hv1; have HS1 := Lib.hid hs1; have HC1 := Lib.hid hc1; have HN1 := Lib.hid hn1; clear hv1 hs1 hc1 hn1
  obtain ⟨v2, hv2⟩ : ∃ u, cmV b M = u := ⟨_, rfl⟩
  obtain ⟨S2, hs2⟩ : ∃ R, cmS b M = R := ⟨_, rfl⟩
  obtain ⟨c2, hc2⟩ : ∃ c, cmC b M = c := ⟨_, rfl⟩
  obtain ⟨n2, hn2⟩ : ∃ n, S2.length = n := ⟨_, rfl⟩
  have HV2 := Lib.hid hv2; have HS2 := Lib.hid hs2; have HC2 := Lib.hid hc2; have HN2 := Lib.hid hn2; clear hv2 hs2 hc2 hn2
  obtain ⟨v3, hv3⟩ : ∃ u, cmV d N = u := ⟨_, rfl⟩
  obtain ⟨S3, hs3⟩ : ∃ R, cmS d N = R := ⟨_, rfl⟩
  obtain ⟨c3, hc3⟩ : ∃ c, cmC d N = c := ⟨_, rfl⟩
  obtain ⟨n3, hn3⟩ : ∃ n, S3.length = n := ⟨_, rfl⟩
  have HV3 := Lib.hid hv3; have HS3 := Lib.hid hs3; have HC3 := Lib.hid hc3; have HN3 := Lib.hid hn3; clear hv3 hs3 hc3 hn3
  go_enter Try.func6, Try.ntmps6
  go_wp2_with fail
  refine (cworks_any _).mono ?_
  rintro e w1 ⟨rfl, b1⟩
  have H1 := Lib.hid (H0.out.next b1)
  clear b1
  have x8 := (cut_cells (H1.out.blk 2 rfl)).2.2.2.2.2.2.2.2
  go_wp2_with fail
  refine (great_any al len cap _ hfitL hcapL).mono ?_
  cases hg1 : greatB len with
  | true =>
    rintro e w2 ⟨rfl, b2⟩
    have HB := Lib.hid (H1.out.next b2).bel
    clear b2 x8
    go_wp2
    go_ret
    exact ⟨rfl, HB.out⟩
  | false =>
    have hle1 := great_le hg1
    rintro e w2 ⟨rfl, b2⟩
    have H2 := Lib.hid (H1.out.next b2)
    clear b2 x8 hg1
    have x8 := (cut_cells (H2.out.blk 1 rfl)).2.2.2.2.2.2.2.2
    go_wp2_with fail
    refine (great_any al' len' cap' _ hfitM hcapM).mono ?_
    cases hg2 : greatB len' with
    | true =>
      rintro e w3 ⟨rfl, b3⟩
      have HB := Lib.hid (H2.out.next b3).bel
      clear b3 x8
      go_wp2
      go_ret
      exact ⟨rfl, HB.out⟩
    | false =>
      have hle2 := great_le hg2
      rintro e w3 ⟨rfl, b3⟩
      have H3 := Lib.hid (H2.out.next b3)
      clear b3 x8 hg2
      have x8 := (cut_cells (H3.out.blk 0 rfl)).2.2.2.2.2.2.2.2
      go_wp2_with fail
      refine (great_any al'' len'' cap'' _ hfitN hcapN).mono ?_
      cases hg3 : greatB len'' with
      | true =>
        rintro e w4 ⟨rfl, b4⟩
        have HB := Lib.hid (H3.out.next b4).bel
        clear b4 x8
        go_wp2
        go_ret
        exact ⟨rfl, HB.out⟩
      | false =>
        have hle3 := great_le hg3
        rintro e w4 ⟨rfl, b4⟩
        have H4 := Lib.hid (H3.out.next b4)
        clear b4 x8 hg3
        go_upto_region 5 with fail
        go_cut [7, 8] (fun sx sy wx => ∃ (g1 : Nat) (al1 : Option Addr) (cap1 : Nat), sx = .pointer (some ⟨g1, 0, none⟩) ∧ sy = .int .i64 c1 ∧ Flat al1 ∧ KS w [(g1, #[.int .u32 (v1 0), .int .u32 (v1 1), .int .u32 (v1 2), .int .u32 (v1 3), .int .u32 (v1 4), .int .u32 (v1 5), .int .u32 (v1 6), .int .u32 (v1 7), .slice al1 n1 cap1], 31), (w.heap.size + 1 + 1, #[.int .u32 (d 0), .int .u32 (d 1), .int .u32 (d 2), .int .u32 (d 3), .int .u32 (d 4), .int .u32 (d 5), .int .u32 (d 6), .int .u32 (d 7), .slice al'' len'' cap''], 27), (w.heap.size + 1, #[.int .u32 (b 0), .int .u32 (b 1), .int .u32 (b 2), .int .u32 (b 3), .int .u32 (b 4), .int .u32 (b 5), .int .u32 (b 6), .int .u32 (b 7), .slice al' len' cap'], 27), (w.heap.size, #[.int .u32 (a 0), .int .u32 (a 1), .int .u32 (a 2), .int .u32 (a 3), .int .u32 (a 4), .int .u32 (a 5), .int .u32 (a 6), .int .u32 (a 7), .slice al len cap], 27)] [(al1, n1, cap1, S1), (al'', len'', cap'', N), (al', len', cap', M), (al, len, cap, L)] wx)
        case first =>
          refine wp_region_held_drew (S := KS w [(w.heap.size + 1 + 1, #[.int .u32 (d 0), .int .u32 (d 1), .int .u32 (d 2), .int .u32 (d 3), .int .u32 (d 4), .int .u32 (d 5), .int .u32 (d 6), .int .u32 (d 7), .slice al'' len'' cap''], 27), (w.heap.size + 1, #[.int .u32 (b 0), .int .u32 (b 1), .int .u32 (b 2), .int .u32 (b 3), .int .u32 (b 4), .int .u32 (b 5), .int .u32 (b 6), .int .u32 (b 7), .slice al' len' cap'], 27), (w.heap.size, #[.int .u32 (a 0), .int .u32 (a 1), .int .u32 (a 2), .int .u32 (a 3), .int .u32 (a 4), .int .u32 (a 5), .int .u32 (a 6), .int .u32 (a 7), .slice al len cap], 27)] [(al'', len'', cap'', N), (al', len', cap', M), (al, len, cap, L)]) (by kernel_rfl) H4.out.drew (fun _ => ?_)
          have HS := Lib.hid H4.out.drew
          generalize w4.drew = wr at HS ⊢
          refine wpAnyH_take (i := 0) (oi := ⟨some 29, _, _, _, _, _⟩) (v := ?_) rfl (by kernel_rfl) (by kernel_rfl) (by kernel_rfl) (fun _ _ _ h => h) (Or.inl ⟨by rfl, ?_⟩) HS.out ?_
          rotate_left
          · intro w' hSw; clear hSw; go_simp; try (with_reducible rfl)
          try simp only [Act.put, List.setIfInBounds_toArray, List.set_cons_zero, List.set_cons_succ]
          refine wpAnyH_take (i := 1) (oi := ⟨some 30, _, _, _, _, _⟩) (v := ?_) rfl (by kernel_rfl) (by kernel_rfl) (by kernel_rfl) (fun _ _ _ h => h) (Or.inl ⟨by rfl, ?_⟩) HS.out ?_
          rotate_left
          · intro w' hSw; obtain ⟨a_0, a_1, a_2, a_3, a_4, a_5, a_6, a_7, a_8⟩ := cut_cells (hSw.blk 2 rfl); go_simp; try (with_reducible rfl)
          try simp only [Act.put, List.setIfInBounds_toArray, List.set_cons_zero, List.set_cons_succ]
          refine wpAnyH_take (i := 3) (oi := ⟨some 32, _, _, _, _, _⟩) (v := ?_) rfl (by kernel_rfl) (by kernel_rfl) (by kernel_rfl) (fun _ _ _ h => h) (Or.inl ⟨by rfl, ?_⟩) HS.out ?_
          rotate_left
          · intro w' hSw; clear hSw; go_simp; try (with_reducible rfl)
          try simp only [Act.put, List.setIfInBounds_toArray, List.set_cons_zero, List.set_cons_succ]
          refine wpAnyH_take (i := 4) (oi := ⟨some 33, _, _, _, _, _⟩) (v := ?_) rfl (by kernel_rfl) (by kernel_rfl) (by kernel_rfl) (fun _ _ _ h => h) (Or.inl ⟨by rfl, ?_⟩) HS.out ?_
          rotate_left
          · intro w' hSw; obtain ⟨a_0, a_1, a_2, a_3, a_4, a_5, a_6, a_7, a_8⟩ := cut_cells (hSw.blk 2 rfl); go_simp; try (with_reducible rfl)
          try simp only [Act.put, List.setIfInBounds_toArray, List.set_cons_zero, List.set_cons_succ]
          refine wpAnyH_ready (rs := [2, 10]) (by kernel_rfl) (by simp) ?_
          refine AllReadyH.cons (o := ⟨some 31, _, _, _, _, _⟩) rfl (fun K hK => ?_) (AllReadyH.cons (o := ⟨some 7, _, _, _, _, _⟩) rfl (fun K hK => ?_) AllReadyH.nil)
          · go_simp
            have HS0 := HS
            have HB0 := Lib.hid ((Below.refl wr.heap.size wr).alloc (Nat.le_refl _) (.cells #[] 29))
            refine hK.out _ _ (HS.out.alloc _) (fun _ => ?_)
            clear hK K
            try simp only [Act.put, List.setIfInBounds_toArray, List.set_cons_zero, List.set_cons_succ]
            have HO := Lib.hid (lit_own wr)
            have HS := Lib.hid (HS.out.alloc (.cells #[] 29))
            refine wpAnyH_ready (rs := [5, 10]) (by kernel_rfl) (by simp) ?_
            refine AllReadyH.cons (o := ⟨some 34, _, _, _, _, _⟩) rfl (fun K hK => ?_) (AllReadyH.cons (o := ⟨some 7, _, _, _, _, _⟩) rfl (fun K hK => ?_) AllReadyH.nil)
            · refine if_yes rfl ?_
              refine wp_append_list (.tmp 31) (.tmp 33) rfl wr.heap.size ti hi hz0 hz1 hz2 _ _ [] rfl HO.out al len cap L rfl (HS.out.ids 2 rfl) (by omega) HB0.out.size ?_
              intro va wa hoa hga
              have hba : Below wr.heap.size wr wa := HB0.out.grown hga HB0.out.size (fun k hk => own_base HO.out k hk)
              obtain ⟨ala, capa, rfl, hIa, hFa⟩ := app_got hoa
              have HIa := Lib.hid hIa
              have HS := Lib.hid (HS0.out.next hba)
              clear hoa hga hba hIa HO HB0
              refine hK.out _ _ HS.out (fun _ => ?_)
              clear hK K
              try simp only [Act.put, List.setIfInBounds_toArray, List.set_cons_zero, List.set_cons_succ]
              refine wpAnyH_ready (rs := [6, 10]) (by kernel_rfl) (by simp) ?_
              refine AllReadyH.cons (o := ⟨some 35, _, _, _, _, _⟩) rfl (fun K hK => ?_) (AllReadyH.cons (o := ⟨some 7, _, _, _, _, _⟩) rfl (fun K hK => ?_) AllReadyH.nil)
              · go_simp
                go_at_call 9
                have hmk := cMake_cut a ala len capa L _ HIa.out hFa HINa.out
                rw [HV1.out, HS1.out, HC1.out, HN1.out] at hmk
                refine hmk.mono ?_
                clear hmk
                rintro e wm ⟨alr, capr, rfl, hIr, hFr, bm⟩
                have HIR := Lib.hid hIr
                have HFR := Lib.hid hFr
                have HS := Lib.hid (HS.out.next bm)
                clear bm hIr hFr HIa
                go_wp2_with fail
                refine hK.out _ _ HS.out (fun _ => ?_)
                clear hK K
                try simp only [Act.put, List.setIfInBounds_toArray, List.set_cons_zero, List.set_cons_succ]
                refine wpAnyH_take (i := 7) (oi := ⟨some 28, _, _, _, _, _⟩) (v := ?_) rfl (by kernel_rfl) (by kernel_rfl) (by kernel_rfl) (fun _ _ _ h => h) (Or.inl ⟨by rfl, ?_⟩) HS.out ?_
                rotate_left
                · intro w' hSw; clear hSw; go_simp; try (with_reducible rfl)
                try simp only [Act.put, List.setIfInBounds_toArray, List.set_cons_zero, List.set_cons_succ]
                refine wpAnyH_take (i := 8) (oi := ⟨some 36, _, _, _, _, _⟩) (v := ?_) rfl (by kernel_rfl) (by kernel_rfl) (by kernel_rfl) (fun _ _ _ h => h) (Or.inl ⟨by rfl, ?_⟩) HS.out ?_
                rotate_left
                · intro w' hSw; clear hSw; go_simp; try (with_reducible rfl)
                try simp only [Act.put, List.setIfInBounds_toArray, List.set_cons_zero, List.set_cons_succ]
                refine wpAnyH_take (i := 9) (oi := ⟨some 37, _, _, _, _, _⟩) (v := ?_) rfl (by kernel_rfl) (by kernel_rfl) (by kernel_rfl) (fun _ _ _ h => h) (Or.inl ⟨by rfl, ?_⟩) HS.out ?_
                rotate_left
                · intro w' hSw; clear hSw; go_simp; try (with_reducible rfl)
                try simp only [Act.put, List.setIfInBounds_toArray, List.set_cons_zero, List.set_cons_succ]
                refine wpAnyH_ready (rs := [10]) (by kernel_rfl) (by simp) ?_
                refine AllReadyH.cons (o := ⟨some 7, _, _, _, _, _⟩) rfl (fun K hK => ?_) AllReadyH.nil
                go_simp
                have HG := Lib.hid (KS.ne HS.out)
                refine hK.out _ _ (HS.out.alloc _) (fun _ => ?_)
                clear hK K
                try simp only [Act.put, List.setIfInBounds_toArray, List.set_cons_zero, List.set_cons_succ]
                have HZ := Lib.hid (Blk.new wm #[.int .u32 0, .int .u32 0, .int .u32 0, .int .u32 0, .int .u32 0, .int .u32 0, .int .u32 0, .int .u32 0, .slice none 0 0] 31)
                have HS := Lib.hid (HS.out.alloc (.cells #[.int .u32 0, .int .u32 0, .int .u32 0, .int .u32 0, .int .u32 0, .int .u32 0, .int .u32 0, .int .u32 0, .slice none 0 0] 31))
                have HIR := Lib.hid (HIR.out.below ((Below.refl _ _).alloc (Nat.le_refl _) (.cells #[.int .u32 0, .int .u32 0, .int .u32 0, .int .u32 0, .int .u32 0, .int .u32 0, .int .u32 0, .int .u32 0, .slice none 0 0] 31)))
                refine wpAnyH_ready (rs := [11]) (by kernel_rfl) (by simp) ?_
                refine AllReadyH.cons (o := ⟨none, _, _, _, _, _⟩) rfl (fun K hK => ?_) AllReadyH.nil
                refine if_yes rfl ?_
                refine wp_store_row 31 (.tmp 7) (.tmp 36) rfl (wm.heap.size) #[.int .u32 (v1 0), .int .u32 (v1 1), .int .u32 (v1 2), .int .u32 (v1 3), .int .u32 (v1 4), .int .u32 (v1 5), .int .u32 (v1 6), .int .u32 (v1 7), .slice alr n1 capr] rfl rfl 31 _ HZ.out (by kernel_rfl) rfl (cut_one _ _ _ _) ?_
                refine hK.out _ _ (HS.out.row HZ.out HG.out.1 HG.out.2 _) (fun _ => ?_)
                clear hK K
                try simp only [Act.put, List.setIfInBounds_toArray, List.set_cons_zero, List.set_cons_succ]
                have HS := Lib.hid (HS.out.row HZ.out HG.out.1 HG.out.2 #[.int .u32 (v1 0), .int .u32 (v1 1), .int .u32 (v1 2), .int .u32 (v1 3), .int .u32 (v1 4), .int .u32 (v1 5), .int .u32 (v1 6), .int .u32 (v1 7), .slice alr n1 capr])
                refine wpAnyH_take (i := 12) (oi := ⟨some 8, _, _, _, _, _⟩) (v := ?_) rfl (by kernel_rfl) (by kernel_rfl) (by kernel_rfl) (fun _ _ _ h => h) (Or.inl ⟨by rfl, ?_⟩) HS.out ?_
                rotate_left
                · intro w' hSw; clear hSw; go_simp; try (with_reducible rfl)
                try simp only [Act.put, List.setIfInBounds_toArray, List.set_cons_zero, List.set_cons_succ]
                refine wpAnyH_done (by kernel_rfl) ?_ _
                go_wp2_with fail
                go_meet
                exact ⟨wm.heap.size, alr, capr, rfl, rfl, HFR.out, (HS.out.put (setRow_heap _ _ _ #[.int .u32 (v1 0), .int .u32 (v1 1), .int .u32 (v1 2), .int .u32 (v1 3), .int .u32 (v1 4), .int .u32 (v1 5), .int .u32 (v1 6), .int .u32 (v1 7), .slice alr n1 capr] _ _ HZ.out)).add (ids_rowC HIR.out HZ.out _)⟩
              · go_simp
                have HG := Lib.hid (KS.ne HS.out)
                refine hK.out _ _ (HS.out.alloc _) (fun _ => ?_)
                clear hK K
                try simp only [Act.put, List.setIfInBounds_toArray, List.set_cons_zero, List.set_cons_succ]
                have HZ := Lib.hid (Blk.new wa #[.int .u32 0, .int .u32 0, .int .u32 0, .int .u32 0, .int .u32 0, .int .u32 0, .int .u32 0, .int .u32 0, .slice none 0 0] 31)
                have HS := Lib.hid (HS.out.alloc (.cells #[.int .u32 0, .int .u32 0, .int .u32 0, .int .u32 0, .int .u32 0, .int .u32 0, .int .u32 0, .int .u32 0, .slice none 0 0] 31))
                have HGL := Lib.hid HZ.out.lt
                have HIa := Lib.hid (HIa.out.below ((Below.refl _ _).alloc (Nat.le_refl _) (.cells #[.int .u32 0, .int .u32 0, .int .u32 0, .int .u32 0, .int .u32 0, .int .u32 0, .int .u32 0, .int .u32 0, .slice none 0 0] 31)))
                generalize hgz : wa.heap.size = gz at HG HZ HGL ⊢
                generalize wa.alloc (.cells #[.int .u32 0, .int .u32 0, .int .u32 0, .int .u32 0, .int .u32 0, .int .u32 0, .int .u32 0, .int .u32 0, .slice none 0 0] 31) = wz1 at HS HZ HGL HIa ⊢
                clear hgz
                refine wpAnyH_ready (rs := [6]) (by kernel_rfl) (by simp) ?_
                refine AllReadyH.cons (o := ⟨some 35, _, _, _, _, _⟩) rfl (fun K hK => ?_) AllReadyH.nil
                go_simp
                go_at_call 9
                have hmk := cMake_cut a ala len capa L _ HIa.out hFa HINa.out
                rw [HV1.out, HS1.out, HC1.out, HN1.out] at hmk
                refine hmk.mono ?_
                clear hmk
                rintro e wm ⟨alr, capr, rfl, hIr, hFr, bm⟩
                have HIR := Lib.hid hIr
                have HFR := Lib.hid hFr
                have HZ := Lib.hid (HZ.out.below bm)
                have HS := Lib.hid (HS.out.next bm)
                clear bm hIr hFr HIa
                go_wp2_with fail
                refine hK.out _ _ HS.out (fun _ => ?_)
                clear hK K
                try simp only [Act.put, List.setIfInBounds_toArray, List.set_cons_zero, List.set_cons_succ]
                refine wpAnyH_take (i := 7) (oi := ⟨some 28, _, _, _, _, _⟩) (v := ?_) rfl (by kernel_rfl) (by kernel_rfl) (by kernel_rfl) (fun _ _ _ h => h) (Or.inl ⟨by rfl, ?_⟩) HS.out ?_
                rotate_left
                · intro w' hSw; clear hSw; go_simp; try (with_reducible rfl)
                try simp only [Act.put, List.setIfInBounds_toArray, List.set_cons_zero, List.set_cons_succ]
                refine wpAnyH_take (i := 8) (oi := ⟨some 36, _, _, _, _, _⟩) (v := ?_) rfl (by kernel_rfl) (by kernel_rfl) (by kernel_rfl) (fun _ _ _ h => h) (Or.inl ⟨by rfl, ?_⟩) HS.out ?_
                rotate_left
                · intro w' hSw; clear hSw; go_simp; try (with_reducible rfl)
                try simp only [Act.put, List.setIfInBounds_toArray, List.set_cons_zero, List.set_cons_succ]
                refine wpAnyH_take (i := 9) (oi := ⟨some 37, _, _, _, _, _⟩) (v := ?_) rfl (by kernel_rfl) (by kernel_rfl) (by kernel_rfl) (fun _ _ _ h => h) (Or.inl ⟨by rfl, ?_⟩) HS.out ?_
                rotate_left
                · intro w' hSw; clear hSw; go_simp; try (with_reducible rfl)
                try simp only [Act.put, List.setIfInBounds_toArray, List.set_cons_zero, List.set_cons_succ]
                refine wpAnyH_ready (rs := [11]) (by kernel_rfl) (by simp) ?_
                refine AllReadyH.cons (o := ⟨none, _, _, _, _, _⟩) rfl (fun K hK => ?_) AllReadyH.nil
                refine if_yes rfl ?_
                refine wp_store_row 31 (.tmp 7) (.tmp 36) rfl (gz) #[.int .u32 (v1 0), .int .u32 (v1 1), .int .u32 (v1 2), .int .u32 (v1 3), .int .u32 (v1 4), .int .u32 (v1 5), .int .u32 (v1 6), .int .u32 (v1 7), .slice alr n1 capr] rfl rfl 31 _ HZ.out (by kernel_rfl) rfl (cut_one _ _ _ _) ?_
                refine hK.out _ _ (HS.out.row HZ.out HG.out.1 HG.out.2 _) (fun _ => ?_)
                clear hK K
                try simp only [Act.put, List.setIfInBounds_toArray, List.set_cons_zero, List.set_cons_succ]
                have HS := Lib.hid (HS.out.row HZ.out HG.out.1 HG.out.2 #[.int .u32 (v1 0), .int .u32 (v1 1), .int .u32 (v1 2), .int .u32 (v1 3), .int .u32 (v1 4), .int .u32 (v1 5), .int .u32 (v1 6), .int .u32 (v1 7), .slice alr n1 capr])
                refine wpAnyH_take (i := 12) (oi := ⟨some 8, _, _, _, _, _⟩) (v := ?_) rfl (by kernel_rfl) (by kernel_rfl) (by kernel_rfl) (fun _ _ _ h => h) (Or.inl ⟨by rfl, ?_⟩) HS.out ?_
                rotate_left
                · intro w' hSw; clear hSw; go_simp; try (with_reducible rfl)
                try simp only [Act.put, List.setIfInBounds_toArray, List.set_cons_zero, List.set_cons_succ]
                refine wpAnyH_done (by kernel_rfl) ?_ _
                go_wp2_with fail
                go_meet
                exact ⟨gz, alr, capr, rfl, rfl, HFR.out, (HS.out.put (setRow_heap _ _ _ #[.int .u32 (v1 0), .int .u32 (v1 1), .int .u32 (v1 2), .int .u32 (v1 3), .int .u32 (v1 4), .int .u32 (v1 5), .int .u32 (v1 6), .int .u32 (v1 7), .slice alr n1 capr] _ _ HZ.out)).add (ids_rowC HIR.out HZ.out _)⟩
            · go_simp
              have HG := Lib.hid (KS.ne HS.out)
              refine hK.out _ _ (HS.out.alloc _) (fun _ => ?_)
              clear hK K
              try simp only [Act.put, List.setIfInBounds_toArray, List.set_cons_zero, List.set_cons_succ]
              have HZ := Lib.hid (blk_newS (W := wr) (.cells #[] 29) #[.int .u32 0, .int .u32 0, .int .u32 0, .int .u32 0, .int .u32 0, .int .u32 0, .int .u32 0, .int .u32 0, .slice none 0 0] 31)
              have HS := Lib.hid (HS.out.alloc (.cells #[.int .u32 0, .int .u32 0, .int .u32 0, .int .u32 0, .int .u32 0, .int .u32 0, .int .u32 0, .int .u32 0, .slice none 0 0] 31))
              have HB0 := Lib.hid (HB0.out.alloc HB0.out.size (.cells #[.int .u32 0, .int .u32 0, .int .u32 0, .int .u32 0, .int .u32 0, .int .u32 0, .int .u32 0, .int .u32 0, .slice none 0 0] 31))
              have HO := Lib.hid (HO.out.alloc (.cells #[.int .u32 0, .int .u32 0, .int .u32 0, .int .u32 0, .int .u32 0, .int .u32 0, .int .u32 0, .int .u32 0, .slice none 0 0] 31))
              have HG := Lib.hid (show (∀ x, x ∈ ([(w.heap.size + 1 + 1, #[.int .u32 (d 0), .int .u32 (d 1), .int .u32 (d 2), .int .u32 (d 3), .int .u32 (d 4), .int .u32 (d 5), .int .u32 (d 6), .int .u32 (d 7), .slice al'' len'' cap''], 27), (w.heap.size + 1, #[.int .u32 (b 0), .int .u32 (b 1), .int .u32 (b 2), .int .u32 (b 3), .int .u32 (b 4), .int .u32 (b 5), .int .u32 (b 6), .int .u32 (b 7), .slice al' len' cap'], 27), (w.heap.size, #[.int .u32 (a 0), .int .u32 (a 1), .int .u32 (a 2), .int .u32 (a 3), .int .u32 (a 4), .int .u32 (a 5), .int .u32 (a 6), .int .u32 (a 7), .slice al len cap], 27)] : List Bx) → x.1 ≠ wr.heap.size + 1) ∧ w.heap.size ≤ wr.heap.size + 1 from by simpa using HG.out)
              refine wpAnyH_ready (rs := [5]) (by kernel_rfl) (by simp) ?_
              refine AllReadyH.cons (o := ⟨some 34, _, _, _, _, _⟩) rfl (fun K hK => ?_) AllReadyH.nil
              refine if_yes rfl ?_
              refine wp_append_list (.tmp 31) (.tmp 33) rfl wr.heap.size ti hi hz0 hz1 hz2 _ _ [] rfl HO.out al len cap L rfl (HS.out.ids 2 rfl) (by omega) HB0.out.size ?_
              intro va wa hoa hga
              have hba : Below wr.heap.size wr wa := HB0.out.grown hga HB0.out.size (fun k hk => own_base HO.out k hk)
              have HZ : Hid (Blk wa (wr.heap.size + 1) #[.int .u32 0, .int .u32 0, .int .u32 0, .int .u32 0, .int .u32 0, .int .u32 0, .int .u32 0, .int .u32 0, .slice none 0 0] 31) := Lib.hid ((hga.block _ (by simp) (lit_block (by simp))).trans HZ.out)
              obtain ⟨ala, capa, rfl, hIa, hFa⟩ := app_got hoa
              have HIa := Lib.hid hIa
              have HS := Lib.hid (HS0.out.next hba)
              clear hoa hga hba hIa HO HB0
              refine hK.out _ _ HS.out (fun _ => ?_)
              clear hK K
              try simp only [Act.put, List.setIfInBounds_toArray, List.set_cons_zero, List.set_cons_succ]
              refine wpAnyH_ready (rs := [6]) (by kernel_rfl) (by simp) ?_
              refine AllReadyH.cons (o := ⟨some 35, _, _, _, _, _⟩) rfl (fun K hK => ?_) AllReadyH.nil
              go_simp
              go_at_call 9
              have hmk := cMake_cut a ala len capa L _ HIa.out hFa HINa.out
              rw [HV1.out, HS1.out, HC1.out, HN1.out] at hmk
              refine hmk.mono ?_
              clear hmk
              rintro e wm ⟨alr, capr, rfl, hIr, hFr, bm⟩
              have HIR := Lib.hid hIr
              have HFR := Lib.hid hFr
              have HZ := Lib.hid (HZ.out.below bm)
              have HS := Lib.hid (HS.out.next bm)
              clear bm hIr hFr HIa
              go_wp2_with fail
              refine hK.out _ _ HS.out (fun _ => ?_)
              clear hK K
              try simp only [Act.put, List.setIfInBounds_toArray, List.set_cons_zero, List.set_cons_succ]
              refine wpAnyH_take (i := 7) (oi := ⟨some 28, _, _, _, _, _⟩) (v := ?_) rfl (by kernel_rfl) (by kernel_rfl) (by kernel_rfl) (fun _ _ _ h => h) (Or.inl ⟨by rfl, ?_⟩) HS.out ?_
              rotate_left
              · intro w' hSw; clear hSw; go_simp; try (with_reducible rfl)
              try simp only [Act.put, List.setIfInBounds_toArray, List.set_cons_zero, List.set_cons_succ]
              refine wpAnyH_take (i := 8) (oi := ⟨some 36, _, _, _, _, _⟩) (v := ?_) rfl (by kernel_rfl) (by kernel_rfl) (by kernel_rfl) (fun _ _ _ h => h) (Or.inl ⟨by rfl, ?_⟩) HS.out ?_
              rotate_left
              · intro w' hSw; clear hSw; go_simp; try (with_reducible rfl)
              try simp only [Act.put, List.setIfInBounds_toArray, List.set_cons_zero, List.set_cons_succ]
              refine wpAnyH_take (i := 9) (oi := ⟨some 37, _, _, _, _, _⟩) (v := ?_) rfl (by kernel_rfl) (by kernel_rfl) (by kernel_rfl) (fun _ _ _ h => h) (Or.inl ⟨by rfl, ?_⟩) HS.out ?_
              rotate_left
              · intro w' hSw; clear hSw; go_simp; try (with_reducible rfl)
              try simp only [Act.put, List.setIfInBounds_toArray, List.set_cons_zero, List.set_cons_succ]
              refine wpAnyH_ready (rs := [11]) (by kernel_rfl) (by simp) ?_
              refine AllReadyH.cons (o := ⟨none, _, _, _, _, _⟩) rfl (fun K hK => ?_) AllReadyH.nil
              refine if_yes rfl ?_
              refine wp_store_row 31 (.tmp 7) (.tmp 36) rfl ((wr.heap.size + 1)) #[.int .u32 (v1 0), .int .u32 (v1 1), .int .u32 (v1 2), .int .u32 (v1 3), .int .u32 (v1 4), .int .u32 (v1 5), .int .u32 (v1 6), .int .u32 (v1 7), .slice alr n1 capr] rfl rfl 31 _ HZ.out (by kernel_rfl) rfl (cut_one _ _ _ _) ?_
              refine hK.out _ _ (HS.out.row HZ.out HG.out.1 HG.out.2 _) (fun _ => ?_)
              clear hK K
              try simp only [Act.put, List.setIfInBounds_toArray, List.set_cons_zero, List.set_cons_succ]
              have HS := Lib.hid (HS.out.row HZ.out HG.out.1 HG.out.2 #[.int .u32 (v1 0), .int .u32 (v1 1), .int .u32 (v1 2), .int .u32 (v1 3), .int .u32 (v1 4), .int .u32 (v1 5), .int .u32 (v1 6), .int .u32 (v1 7), .slice alr n1 capr])
              refine wpAnyH_take (i := 12) (oi := ⟨some 8, _, _, _, _, _⟩) (v := ?_) rfl (by kernel_rfl) (by kernel_rfl) (by kernel_rfl) (fun _ _ _ h => h) (Or.inl ⟨by rfl, ?_⟩) HS.out ?_
              rotate_left
              · intro w' hSw; clear hSw; go_simp; try (with_reducible rfl)
              try simp only [Act.put, List.setIfInBounds_toArray, List.set_cons_zero, List.set_cons_succ]
              refine wpAnyH_done (by kernel_rfl) ?_ _
              go_wp2_with fail
              go_meet
              exact ⟨(wr.heap.size + 1), alr, capr, rfl, rfl, HFR.out, (HS.out.put (setRow_heap _ _ _ #[.int .u32 (v1 0), .int .u32 (v1 1), .int .u32 (v1 2), .int .u32 (v1 3), .int .u32 (v1 4), .int .u32 (v1 5), .int .u32 (v1 6), .int .u32 (v1 7), .slice alr n1 capr] _ _ HZ.out)).add (ids_rowC HIR.out HZ.out _)⟩
          · go_simp
            have HG := Lib.hid (KS.ne HS.out)
            refine hK.out _ _ (HS.out.alloc _) (fun _ => ?_)
            clear hK K
            try simp only [Act.put, List.setIfInBounds_toArray, List.set_cons_zero, List.set_cons_succ]
            have HZ := Lib.hid (Blk.new wr #[.int .u32 0, .int .u32 0, .int .u32 0, .int .u32 0, .int .u32 0, .int .u32 0, .int .u32 0, .int .u32 0, .slice none 0 0] 31)
            have HS := Lib.hid (HS.out.alloc (.cells #[.int .u32 0, .int .u32 0, .int .u32 0, .int .u32 0, .int .u32 0, .int .u32 0, .int .u32 0, .int .u32 0, .slice none 0 0] 31))
            have HGL := Lib.hid HZ.out.lt
            generalize hgz : wr.heap.size = gz at HG HZ HGL ⊢
            generalize wr.alloc (.cells #[.int .u32 0, .int .u32 0, .int .u32 0, .int .u32 0, .int .u32 0, .int .u32 0, .int .u32 0, .int .u32 0, .slice none 0 0] 31) = wz1 at HS HZ HGL ⊢
            clear hgz
            refine wpAnyH_ready (rs := [2]) (by kernel_rfl) (by simp) ?_
            refine AllReadyH.cons (o := ⟨some 31, _, _, _, _, _⟩) rfl (fun K hK => ?_) AllReadyH.nil
            go_simp
            have HS0 := HS
            have HB0 := Lib.hid ((Below.refl wz1.heap.size wz1).alloc (Nat.le_refl _) (.cells #[] 29))
            refine hK.out _ _ (HS.out.alloc _) (fun _ => ?_)
            clear hK K
            try simp only [Act.put, List.setIfInBounds_toArray, List.set_cons_zero, List.set_cons_succ]
            have HO := Lib.hid (lit_own wz1)
            have HS := Lib.hid (HS.out.alloc (.cells #[] 29))
            have HZ0 := HZ
            refine wpAnyH_ready (rs := [5]) (by kernel_rfl) (by simp) ?_
            refine AllReadyH.cons (o := ⟨some 34, _, _, _, _, _⟩) rfl (fun K hK => ?_) AllReadyH.nil
            refine if_yes rfl ?_
            refine wp_append_list (.tmp 31) (.tmp 33) rfl wz1.heap.size ti hi hz0 hz1 hz2 _ _ [] rfl HO.out al len cap L rfl (HS.out.ids 2 rfl) (by omega) HB0.out.size ?_
            intro va wa hoa hga
            have hba : Below wz1.heap.size wz1 wa := HB0.out.grown hga HB0.out.size (fun k hk => own_base HO.out k hk)
            have HZ := Lib.hid (HZ0.out.below hba)
            obtain ⟨ala, capa, rfl, hIa, hFa⟩ := app_got hoa
            have HIa := Lib.hid hIa
            have HS := Lib.hid (HS0.out.next hba)
            clear hoa hga hba hIa HO HB0
            refine hK.out _ _ HS.out (fun _ => ?_)
            clear hK K
            try simp only [Act.put, List.setIfInBounds_toArray, List.set_cons_zero, List.set_cons_succ]
            refine wpAnyH_ready (rs := [6]) (by kernel_rfl) (by simp) ?_
            refine AllReadyH.cons (o := ⟨some 35, _, _, _, _, _⟩) rfl (fun K hK => ?_) AllReadyH.nil
            go_simp
            go_at_call 9
            have hmk := cMake_cut a ala len capa L _ HIa.out hFa HINa.out
            rw [HV1.out, HS1.out, HC1.out, HN1.out] at hmk
            refine hmk.mono ?_
            clear hmk
            rintro e wm ⟨alr, capr, rfl, hIr, hFr, bm⟩
            have HIR := Lib.hid hIr
            have HFR := Lib.hid hFr
            have HZ := Lib.hid (HZ.out.below bm)
            have HS := Lib.hid (HS.out.next bm)
            clear bm hIr hFr HIa
            go_wp2_with fail
            refine hK.out _ _ HS.out (fun _ => ?_)
            clear hK K
            try simp only [Act.put, List.setIfInBounds_toArray, List.set_cons_zero, List.set_cons_succ]
            refine wpAnyH_take (i := 7) (oi := ⟨some 28, _, _, _, _, _⟩) (v := ?_) rfl (by kernel_rfl) (by kernel_rfl) (by kernel_rfl) (fun _ _ _ h => h) (Or.inl ⟨by rfl, ?_⟩) HS.out ?_
            rotate_left
            · intro w' hSw; clear hSw; go_simp; try (with_reducible rfl)
            try simp only [Act.put, List.setIfInBounds_toArray, List.set_cons_zero, List.set_cons_succ]
            refine wpAnyH_take (i := 8) (oi := ⟨some 36, _, _, _, _, _⟩) (v := ?_) rfl (by kernel_rfl) (by kernel_rfl) (by kernel_rfl) (fun _ _ _ h => h) (Or.inl ⟨by rfl, ?_⟩) HS.out ?_
            rotate_left
            · intro w' hSw; clear hSw; go_simp; try (with_reducible rfl)
            try simp only [Act.put, List.setIfInBounds_toArray, List.set_cons_zero, List.set_cons_succ]
            refine wpAnyH_take (i := 9) (oi := ⟨some 37, _, _, _, _, _⟩) (v := ?_) rfl (by kernel_rfl) (by kernel_rfl) (by kernel_rfl) (fun _ _ _ h => h) (Or.inl ⟨by rfl, ?_⟩) HS.out ?_
            rotate_left
            · intro w' hSw; clear hSw; go_simp; try (with_reducible rfl)
            try simp only [Act.put, List.setIfInBounds_toArray, List.set_cons_zero, List.set_cons_succ]
            refine wpAnyH_ready (rs := [11]) (by kernel_rfl) (by simp) ?_
            refine AllReadyH.cons (o := ⟨none, _, _, _, _, _⟩) rfl (fun K hK => ?_) AllReadyH.nil
            refine if_yes rfl ?_
            refine wp_store_row 31 (.tmp 7) (.tmp 36) rfl (gz) #[.int .u32 (v1 0), .int .u32 (v1 1), .int .u32 (v1 2), .int .u32 (v1 3), .int .u32 (v1 4), .int .u32 (v1 5), .int .u32 (v1 6), .int .u32 (v1 7), .slice alr n1 capr] rfl rfl 31 _ HZ.out (by kernel_rfl) rfl (cut_one _ _ _ _) ?_
            refine hK.out _ _ (HS.out.row HZ.out HG.out.1 HG.out.2 _) (fun _ => ?_)
            clear hK K
            try simp only [Act.put, List.setIfInBounds_toArray, List.set_cons_zero, List.set_cons_succ]
            have HS := Lib.hid (HS.out.row HZ.out HG.out.1 HG.out.2 #[.int .u32 (v1 0), .int .u32 (v1 1), .int .u32 (v1 2), .int .u32 (v1 3), .int .u32 (v1 4), .int .u32 (v1 5), .int .u32 (v1 6), .int .u32 (v1 7), .slice alr n1 capr])
            refine wpAnyH_take (i := 12) (oi := ⟨some 8, _, _, _, _, _⟩) (v := ?_) rfl (by kernel_rfl) (by kernel_rfl) (by kernel_rfl) (fun _ _ _ h => h) (Or.inl ⟨by rfl, ?_⟩) HS.out ?_
            rotate_left
            · intro w' hSw; clear hSw; go_simp; try (with_reducible rfl)
            try simp only [Act.put, List.setIfInBounds_toArray, List.set_cons_zero, List.set_cons_succ]
            refine wpAnyH_done (by kernel_rfl) ?_ _
            go_wp2_with fail
            go_meet
            exact ⟨gz, alr, capr, rfl, rfl, HFR.out, (HS.out.put (setRow_heap _ _ _ #[.int .u32 (v1 0), .int .u32 (v1 1), .int .u32 (v1 2), .int .u32 (v1 3), .int .u32 (v1 4), .int .u32 (v1 5), .int .u32 (v1 6), .int .u32 (v1 7), .slice alr n1 capr] _ _ HZ.out)).add (ids_rowC HIR.out HZ.out _)⟩
        case rest =>
          obtain ⟨g1, al1, cap1, rfl, rfl, hF1, hks1⟩ := hcut
          have HK1 := Lib.hid hks1
          clear hks1 H4
          go_upto_region 6 with fail
          go_cut [9, 10] (fun sx sy wx => ∃ (g2 : Nat) (al2 : Option Addr) (cap2 : Nat), sx = .pointer (some ⟨g2, 0, none⟩) ∧ sy = .int .i64 c2 ∧ Flat al2 ∧ KS w [(g2, #[.int .u32 (v2 0), .int .u32 (v2 1), .int .u32 (v2 2), .int .u32 (v2 3), .int .u32 (v2 4), .int .u32 (v2 5), .int .u32 (v2 6), .int .u32 (v2 7), .slice al2 n2 cap2], 31), (g1, #[.int .u32 (v1 0), .int .u32 (v1 1), .int .u32 (v1 2), .int .u32 (v1 3), .int .u32 (v1 4), .int .u32 (v1 5), .int .u32 (v1 6), .int .u32 (v1 7), .slice al1 n1 cap1], 31), (w.heap.size + 1 + 1, #[.int .u32 (d 0), .int .u32 (d 1), .int .u32 (d 2), .int .u32 (d 3), .int .u32 (d 4), .int .u32 (d 5), .int .u32 (d 6), .int .u32 (d 7), .slice al'' len'' cap''], 27), (w.heap.size + 1, #[.int .u32 (b 0), .int .u32 (b 1), .int .u32 (b 2), .int .u32 (b 3), .int .u32 (b 4), .int .u32 (b 5), .int .u32 (b 6), .int .u32 (b 7), .slice al' len' cap'], 27), (w.heap.size, #[.int .u32 (a 0), .int .u32 (a 1), .int .u32 (a 2), .int .u32 (a 3), .int .u32 (a 4), .int .u32 (a 5), .int .u32 (a 6), .int .u32 (a 7), .slice al len cap], 27)] [(al2, n2, cap2, S2), (al1, n1, cap1, S1), (al'', len'', cap'', N), (al', len', cap', M), (al, len, cap, L)] wx)
          case first =>
            refine wp_region_held_drew (S := KS w [(g1, #[.int .u32 (v1 0), .int .u32 (v1 1), .int .u32 (v1 2), .int .u32 (v1 3), .int .u32 (v1 4), .int .u32 (v1 5), .int .u32 (v1 6), .int .u32 (v1 7), .slice al1 n1 cap1], 31), (w.heap.size + 1 + 1, #[.int .u32 (d 0), .int .u32 (d 1), .int .u32 (d 2), .int .u32 (d 3), .int .u32 (d 4), .int .u32 (d 5), .int .u32 (d 6), .int .u32 (d 7), .slice al'' len'' cap''], 27), (w.heap.size + 1, #[.int .u32 (b 0), .int .u32 (b 1), .int .u32 (b 2), .int .u32 (b 3), .int .u32 (b 4), .int .u32 (b 5), .int .u32 (b 6), .int .u32 (b 7), .slice al' len' cap'], 27), (w.heap.size, #[.int .u32 (a 0), .int .u32 (a 1), .int .u32 (a 2), .int .u32 (a 3), .int .u32 (a 4), .int .u32 (a 5), .int .u32 (a 6), .int .u32 (a 7), .slice al len cap], 27)] [(al1, n1, cap1, S1), (al'', len'', cap'', N), (al', len', cap', M), (al, len, cap, L)]) (by kernel_rfl) HK1.out.drew (fun _ => ?_)
            have HS := Lib.hid HK1.out.drew
            generalize wc.drew = wr at HS ⊢
            refine wpAnyH_take (i := 0) (oi := ⟨some 39, _, _, _, _, _⟩) (v := ?_) rfl (by kernel_rfl) (by kernel_rfl) (by kernel_rfl) (fun _ _ _ h => h) (Or.inl ⟨by rfl, ?_⟩) HS.out ?_
            rotate_left
            · intro w' hSw; clear hSw; go_simp; try (with_reducible rfl)
            try simp only [Act.put, List.setIfInBounds_toArray, List.set_cons_zero, List.set_cons_succ]
            refine wpAnyH_take (i := 1) (oi := ⟨some 40, _, _, _, _, _⟩) (v := ?_) rfl (by kernel_rfl) (by kernel_rfl) (by kernel_rfl) (fun _ _ _ h => h) (Or.inl ⟨by rfl, ?_⟩) HS.out ?_
            rotate_left
            · intro w' hSw; obtain ⟨b_0, b_1, b_2, b_3, b_4, b_5, b_6, b_7, b_8⟩ := cut_cells (hSw.blk 2 rfl); go_simp; try (with_reducible rfl)
            try simp only [Act.put, List.setIfInBounds_toArray, List.set_cons_zero, List.set_cons_succ]
            refine wpAnyH_take (i := 3) (oi := ⟨some 42, _, _, _, _, _⟩) (v := ?_) rfl (by kernel_rfl) (by kernel_rfl) (by kernel_rfl) (fun _ _ _ h => h) (Or.inl ⟨by rfl, ?_⟩) HS.out ?_
            rotate_left
            · intro w' hSw; clear hSw; go_simp; try (with_reducible rfl)
            try simp only [Act.put, List.setIfInBounds_toArray, List.set_cons_zero, List.set_cons_succ]
            refine wpAnyH_take (i := 4) (oi := ⟨some 43, _, _, _, _, _⟩) (v := ?_) rfl (by kernel_rfl) (by kernel_rfl) (by kernel_rfl) (fun _ _ _ h => h) (Or.inl ⟨by rfl, ?_⟩) HS.out ?_
            rotate_left
            · intro w' hSw; obtain ⟨b_0, b_1, b_2, b_3, b_4, b_5, b_6, b_7, b_8⟩ := cut_cells (hSw.blk 2 rfl); go_simp; try (with_reducible rfl)
            try simp only [Act.put, List.setIfInBounds_toArray, List.set_cons_zero, List.set_cons_succ]
            refine wpAnyH_ready (rs := [2, 10]) (by kernel_rfl) (by simp) ?_
            refine AllReadyH.cons (o := ⟨some 41, _, _, _, _, _⟩) rfl (fun K hK => ?_) (AllReadyH.cons (o := ⟨some 9, _, _, _, _, _⟩) rfl (fun K hK => ?_) AllReadyH.nil)
            · go_simp
              have HS0 := HS
              have HB0 := Lib.hid ((Below.refl wr.heap.size wr).alloc (Nat.le_refl _) (.cells #[] 29))
              refine hK.out _ _ (HS.out.alloc _) (fun _ => ?_)
              clear hK K
              try simp only [Act.put, List.setIfInBounds_toArray, List.set_cons_zero, List.set_cons_succ]
              have HO := Lib.hid (lit_own wr)
              have HS := Lib.hid (HS.out.alloc (.cells #[] 29))
              refine wpAnyH_ready (rs := [5, 10]) (by kernel_rfl) (by simp) ?_
              refine AllReadyH.cons (o := ⟨some 44, _, _, _, _, _⟩) rfl (fun K hK => ?_) (AllReadyH.cons (o := ⟨some 9, _, _, _, _, _⟩) rfl (fun K hK => ?_) AllReadyH.nil)
              · refine if_yes rfl ?_
                refine wp_append_list (.tmp 41) (.tmp 43) rfl wr.heap.size ti hi hz0 hz1 hz2 _ _ [] rfl HO.out al' len' cap' M rfl (HS.out.ids 2 rfl) (by omega) HB0.out.size ?_
                intro va wa hoa hga
                have hba : Below wr.heap.size wr wa := HB0.out.grown hga HB0.out.size (fun k hk => own_base HO.out k hk)
                obtain ⟨ala, capa, rfl, hIa, hFa⟩ := app_got hoa
                have HIa := Lib.hid hIa
                have HS := Lib.hid (HS0.out.next hba)
                clear hoa hga hba hIa HO HB0
                refine hK.out _ _ HS.out (fun _ => ?_)
                clear hK K
                try simp only [Act.put, List.setIfInBounds_toArray, List.set_cons_zero, List.set_cons_succ]
                refine wpAnyH_ready (rs := [6, 10]) (by kernel_rfl) (by simp) ?_
                refine AllReadyH.cons (o := ⟨some 45, _, _, _, _, _⟩) rfl (fun K hK => ?_) (AllReadyH.cons (o := ⟨some 9, _, _, _, _, _⟩) rfl (fun K hK => ?_) AllReadyH.nil)
                · go_simp
                  go_at_call 9
                  have hmk := cMake_cut b ala len' capa M _ HIa.out hFa HINb.out
                  rw [HV2.out, HS2.out, HC2.out, HN2.out] at hmk
                  refine hmk.mono ?_
                  clear hmk
                  rintro e wm ⟨alr, capr, rfl, hIr, hFr, bm⟩
                  have HIR := Lib.hid hIr
                  have HFR := Lib.hid hFr
                  have HS := Lib.hid (HS.out.next bm)
                  clear bm hIr hFr HIa
                  go_wp2_with fail
                  refine hK.out _ _ HS.out (fun _ => ?_)
                  clear hK K
                  try simp only [Act.put, List.setIfInBounds_toArray, List.set_cons_zero, List.set_cons_succ]
                  refine wpAnyH_take (i := 7) (oi := ⟨some 38, _, _, _, _, _⟩) (v := ?_) rfl (by kernel_rfl) (by kernel_rfl) (by kernel_rfl) (fun _ _ _ h => h) (Or.inl ⟨by rfl, ?_⟩) HS.out ?_
                  rotate_left
                  · intro w' hSw; clear hSw; go_simp; try (with_reducible rfl)
                  try simp only [Act.put, List.setIfInBounds_toArray, List.set_cons_zero, List.set_cons_succ]
                  refine wpAnyH_take (i := 8) (oi := ⟨some 46, _, _, _, _, _⟩) (v := ?_) rfl (by kernel_rfl) (by kernel_rfl) (by kernel_rfl) (fun _ _ _ h => h) (Or.inl ⟨by rfl, ?_⟩) HS.out ?_
                  rotate_left
                  · intro w' hSw; clear hSw; go_simp; try (with_reducible rfl)
                  try simp only [Act.put, List.setIfInBounds_toArray, List.set_cons_zero, List.set_cons_succ]
                  refine wpAnyH_take (i := 9) (oi := ⟨some 47, _, _, _, _, _⟩) (v := ?_) rfl (by kernel_rfl) (by kernel_rfl) (by kernel_rfl) (fun _ _ _ h => h) (Or.inl ⟨by rfl, ?_⟩) HS.out ?_
                  rotate_left
                  · intro w' hSw; clear hSw; go_simp; try (with_reducible rfl)
                  try simp only [Act.put, List.setIfInBounds_toArray, List.set_cons_zero, List.set_cons_succ]
                  refine wpAnyH_ready (rs := [10]) (by kernel_rfl) (by simp) ?_
                  refine AllReadyH.cons (o := ⟨some 9, _, _, _, _, _⟩) rfl (fun K hK => ?_) AllReadyH.nil
                  go_simp
                  have HG := Lib.hid (KS.ne HS.out)
                  refine hK.out _ _ (HS.out.alloc _) (fun _ => ?_)
                  clear hK K
                  try simp only [Act.put, List.setIfInBounds_toArray, List.set_cons_zero, List.set_cons_succ]
                  have HZ := Lib.hid (Blk.new wm #[.int .u32 0, .int .u32 0, .int .u32 0, .int .u32 0, .int .u32 0, .int .u32 0, .int .u32 0, .int .u32 0, .slice none 0 0] 31)
                  have HS := Lib.hid (HS.out.alloc (.cells #[.int .u32 0, .int .u32 0, .int .u32 0, .int .u32 0, .int .u32 0, .int .u32 0, .int .u32 0, .int .u32 0, .slice none 0 0] 31))
                  have HIR := Lib.hid (HIR.out.below ((Below.refl _ _).alloc (Nat.le_refl _) (.cells #[.int .u32 0, .int .u32 0, .int .u32 0, .int .u32 0, .int .u32 0, .int .u32 0, .int .u32 0, .int .u32 0, .slice none 0 0] 31)))
                  refine wpAnyH_ready (rs := [11]) (by kernel_rfl) (by simp) ?_
                  refine AllReadyH.cons (o := ⟨none, _, _, _, _, _⟩) rfl (fun K hK => ?_) AllReadyH.nil
                  refine if_yes rfl ?_
                  refine wp_store_row 31 (.tmp 9) (.tmp 46) rfl (wm.heap.size) #[.int .u32 (v2 0), .int .u32 (v2 1), .int .u32 (v2 2), .int .u32 (v2 3), .int .u32 (v2 4), .int .u32 (v2 5), .int .u32 (v2 6), .int .u32 (v2 7), .slice alr n2 capr] rfl rfl 31 _ HZ.out (by kernel_rfl) rfl (cut_one _ _ _ _) ?_
                  refine hK.out _ _ (HS.out.row HZ.out HG.out.1 HG.out.2 _) (fun _ => ?_)
                  clear hK K
                  try simp only [Act.put, List.setIfInBounds_toArray, List.set_cons_zero, List.set_cons_succ]
                  have HS := Lib.hid (HS.out.row HZ.out HG.out.1 HG.out.2 #[.int .u32 (v2 0), .int .u32 (v2 1), .int .u32 (v2 2), .int .u32 (v2 3), .int .u32 (v2 4), .int .u32 (v2 5), .int .u32 (v2 6), .int .u32 (v2 7), .slice alr n2 capr])
                  refine wpAnyH_take (i := 12) (oi := ⟨some 10, _, _, _, _, _⟩) (v := ?_) rfl (by kernel_rfl) (by kernel_rfl) (by kernel_rfl) (fun _ _ _ h => h) (Or.inl ⟨by rfl, ?_⟩) HS.out ?_
                  rotate_left
                  · intro w' hSw; clear hSw; go_simp; try (with_reducible rfl)
                  try simp only [Act.put, List.setIfInBounds_toArray, List.set_cons_zero, List.set_cons_succ]
                  refine wpAnyH_done (by kernel_rfl) ?_ _
                  go_wp2_with fail
                  go_meet
                  exact ⟨wm.heap.size, alr, capr, rfl, rfl, HFR.out, (HS.out.put (setRow_heap _ _ _ #[.int .u32 (v2 0), .int .u32 (v2 1), .int .u32 (v2 2), .int .u32 (v2 3), .int .u32 (v2 4), .int .u32 (v2 5), .int .u32 (v2 6), .int .u32 (v2 7), .slice alr n2 capr] _ _ HZ.out)).add (ids_rowC HIR.out HZ.out _)⟩
                · go_simp
                  have HG := Lib.hid (KS.ne HS.out)
                  refine hK.out _ _ (HS.out.alloc _) (fun _ => ?_)
                  clear hK K
                  try simp only [Act.put, List.setIfInBounds_toArray, List.set_cons_zero, List.set_cons_succ]
                  have HZ := Lib.hid (Blk.new wa #[.int .u32 0, .int .u32 0, .int .u32 0, .int .u32 0, .int .u32 0, .int .u32 0, .int .u32 0, .int .u32 0, .slice none 0 0] 31)
                  have HS := Lib.hid (HS.out.alloc (.cells #[.int .u32 0, .int .u32 0, .int .u32 0, .int .u32 0, .int .u32 0, .int .u32 0, .int .u32 0, .int .u32 0, .slice none 0 0] 31))
                  have HGL := Lib.hid HZ.out.lt
                  have HIa := Lib.hid (HIa.out.below ((Below.refl _ _).alloc (Nat.le_refl _) (.cells #[.int .u32 0, .int .u32 0, .int .u32 0, .int .u32 0, .int .u32 0, .int .u32 0, .int .u32 0, .int .u32 0, .slice none 0 0] 31)))
                  generalize hgz : wa.heap.size = gz at HG HZ HGL ⊢
                  generalize wa.alloc (.cells #[.int .u32 0, .int .u32 0, .int .u32 0, .int .u32 0, .int .u32 0, .int .u32 0, .int .u32 0, .int .u32 0, .slice none 0 0] 31) = wz2 at HS HZ HGL HIa ⊢
                  clear hgz
                  refine wpAnyH_ready (rs := [6]) (by kernel_rfl) (by simp) ?_
                  refine AllReadyH.cons (o := ⟨some 45, _, _, _, _, _⟩) rfl (fun K hK => ?_) AllReadyH.nil
                  go_simp
                  go_at_call 9
                  have hmk := cMake_cut b ala len' capa M _ HIa.out hFa HINb.out
                  rw [HV2.out, HS2.out, HC2.out, HN2.out] at hmk
                  refine hmk.mono ?_
                  clear hmk
                  rintro e wm ⟨alr, capr, rfl, hIr, hFr, bm⟩
                  have HIR := Lib.hid hIr
                  have HFR := Lib.hid hFr
                  have HZ := Lib.hid (HZ.out.below bm)
                  have HS := Lib.hid (HS.out.next bm)
                  clear bm hIr hFr HIa
                  go_wp2_with fail
                  refine hK.out _ _ HS.out (fun _ => ?_)
                  clear hK K
                  try simp only [Act.put, List.setIfInBounds_toArray, List.set_cons_zero, List.set_cons_succ]
                  refine wpAnyH_take (i := 7) (oi := ⟨some 38, _, _, _, _, _⟩) (v := ?_) rfl (by kernel_rfl) (by kernel_rfl) (by kernel_rfl) (fun _ _ _ h => h) (Or.inl ⟨by rfl, ?_⟩) HS.out ?_
                  rotate_left
                  · intro w' hSw; clear hSw; go_simp; try (with_reducible rfl)
                  try simp only [Act.put, List.setIfInBounds_toArray, List.set_cons_zero, List.set_cons_succ]
                  refine wpAnyH_take (i := 8) (oi := ⟨some 46, _, _, _, _, _⟩) (v := ?_) rfl (by kernel_rfl) (by kernel_rfl) (by kernel_rfl) (fun _ _ _ h => h) (Or.inl ⟨by rfl, ?_⟩) HS.out ?_
                  rotate_left
                  · intro w' hSw; clear hSw; go_simp; try (with_reducible rfl)
                  try simp only [Act.put, List.setIfInBounds_toArray, List.set_cons_zero, List.set_cons_succ]
                  refine wpAnyH_take (i := 9) (oi := ⟨some 47, _, _, _, _, _⟩) (v := ?_) rfl (by kernel_rfl) (by kernel_rfl) (by kernel_rfl) (fun _ _ _ h => h) (Or.inl ⟨by rfl, ?_⟩) HS.out ?_
                  rotate_left
                  · intro w' hSw; clear hSw; go_simp; try (with_reducible rfl)
                  try simp only [Act.put, List.setIfInBounds_toArray, List.set_cons_zero, List.set_cons_succ]
                  refine wpAnyH_ready (rs := [11]) (by kernel_rfl) (by simp) ?_
                  refine AllReadyH.cons (o := ⟨none, _, _, _, _, _⟩) rfl (fun K hK => ?_) AllReadyH.nil
                  refine if_yes rfl ?_
                  refine wp_store_row 31 (.tmp 9) (.tmp 46) rfl (gz) #[.int .u32 (v2 0), .int .u32 (v2 1), .int .u32 (v2 2), .int .u32 (v2 3), .int .u32 (v2 4), .int .u32 (v2 5), .int .u32 (v2 6), .int .u32 (v2 7), .slice alr n2 capr] rfl rfl 31 _ HZ.out (by kernel_rfl) rfl (cut_one _ _ _ _) ?_
                  refine hK.out _ _ (HS.out.row HZ.out HG.out.1 HG.out.2 _) (fun _ => ?_)
                  clear hK K
                  try simp only [Act.put, List.setIfInBounds_toArray, List.set_cons_zero, List.set_cons_succ]
                  have HS := Lib.hid (HS.out.row HZ.out HG.out.1 HG.out.2 #[.int .u32 (v2 0), .int .u32 (v2 1), .int .u32 (v2 2), .int .u32 (v2 3), .int .u32 (v2 4), .int .u32 (v2 5), .int .u32 (v2 6), .int .u32 (v2 7), .slice alr n2 capr])
                  refine wpAnyH_take (i := 12) (oi := ⟨some 10, _, _, _, _, _⟩) (v := ?_) rfl (by kernel_rfl) (by kernel_rfl) (by kernel_rfl) (fun _ _ _ h => h) (Or.inl ⟨by rfl, ?_⟩) HS.out ?_
                  rotate_left
                  · intro w' hSw; clear hSw; go_simp; try (with_reducible rfl)
                  try simp only [Act.put, List.setIfInBounds_toArray, List.set_cons_zero, List.set_cons_succ]
                  refine wpAnyH_done (by kernel_rfl) ?_ _
                  go_wp2_with fail
                  go_meet
                  exact ⟨gz, alr, capr, rfl, rfl, HFR.out, (HS.out.put (setRow_heap _ _ _ #[.int .u32 (v2 0), .int .u32 (v2 1), .int .u32 (v2 2), .int .u32 (v2 3), .int .u32 (v2 4), .int .u32 (v2 5), .int .u32 (v2 6), .int .u32 (v2 7), .slice alr n2 capr] _ _ HZ.out)).add (ids_rowC HIR.out HZ.out _)⟩
              · go_simp
                have HG := Lib.hid (KS.ne HS.out)
                refine hK.out _ _ (HS.out.alloc _) (fun _ => ?_)
                clear hK K
                try simp only [Act.put, List.setIfInBounds_toArray, List.set_cons_zero, List.set_cons_succ]
                have HZ := Lib.hid (blk_newS (W := wr) (.cells #[] 29) #[.int .u32 0, .int .u32 0, .int .u32 0, .int .u32 0, .int .u32 0, .int .u32 0, .int .u32 0, .int .u32 0, .slice none 0 0] 31)
                have HS := Lib.hid (HS.out.alloc (.cells #[.int .u32 0, .int .u32 0, .int .u32 0, .int .u32 0, .int .u32 0, .int .u32 0, .int .u32 0, .int .u32 0, .slice none 0 0] 31))
                have HB0 := Lib.hid (HB0.out.alloc HB0.out.size (.cells #[.int .u32 0, .int .u32 0, .int .u32 0, .int .u32 0, .int .u32 0, .int .u32 0, .int .u32 0, .int .u32 0, .slice none 0 0] 31))
                have HO := Lib.hid (HO.out.alloc (.cells #[.int .u32 0, .int .u32 0, .int .u32 0, .int .u32 0, .int .u32 0, .int .u32 0, .int .u32 0, .int .u32 0, .slice none 0 0] 31))
                have HG := Lib.hid (show (∀ x, x ∈ ([(g1, #[.int .u32 (v1 0), .int .u32 (v1 1), .int .u32 (v1 2), .int .u32 (v1 3), .int .u32 (v1 4), .int .u32 (v1 5), .int .u32 (v1 6), .int .u32 (v1 7), .slice al1 n1 cap1], 31), (w.heap.size + 1 + 1, #[.int .u32 (d 0), .int .u32 (d 1), .int .u32 (d 2), .int .u32 (d 3), .int .u32 (d 4), .int .u32 (d 5), .int .u32 (d 6), .int .u32 (d 7), .slice al'' len'' cap''], 27), (w.heap.size + 1, #[.int .u32 (b 0), .int .u32 (b 1), .int .u32 (b 2), .int .u32 (b 3), .int .u32 (b 4), .int .u32 (b 5), .int .u32 (b 6), .int .u32 (b 7), .slice al' len' cap'], 27), (w.heap.size, #[.int .u32 (a 0), .int .u32 (a 1), .int .u32 (a 2), .int .u32 (a 3), .int .u32 (a 4), .int .u32 (a 5), .int .u32 (a 6), .int .u32 (a 7), .slice al len cap], 27)] : List Bx) → x.1 ≠ wr.heap.size + 1) ∧ w.heap.size ≤ wr.heap.size + 1 from by simpa using HG.out)
                refine wpAnyH_ready (rs := [5]) (by kernel_rfl) (by simp) ?_
                refine AllReadyH.cons (o := ⟨some 44, _, _, _, _, _⟩) rfl (fun K hK => ?_) AllReadyH.nil
                refine if_yes rfl ?_
                refine wp_append_list (.tmp 41) (.tmp 43) rfl wr.heap.size ti hi hz0 hz1 hz2 _ _ [] rfl HO.out al' len' cap' M rfl (HS.out.ids 2 rfl) (by omega) HB0.out.size ?_
                intro va wa hoa hga
                have hba : Below wr.heap.size wr wa := HB0.out.grown hga HB0.out.size (fun k hk => own_base HO.out k hk)
                have HZ : Hid (Blk wa (wr.heap.size + 1) #[.int .u32 0, .int .u32 0, .int .u32 0, .int .u32 0, .int .u32 0, .int .u32 0, .int .u32 0, .int .u32 0, .slice none 0 0] 31) := Lib.hid ((hga.block _ (by simp) (lit_block (by simp))).trans HZ.out)
                obtain ⟨ala, capa, rfl, hIa, hFa⟩ := app_got hoa
                have HIa := Lib.hid hIa
                have HS := Lib.hid (HS0.out.next hba)
                clear hoa hga hba hIa HO HB0
                refine hK.out _ _ HS.out (fun _ => ?_)
                clear hK K
                try simp only [Act.put, List.setIfInBounds_toArray, List.set_cons_zero, List.set_cons_succ]
                refine wpAnyH_ready (rs := [6]) (by kernel_rfl) (by simp) ?_
                refine AllReadyH.cons (o := ⟨some 45, _, _, _, _, _⟩) rfl (fun K hK => ?_) AllReadyH.nil
                go_simp
                go_at_call 9
                have hmk := cMake_cut b ala len' capa M _ HIa.out hFa HINb.out
                rw [HV2.out, HS2.out, HC2.out, HN2.out] at hmk
                refine hmk.mono ?_
                clear hmk
                rintro e wm ⟨alr, capr, rfl, hIr, hFr, bm⟩
                have HIR := Lib.hid hIr
                have HFR := Lib.hid hFr
                have HZ := Lib.hid (HZ.out.below bm)
                have HS := Lib.hid (HS.out.next bm)
                clear bm hIr hFr HIa
                go_wp2_with fail
                refine hK.out _ _ HS.out (fun _ => ?_)
                clear hK K
                try simp only [Act.put, List.setIfInBounds_toArray, List.set_cons_zero, List.set_cons_succ]
                refine wpAnyH_take (i := 7) (oi := ⟨some 38, _, _, _, _, _⟩) (v := ?_) rfl (by kernel_rfl) (by kernel_rfl) (by kernel_rfl) (fun _ _ _ h => h) (Or.inl ⟨by rfl, ?_⟩) HS.out ?_
                rotate_left
                · intro w' hSw; clear hSw; go_simp; try (with_reducible rfl)
                try simp only [Act.put, List.setIfInBounds_toArray, List.set_cons_zero, List.set_cons_succ]
                refine wpAnyH_take (i := 8) (oi := ⟨some 46, _, _, _, _, _⟩) (v := ?_) rfl (by kernel_rfl) (by kernel_rfl) (by kernel_rfl) (fun _ _ _ h => h) (Or.inl ⟨by rfl, ?_⟩) HS.out ?_
                rotate_left
                · intro w' hSw; clear hSw; go_simp; try (with_reducible rfl)
                try simp only [Act.put, List.setIfInBounds_toArray, List.set_cons_zero, List.set_cons_succ]
                refine wpAnyH_take (i := 9) (oi := ⟨some 47, _, _, _, _, _⟩) (v := ?_) rfl (by kernel_rfl) (by kernel_rfl) (by kernel_rfl) (fun _ _ _ h => h) (Or.inl ⟨by rfl, ?_⟩) HS.out ?_
                rotate_left
                · intro w' hSw; clear hSw; go_simp; try (with_reducible rfl)
                try simp only [Act.put, List.setIfInBounds_toArray, List.set_cons_zero, List.set_cons_succ]
                refine wpAnyH_ready (rs := [11]) (by kernel_rfl) (by simp) ?_
                refine AllReadyH.cons (o := ⟨none, _, _, _, _, _⟩) rfl (fun K hK => ?_) AllReadyH.nil
                refine if_yes rfl ?_
                refine wp_store_row 31 (.tmp 9) (.tmp 46) rfl ((wr.heap.size + 1)) #[.int .u32 (v2 0), .int .u32 (v2 1), .int .u32 (v2 2), .int .u32 (v2 3), .int .u32 (v2 4), .int .u32 (v2 5), .int .u32 (v2 6), .int .u32 (v2 7), .slice alr n2 capr] rfl rfl 31 _ HZ.out (by kernel_rfl) rfl (cut_one _ _ _ _) ?_
                refine hK.out _ _ (HS.out.row HZ.out HG.out.1 HG.out.2 _) (fun _ => ?_)
                clear hK K
                try simp only [Act.put, List.setIfInBounds_toArray, List.set_cons_zero, List.set_cons_succ]
                have HS := Lib.hid (HS.out.row HZ.out HG.out.1 HG.out.2 #[.int .u32 (v2 0), .int .u32 (v2 1), .int .u32 (v2 2), .int .u32 (v2 3), .int .u32 (v2 4), .int .u32 (v2 5), .int .u32 (v2 6), .int .u32 (v2 7), .slice alr n2 capr])
                refine wpAnyH_take (i := 12) (oi := ⟨some 10, _, _, _, _, _⟩) (v := ?_) rfl (by kernel_rfl) (by kernel_rfl) (by kernel_rfl) (fun _ _ _ h => h) (Or.inl ⟨by rfl, ?_⟩) HS.out ?_
                rotate_left
                · intro w' hSw; clear hSw; go_simp; try (with_reducible rfl)
                try simp only [Act.put, List.setIfInBounds_toArray, List.set_cons_zero, List.set_cons_succ]
                refine wpAnyH_done (by kernel_rfl) ?_ _
                go_wp2_with fail
                go_meet
                exact ⟨(wr.heap.size + 1), alr, capr, rfl, rfl, HFR.out, (HS.out.put (setRow_heap _ _ _ #[.int .u32 (v2 0), .int .u32 (v2 1), .int .u32 (v2 2), .int .u32 (v2 3), .int .u32 (v2 4), .int .u32 (v2 5), .int .u32 (v2 6), .int .u32 (v2 7), .slice alr n2 capr] _ _ HZ.out)).add (ids_rowC HIR.out HZ.out _)⟩
            · go_simp
              have HG := Lib.hid (KS.ne HS.out)
              refine hK.out _ _ (HS.out.alloc _) (fun _ => ?_)
              clear hK K
              try simp only [Act.put, List.setIfInBounds_toArray, List.set_cons_zero, List.set_cons_succ]
              have HZ := Lib.hid (Blk.new wr #[.int .u32 0, .int .u32 0, .int .u32 0, .int .u32 0, .int .u32 0, .int .u32 0, .int .u32 0, .int .u32 0, .slice none 0 0] 31)
              have HS := Lib.hid (HS.out.alloc (.cells #[.int .u32 0, .int .u32 0, .int .u32 0, .int .u32 0, .int .u32 0, .int .u32 0, .int .u32 0, .int .u32 0, .slice none 0 0] 31))
              have HGL := Lib.hid HZ.out.lt
              generalize hgz : wr.heap.size = gz at HG HZ HGL ⊢
              generalize wr.alloc (.cells #[.int .u32 0, .int .u32 0, .int .u32 0, .int .u32 0, .int .u32 0, .int .u32 0, .int .u32 0, .int .u32 0, .slice none 0 0] 31) = wz2 at HS HZ HGL ⊢
              clear hgz
              refine wpAnyH_ready (rs := [2]) (by kernel_rfl) (by simp) ?_
              refine AllReadyH.cons (o := ⟨some 41, _, _, _, _, _⟩) rfl (fun K hK => ?_) AllReadyH.nil
              go_simp
              have HS0 := HS
              have HB0 := Lib.hid ((Below.refl wz2.heap.size wz2).alloc (Nat.le_refl _) (.cells #[] 29))
              refine hK.out _ _ (HS.out.alloc _) (fun _ => ?_)
              clear hK K
              try simp only [Act.put, List.setIfInBounds_toArray, List.set_cons_zero, List.set_cons_succ]
              have HO := Lib.hid (lit_own wz2)
              have HS := Lib.hid (HS.out.alloc (.cells #[] 29))
              have HZ0 := HZ
              refine wpAnyH_ready (rs := [5]) (by kernel_rfl) (by simp) ?_
              refine AllReadyH.cons (o := ⟨some 44, _, _, _, _, _⟩) rfl (fun K hK => ?_) AllReadyH.nil
              refine if_yes rfl ?_
              refine wp_append_list (.tmp 41) (.tmp 43) rfl wz2.heap.size ti hi hz0 hz1 hz2 _ _ [] rfl HO.out al' len' cap' M rfl (HS.out.ids 2 rfl) (by omega) HB0.out.size ?_
              intro va wa hoa hga
              have hba : Below wz2.heap.size wz2 wa := HB0.out.grown hga HB0.out.size (fun k hk => own_base HO.out k hk)
              have HZ := Lib.hid (HZ0.out.below hba)
              obtain ⟨ala, capa, rfl, hIa, hFa⟩ := app_got hoa
              have HIa := Lib.hid hIa
              have HS := Lib.hid (HS0.out.next hba)
              clear hoa hga hba hIa HO HB0
              refine hK.out _ _ HS.out (fun _ => ?_)
              clear hK K
              try simp only [Act.put, List.setIfInBounds_toArray, List.set_cons_zero, List.set_cons_succ]
              refine wpAnyH_ready (rs := [6]) (by kernel_rfl) (by simp) ?_
              refine AllReadyH.cons (o := ⟨some 45, _, _, _, _, _⟩) rfl (fun K hK => ?_) AllReadyH.nil
              go_simp
              go_at_call 9
              have hmk := cMake_cut b ala len' capa M _ HIa.out hFa HINb.out
              rw [HV2.out, HS2.out, HC2.out, HN2.out] at hmk
              refine hmk.mono ?_
              clear hmk
              rintro e wm ⟨alr, capr, rfl, hIr, hFr, bm⟩
              have HIR := Lib.hid hIr
              have HFR := Lib.hid hFr
              have HZ := Lib.hid (HZ.out.below bm)
              have HS := Lib.hid (HS.out.next bm)
              clear bm hIr hFr HIa
              go_wp2_with fail
              refine hK.out _ _ HS.out (fun _ => ?_)
              clear hK K
              try simp only [Act.put, List.setIfInBounds_toArray, List.set_cons_zero, List.set_cons_succ]
              refine wpAnyH_take (i := 7) (oi := ⟨some 38, _, _, _, _, _⟩) (v := ?_) rfl (by kernel_rfl) (by kernel_rfl) (by kernel_rfl) (fun _ _ _ h => h) (Or.inl ⟨by rfl, ?_⟩) HS.out ?_
              rotate_left
              · intro w' hSw; clear hSw; go_simp; try (with_reducible rfl)
              try simp only [Act.put, List.setIfInBounds_toArray, List.set_cons_zero, List.set_cons_succ]
              refine wpAnyH_take (i := 8) (oi := ⟨some 46, _, _, _, _, _⟩) (v := ?_) rfl (by kernel_rfl) (by kernel_rfl) (by kernel_rfl) (fun _ _ _ h => h) (Or.inl ⟨by rfl, ?_⟩) HS.out ?_
              rotate_left
              · intro w' hSw; clear hSw; go_simp; try (with_reducible rfl)
              try simp only [Act.put, List.setIfInBounds_toArray, List.set_cons_zero, List.set_cons_succ]
              refine wpAnyH_take (i := 9) (oi := ⟨some 47, _, _, _, _, _⟩) (v := ?_) rfl (by kernel_rfl) (by kernel_rfl) (by kernel_rfl) (fun _ _ _ h => h) (Or.inl ⟨by rfl, ?_⟩) HS.out ?_
              rotate_left
              · intro w' hSw; clear hSw; go_simp; try (with_reducible rfl)
              try simp only [Act.put, List.setIfInBounds_toArray, List.set_cons_zero, List.set_cons_succ]
              refine wpAnyH_ready (rs := [11]) (by kernel_rfl) (by simp) ?_
              refine AllReadyH.cons (o := ⟨none, _, _, _, _, _⟩) rfl (fun K hK => ?_) AllReadyH.nil
              refine if_yes rfl ?_
              refine wp_store_row 31 (.tmp 9) (.tmp 46) rfl (gz) #[.int .u32 (v2 0), .int .u32 (v2 1), .int .u32 (v2 2), .int .u32 (v2 3), .int .u32 (v2 4), .int .u32 (v2 5), .int .u32 (v2 6), .int .u32 (v2 7), .slice alr n2 capr] rfl rfl 31 _ HZ.out (by kernel_rfl) rfl (cut_one _ _ _ _) ?_
              refine hK.out _ _ (HS.out.row HZ.out HG.out.1 HG.out.2 _) (fun _ => ?_)
              clear hK K
              try simp only [Act.put, List.setIfInBounds_toArray, List.set_cons_zero, List.set_cons_succ]
              have HS := Lib.hid (HS.out.row HZ.out HG.out.1 HG.out.2 #[.int .u32 (v2 0), .int .u32 (v2 1), .int .u32 (v2 2), .int .u32 (v2 3), .int .u32 (v2 4), .int .u32 (v2 5), .int .u32 (v2 6), .int .u32 (v2 7), .slice alr n2 capr])
              refine wpAnyH_take (i := 12) (oi := ⟨some 10, _, _, _, _, _⟩) (v := ?_) rfl (by kernel_rfl) (by kernel_rfl) (by kernel_rfl) (fun _ _ _ h => h) (Or.inl ⟨by rfl, ?_⟩) HS.out ?_
              rotate_left
              · intro w' hSw; clear hSw; go_simp; try (with_reducible rfl)
              try simp only [Act.put, List.setIfInBounds_toArray, List.set_cons_zero, List.set_cons_succ]
              refine wpAnyH_done (by kernel_rfl) ?_ _
              go_wp2_with fail
              go_meet
              exact ⟨gz, alr, capr, rfl, rfl, HFR.out, (HS.out.put (setRow_heap _ _ _ #[.int .u32 (v2 0), .int .u32 (v2 1), .int .u32 (v2 2), .int .u32 (v2 3), .int .u32 (v2 4), .int .u32 (v2 5), .int .u32 (v2 6), .int .u32 (v2 7), .slice alr n2 capr] _ _ HZ.out)).add (ids_rowC HIR.out HZ.out _)⟩
          case rest =>
            obtain ⟨g2, al2, cap2, rfl, rfl, hF2, hks2⟩ := hcut
            have HK2 := Lib.hid hks2
            clear hks2 HK1
            go_upto_region 7 with fail
            go_cut [11, 12] (fun sx sy wx => ∃ (g3 : Nat) (al3 : Option Addr) (cap3 : Nat), sx = .pointer (some ⟨g3, 0, none⟩) ∧ sy = .int .i64 c3 ∧ Flat al3 ∧ KS w [(g3, #[.int .u32 (v3 0), .int .u32 (v3 1), .int .u32 (v3 2), .int .u32 (v3 3), .int .u32 (v3 4), .int .u32 (v3 5), .int .u32 (v3 6), .int .u32 (v3 7), .slice al3 n3 cap3], 31), (g2, #[.int .u32 (v2 0), .int .u32 (v2 1), .int .u32 (v2 2), .int .u32 (v2 3), .int .u32 (v2 4), .int .u32 (v2 5), .int .u32 (v2 6), .int .u32 (v2 7), .slice al2 n2 cap2], 31), (g1, #[.int .u32 (v1 0), .int .u32 (v1 1), .int .u32 (v1 2), .int .u32 (v1 3), .int .u32 (v1 4), .int .u32 (v1 5), .int .u32 (v1 6), .int .u32 (v1 7), .slice al1 n1 cap1], 31), (w.heap.size + 1 + 1, #[.int .u32 (d 0), .int .u32 (d 1), .int .u32 (d 2), .int .u32 (d 3), .int .u32 (d 4), .int .u32 (d 5), .int .u32 (d 6), .int .u32 (d 7), .slice al'' len'' cap''], 27), (w.heap.size + 1, #[.int .u32 (b 0), .int .u32 (b 1), .int .u32 (b 2), .int .u32 (b 3), .int .u32 (b 4), .int .u32 (b 5), .int .u32 (b 6), .int .u32 (b 7), .slice al' len' cap'], 27), (w.heap.size, #[.int .u32 (a 0), .int .u32 (a 1), .int .u32 (a 2), .int .u32 (a 3), .int .u32 (a 4), .int .u32 (a 5), .int .u32 (a 6), .int .u32 (a 7), .slice al len cap], 27)] [(al3, n3, cap3, S3), (al2, n2, cap2, S2), (al1, n1, cap1, S1), (al'', len'', cap'', N), (al', len', cap', M), (al, len, cap, L)] wx)
            case first =>
              refine wp_region_held_drew (S := KS w [(g2, #[.int .u32 (v2 0), .int .u32 (v2 1), .int .u32 (v2 2), .int .u32 (v2 3), .int .u32 (v2 4), .int .u32 (v2 5), .int .u32 (v2 6), .int .u32 (v2 7), .slice al2 n2 cap2], 31), (g1, #[.int .u32 (v1 0), .int .u32 (v1 1), .int .u32 (v1 2), .int .u32 (v1 3), .int .u32 (v1 4), .int .u32 (v1 5), .int .u32 (v1 6), .int .u32 (v1 7), .slice al1 n1 cap1], 31), (w.heap.size + 1 + 1, #[.int .u32 (d 0), .int .u32 (d 1), .int .u32 (d 2), .int .u32 (d 3), .int .u32 (d 4), .int .u32 (d 5), .int .u32 (d 6), .int .u32 (d 7), .slice al'' len'' cap''], 27), (w.heap.size + 1, #[.int .u32 (b 0), .int .u32 (b 1), .int .u32 (b 2), .int .u32 (b 3), .int .u32 (b 4), .int .u32 (b 5), .int .u32 (b 6), .int .u32 (b 7), .slice al' len' cap'], 27), (w.heap.size, #[.int .u32 (a 0), .int .u32 (a 1), .int .u32 (a 2), .int .u32 (a 3), .int .u32 (a 4), .int .u32 (a 5), .int .u32 (a 6), .int .u32 (a 7), .slice al len cap], 27)] [(al2, n2, cap2, S2), (al1, n1, cap1, S1), (al'', len'', cap'', N), (al', len', cap', M), (al, len, cap, L)]) (by kernel_rfl) HK2.out.drew (fun _ => ?_)
              have HS := Lib.hid HK2.out.drew
              generalize wc.drew = wr at HS ⊢
              refine wpAnyH_take (i := 0) (oi := ⟨some 49, _, _, _, _, _⟩) (v := ?_) rfl (by kernel_rfl) (by kernel_rfl) (by kernel_rfl) (fun _ _ _ h => h) (Or.inl ⟨by rfl, ?_⟩) HS.out ?_
              rotate_left
              · intro w' hSw; clear hSw; go_simp; try (with_reducible rfl)
              try simp only [Act.put, List.setIfInBounds_toArray, List.set_cons_zero, List.set_cons_succ]
              refine wpAnyH_take (i := 1) (oi := ⟨some 50, _, _, _, _, _⟩) (v := ?_) rfl (by kernel_rfl) (by kernel_rfl) (by kernel_rfl) (fun _ _ _ h => h) (Or.inl ⟨by rfl, ?_⟩) HS.out ?_
              rotate_left
              · intro w' hSw; obtain ⟨d_0, d_1, d_2, d_3, d_4, d_5, d_6, d_7, d_8⟩ := cut_cells (hSw.blk 2 rfl); go_simp; try (with_reducible rfl)
              try simp only [Act.put, List.setIfInBounds_toArray, List.set_cons_zero, List.set_cons_succ]
              refine wpAnyH_take (i := 3) (oi := ⟨some 52, _, _, _, _, _⟩) (v := ?_) rfl (by kernel_rfl) (by kernel_rfl) (by kernel_rfl) (fun _ _ _ h => h) (Or.inl ⟨by rfl, ?_⟩) HS.out ?_
              rotate_left
              · intro w' hSw; clear hSw; go_simp; try (with_reducible rfl)
              try simp only [Act.put, List.setIfInBounds_toArray, List.set_cons_zero, List.set_cons_succ]
              refine wpAnyH_take (i := 4) (oi := ⟨some 53, _, _, _, _, _⟩) (v := ?_) rfl (by kernel_rfl) (by kernel_rfl) (by kernel_rfl) (fun _ _ _ h => h) (Or.inl ⟨by rfl, ?_⟩) HS.out ?_
              rotate_left
              · intro w' hSw; obtain ⟨d_0, d_1, d_2, d_3, d_4, d_5, d_6, d_7, d_8⟩ := cut_cells (hSw.blk 2 rfl); go_simp; try (with_reducible rfl)
              try simp only [Act.put, List.setIfInBounds_toArray, List.set_cons_zero, List.set_cons_succ]
              refine wpAnyH_ready (rs := [2, 10]) (by kernel_rfl) (by simp) ?_
              refine AllReadyH.cons (o := ⟨some 51, _, _, _, _, _⟩) rfl (fun K hK => ?_) (AllReadyH.cons (o := ⟨some 11, _, _, _, _, _⟩) rfl (fun K hK => ?_) AllReadyH.nil)
              · go_simp
                have HS0 := HS
                have HB0 := Lib.hid ((Below.refl wr.heap.size wr).alloc (Nat.le_refl _) (.cells #[] 29))
                refine hK.out _ _ (HS.out.alloc _) (fun _ => ?_)
                clear hK K
                try simp only [Act.put, List.setIfInBounds_toArray, List.set_cons_zero, List.set_cons_succ]
                have HO := Lib.hid (lit_own wr)
                have HS := Lib.hid (HS.out.alloc (.cells #[] 29))
                refine wpAnyH_ready (rs := [5, 10]) (by kernel_rfl) (by simp) ?_
                refine AllReadyH.cons (o := ⟨some 54, _, _, _, _, _⟩) rfl (fun K hK => ?_) (AllReadyH.cons (o := ⟨some 11, _, _, _, _, _⟩) rfl (fun K hK => ?_) AllReadyH.nil)
                · refine if_yes rfl ?_
                  refine wp_append_list (.tmp 51) (.tmp 53) rfl wr.heap.size ti hi hz0 hz1 hz2 _ _ [] rfl HO.out al'' len'' cap'' N rfl (HS.out.ids 2 rfl) (by omega) HB0.out.size ?_
                  intro va wa hoa hga
                  have hba : Below wr.heap.size wr wa := HB0.out.grown hga HB0.out.size (fun k hk => own_base HO.out k hk)
                  obtain ⟨ala, capa, rfl, hIa, hFa⟩ := app_got hoa
                  have HIa := Lib.hid hIa
                  have HS := Lib.hid (HS0.out.next hba)
                  clear hoa hga hba hIa HO HB0
                  refine hK.out _ _ HS.out (fun _ => ?_)
                  clear hK K
                  try simp only [Act.put, List.setIfInBounds_toArray, List.set_cons_zero, List.set_cons_succ]
                  refine wpAnyH_ready (rs := [6, 10]) (by kernel_rfl) (by simp) ?_
                  refine AllReadyH.cons (o := ⟨some 55, _, _, _, _, _⟩) rfl (fun K hK => ?_) (AllReadyH.cons (o := ⟨some 11, _, _, _, _, _⟩) rfl (fun K hK => ?_) AllReadyH.nil)
                  · go_simp
                    go_at_call 9
                    have hmk := cMake_cut d ala len'' capa N _ HIa.out hFa HINd.out
                    rw [HV3.out, HS3.out, HC3.out, HN3.out] at hmk
                    refine hmk.mono ?_
                    clear hmk
                    rintro e wm ⟨alr, capr, rfl, hIr, hFr, bm⟩
                    have HIR := Lib.hid hIr
                    have HFR := Lib.hid hFr
                    have HS := Lib.hid (HS.out.next bm)
                    clear bm hIr hFr HIa
                    go_wp2_with fail
                    refine hK.out _ _ HS.out (fun _ => ?_)
                    clear hK K
                    try simp only [Act.put, List.setIfInBounds_toArray, List.set_cons_zero, List.set_cons_succ]
                    refine wpAnyH_take (i := 7) (oi := ⟨some 48, _, _, _, _, _⟩) (v := ?_) rfl (by kernel_rfl) (by kernel_rfl) (by kernel_rfl) (fun _ _ _ h => h) (Or.inl ⟨by rfl, ?_⟩) HS.out ?_
                    rotate_left
                    · intro w' hSw; clear hSw; go_simp; try (with_reducible rfl)
                    try simp only [Act.put, List.setIfInBounds_toArray, List.set_cons_zero, List.set_cons_succ]
                    refine wpAnyH_take (i := 8) (oi := ⟨some 56, _, _, _, _, _⟩) (v := ?_) rfl (by kernel_rfl) (by kernel_rfl) (by kernel_rfl) (fun _ _ _ h => h) (Or.inl ⟨by rfl, ?_⟩) HS.out ?_
                    rotate_left
                    · intro w' hSw; clear hSw; go_simp; try (with_reducible rfl)
                    try simp only [Act.put, List.setIfInBounds_toArray, List.set_cons_zero, List.set_cons_succ]
                    refine wpAnyH_take (i := 9) (oi := ⟨some 57, _, _, _, _, _⟩) (v := ?_) rfl (by kernel_rfl) (by kernel_rfl) (by kernel_rfl) (fun _ _ _ h => h) (Or.inl ⟨by rfl, ?_⟩) HS.out ?_
                    rotate_left
                    · intro w' hSw; clear hSw; go_simp; try (with_reducible rfl)
                    try simp only [Act.put, List.setIfInBounds_toArray, List.set_cons_zero, List.set_cons_succ]
                    refine wpAnyH_ready (rs := [10]) (by kernel_rfl) (by simp) ?_
                    refine AllReadyH.cons (o := ⟨some 11, _, _, _, _, _⟩) rfl (fun K hK => ?_) AllReadyH.nil
                    go_simp
                    have HG := Lib.hid (KS.ne HS.out)
                    refine hK.out _ _ (HS.out.alloc _) (fun _ => ?_)
                    clear hK K
                    try simp only [Act.put, List.setIfInBounds_toArray, List.set_cons_zero, List.set_cons_succ]
                    have HZ := Lib.hid (Blk.new wm #[.int .u32 0, .int .u32 0, .int .u32 0, .int .u32 0, .int .u32 0, .int .u32 0, .int .u32 0, .int .u32 0, .slice none 0 0] 31)
                    have HS := Lib.hid (HS.out.alloc (.cells #[.int .u32 0, .int .u32 0, .int .u32 0, .int .u32 0, .int .u32 0, .int .u32 0, .int .u32 0, .int .u32 0, .slice none 0 0] 31))
                    have HIR := Lib.hid (HIR.out.below ((Below.refl _ _).alloc (Nat.le_refl _) (.cells #[.int .u32 0, .int .u32 0, .int .u32 0, .int .u32 0, .int .u32 0, .int .u32 0, .int .u32 0, .int .u32 0, .slice none 0 0] 31)))
                    refine wpAnyH_ready (rs := [11]) (by kernel_rfl) (by simp) ?_
                    refine AllReadyH.cons (o := ⟨none, _, _, _, _, _⟩) rfl (fun K hK => ?_) AllReadyH.nil
                    refine if_yes rfl ?_
                    refine wp_store_row 31 (.tmp 11) (.tmp 56) rfl (wm.heap.size) #[.int .u32 (v3 0), .int .u32 (v3 1), .int .u32 (v3 2), .int .u32 (v3 3), .int .u32 (v3 4), .int .u32 (v3 5), .int .u32 (v3 6), .int .u32 (v3 7), .slice alr n3 capr] rfl rfl 31 _ HZ.out (by kernel_rfl) rfl (cut_one _ _ _ _) ?_
                    refine hK.out _ _ (HS.out.row HZ.out HG.out.1 HG.out.2 _) (fun _ => ?_)
                    clear hK K
                    try simp only [Act.put, List.setIfInBounds_toArray, List.set_cons_zero, List.set_cons_succ]
                    have HS := Lib.hid (HS.out.row HZ.out HG.out.1 HG.out.2 #[.int .u32 (v3 0), .int .u32 (v3 1), .int .u32 (v3 2), .int .u32 (v3 3), .int .u32 (v3 4), .int .u32 (v3 5), .int .u32 (v3 6), .int .u32 (v3 7), .slice alr n3 capr])
                    refine wpAnyH_take (i := 12) (oi := ⟨some 12, _, _, _, _, _⟩) (v := ?_) rfl (by kernel_rfl) (by kernel_rfl) (by kernel_rfl) (fun _ _ _ h => h) (Or.inl ⟨by rfl, ?_⟩) HS.out ?_
                    rotate_left
                    · intro w' hSw; clear hSw; go_simp; try (with_reducible rfl)
                    try simp only [Act.put, List.setIfInBounds_toArray, List.set_cons_zero, List.set_cons_succ]
                    refine wpAnyH_done (by kernel_rfl) ?_ _
                    go_wp2_with fail
                    go_meet
                    exact ⟨wm.heap.size, alr, capr, rfl, rfl, HFR.out, (HS.out.put (setRow_heap _ _ _ #[.int .u32 (v3 0), .int .u32 (v3 1), .int .u32 (v3 2), .int .u32 (v3 3), .int .u32 (v3 4), .int .u32 (v3 5), .int .u32 (v3 6), .int .u32 (v3 7), .slice alr n3 capr] _ _ HZ.out)).add (ids_rowC HIR.out HZ.out _)⟩
                  · go_simp
                    have HG := Lib.hid (KS.ne HS.out)
                    refine hK.out _ _ (HS.out.alloc _) (fun _ => ?_)
                    clear hK K
                    try simp only [Act.put, List.setIfInBounds_toArray, List.set_cons_zero, List.set_cons_succ]
                    have HZ := Lib.hid (Blk.new wa #[.int .u32 0, .int .u32 0, .int .u32 0, .int .u32 0, .int .u32 0, .int .u32 0, .int .u32 0, .int .u32 0, .slice none 0 0] 31)
                    have HS := Lib.hid (HS.out.alloc (.cells #[.int .u32 0, .int .u32 0, .int .u32 0, .int .u32 0, .int .u32 0, .int .u32 0, .int .u32 0, .int .u32 0, .slice none 0 0] 31))
                    have HGL := Lib.hid HZ.out.lt
                    have HIa := Lib.hid (HIa.out.below ((Below.refl _ _).alloc (Nat.le_refl _) (.cells #[.int .u32 0, .int .u32 0, .int .u32 0, .int .u32 0, .int .u32 0, .int .u32 0, .int .u32 0, .int .u32 0, .slice none 0 0] 31)))
                    generalize hgz : wa.heap.size = gz at HG HZ HGL ⊢
                    generalize wa.alloc (.cells #[.int .u32 0, .int .u32 0, .int .u32 0, .int .u32 0, .int .u32 0, .int .u32 0, .int .u32 0, .int .u32 0, .slice none 0 0] 31) = wz3 at HS HZ HGL HIa ⊢
                    clear hgz
                    refine wpAnyH_ready (rs := [6]) (by kernel_rfl) (by simp) ?_
                    refine AllReadyH.cons (o := ⟨some 55, _, _, _, _, _⟩) rfl (fun K hK => ?_) AllReadyH.nil
                    go_simp
                    go_at_call 9
                    have hmk := cMake_cut d ala len'' capa N _ HIa.out hFa HINd.out
                    rw [HV3.out, HS3.out, HC3.out, HN3.out] at hmk
                    refine hmk.mono ?_
                    clear hmk
                    rintro e wm ⟨alr, capr, rfl, hIr, hFr, bm⟩
                    have HIR := Lib.hid hIr
                    have HFR := Lib.hid hFr
                    have HZ := Lib.hid (HZ.out.below bm)
                    have HS := Lib.hid (HS.out.next bm)
                    clear bm hIr hFr HIa
                    go_wp2_with fail
                    refine hK.out _ _ HS.out (fun _ => ?_)
                    clear hK K
                    try simp only [Act.put, List.setIfInBounds_toArray, List.set_cons_zero, List.set_cons_succ]
                    refine wpAnyH_take (i := 7) (oi := ⟨some 48, _, _, _, _, _⟩) (v := ?_) rfl (by kernel_rfl) (by kernel_rfl) (by kernel_rfl) (fun _ _ _ h => h) (Or.inl ⟨by rfl, ?_⟩) HS.out ?_
                    rotate_left
                    · intro w' hSw; clear hSw; go_simp; try (with_reducible rfl)
                    try simp only [Act.put, List.setIfInBounds_toArray, List.set_cons_zero, List.set_cons_succ]
                    refine wpAnyH_take (i := 8) (oi := ⟨some 56, _, _, _, _, _⟩) (v := ?_) rfl (by kernel_rfl) (by kernel_rfl) (by kernel_rfl) (fun _ _ _ h => h) (Or.inl ⟨by rfl, ?_⟩) HS.out ?_
                    rotate_left
                    · intro w' hSw; clear hSw; go_simp; try (with_reducible rfl)
                    try simp only [Act.put, List.setIfInBounds_toArray, List.set_cons_zero, List.set_cons_succ]
                    refine wpAnyH_take (i := 9) (oi := ⟨some 57, _, _, _, _, _⟩) (v := ?_) rfl (by kernel_rfl) (by kernel_rfl) (by kernel_rfl) (fun _ _ _ h => h) (Or.inl ⟨by rfl, ?_⟩) HS.out ?_
                    rotate_left
                    · intro w' hSw; clear hSw; go_simp; try (with_reducible rfl)
                    try simp only [Act.put, List.setIfInBounds_toArray, List.set_cons_zero, List.set_cons_succ]
                    refine wpAnyH_ready (rs := [11]) (by kernel_rfl) (by simp) ?_
                    refine AllReadyH.cons (o := ⟨none, _, _, _, _, _⟩) rfl (fun K hK => ?_) AllReadyH.nil
                    refine if_yes rfl ?_
                    refine wp_store_row 31 (.tmp 11) (.tmp 56) rfl (gz) #[.int .u32 (v3 0), .int .u32 (v3 1), .int .u32 (v3 2), .int .u32 (v3 3), .int .u32 (v3 4), .int .u32 (v3 5), .int .u32 (v3 6), .int .u32 (v3 7), .slice alr n3 capr] rfl rfl 31 _ HZ.out (by kernel_rfl) rfl (cut_one _ _ _ _) ?_
                    refine hK.out _ _ (HS.out.row HZ.out HG.out.1 HG.out.2 _) (fun _ => ?_)
                    clear hK K
                    try simp only [Act.put, List.setIfInBounds_toArray, List.set_cons_zero, List.set_cons_succ]
                    have HS := Lib.hid (HS.out.row HZ.out HG.out.1 HG.out.2 #[.int .u32 (v3 0), .int .u32 (v3 1), .int .u32 (v3 2), .int .u32 (v3 3), .int .u32 (v3 4), .int .u32 (v3 5), .int .u32 (v3 6), .int .u32 (v3 7), .slice alr n3 capr])
                    refine wpAnyH_take (i := 12) (oi := ⟨some 12, _, _, _, _, _⟩) (v := ?_) rfl (by kernel_rfl) (by kernel_rfl) (by kernel_rfl) (fun _ _ _ h => h) (Or.inl ⟨by rfl, ?_⟩) HS.out ?_
                    rotate_left
                    · intro w' hSw; clear hSw; go_simp; try (with_reducible rfl)
                    try simp only [Act.put, List.setIfInBounds_toArray, List.set_cons_zero, List.set_cons_succ]
                    refine wpAnyH_done (by kernel_rfl) ?_ _
                    go_wp2_with fail
                    go_meet
                    exact ⟨gz, alr, capr, rfl, rfl, HFR.out, (HS.out.put (setRow_heap _ _ _ #[.int .u32 (v3 0), .int .u32 (v3 1), .int .u32 (v3 2), .int .u32 (v3 3), .int .u32 (v3 4), .int .u32 (v3 5), .int .u32 (v3 6), .int .u32 (v3 7), .slice alr n3 capr] _ _ HZ.out)).add (ids_rowC HIR.out HZ.out _)⟩
                · go_simp
                  have HG := Lib.hid (KS.ne HS.out)
                  refine hK.out _ _ (HS.out.alloc _) (fun _ => ?_)
                  clear hK K
                  try simp only [Act.put, List.setIfInBounds_toArray, List.set_cons_zero, List.set_cons_succ]
                  have HZ := Lib.hid (blk_newS (W := wr) (.cells #[] 29) #[.int .u32 0, .int .u32 0, .int .u32 0, .int .u32 0, .int .u32 0, .int .u32 0, .int .u32 0, .int .u32 0, .slice none 0 0] 31)
                  have HS := Lib.hid (HS.out.alloc (.cells #[.int .u32 0, .int .u32 0, .int .u32 0, .int .u32 0, .int .u32 0, .int .u32 0, .int .u32 0, .int .u32 0, .slice none 0 0] 31))
                  have HB0 := Lib.hid (HB0.out.alloc HB0.out.size (.cells #[.int .u32 0, .int .u32 0, .int .u32 0, .int .u32 0, .int .u32 0, .int .u32 0, .int .u32 0, .int .u32 0, .slice none 0 0] 31))
                  have HO := Lib.hid (HO.out.alloc (.cells #[.int .u32 0, .int .u32 0, .int .u32 0, .int .u32 0, .int .u32 0, .int .u32 0, .int .u32 0, .int .u32 0, .slice none 0 0] 31))
                  have HG := Lib.hid (show (∀ x, x ∈ ([(g2, #[.int .u32 (v2 0), .int .u32 (v2 1), .int .u32 (v2 2), .int .u32 (v2 3), .int .u32 (v2 4), .int .u32 (v2 5), .int .u32 (v2 6), .int .u32 (v2 7), .slice al2 n2 cap2], 31), (g1, #[.int .u32 (v1 0), .int .u32 (v1 1), .int .u32 (v1 2), .int .u32 (v1 3), .int .u32 (v1 4), .int .u32 (v1 5), .int .u32 (v1 6), .int .u32 (v1 7), .slice al1 n1 cap1], 31), (w.heap.size + 1 + 1, #[.int .u32 (d 0), .int .u32 (d 1), .int .u32 (d 2), .int .u32 (d 3), .int .u32 (d 4), .int .u32 (d 5), .int .u32 (d 6), .int .u32 (d 7), .slice al'' len'' cap''], 27), (w.heap.size + 1, #[.int .u32 (b 0), .int .u32 (b 1), .int .u32 (b 2), .int .u32 (b 3), .int .u32 (b 4), .int .u32 (b 5), .int .u32 (b 6), .int .u32 (b 7), .slice al' len' cap'], 27), (w.heap.size, #[.int .u32 (a 0), .int .u32 (a 1), .int .u32 (a 2), .int .u32 (a 3), .int .u32 (a 4), .int .u32 (a 5), .int .u32 (a 6), .int .u32 (a 7), .slice al len cap], 27)] : List Bx) → x.1 ≠ wr.heap.size + 1) ∧ w.heap.size ≤ wr.heap.size + 1 from by simpa using HG.out)
                  refine wpAnyH_ready (rs := [5]) (by kernel_rfl) (by simp) ?_
                  refine AllReadyH.cons (o := ⟨some 54, _, _, _, _, _⟩) rfl (fun K hK => ?_) AllReadyH.nil
                  refine if_yes rfl ?_
                  refine wp_append_list (.tmp 51) (.tmp 53) rfl wr.heap.size ti hi hz0 hz1 hz2 _ _ [] rfl HO.out al'' len'' cap'' N rfl (HS.out.ids 2 rfl) (by omega) HB0.out.size ?_
                  intro va wa hoa hga
                  have hba : Below wr.heap.size wr wa := HB0.out.grown hga HB0.out.size (fun k hk => own_base HO.out k hk)
                  have HZ : Hid (Blk wa (wr.heap.size + 1) #[.int .u32 0, .int .u32 0, .int .u32 0, .int .u32 0, .int .u32 0, .int .u32 0, .int .u32 0, .int .u32 0, .slice none 0 0] 31) := Lib.hid ((hga.block _ (by simp) (lit_block (by simp))).trans HZ.out)
                  obtain ⟨ala, capa, rfl, hIa, hFa⟩ := app_got hoa
                  have HIa := Lib.hid hIa
                  have HS := Lib.hid (HS0.out.next hba)
                  clear hoa hga hba hIa HO HB0
                  refine hK.out _ _ HS.out (fun _ => ?_)
                  clear hK K
                  try simp only [Act.put, List.setIfInBounds_toArray, List.set_cons_zero, List.set_cons_succ]
                  refine wpAnyH_ready (rs := [6]) (by kernel_rfl) (by simp) ?_
                  refine AllReadyH.cons (o := ⟨some 55, _, _, _, _, _⟩) rfl (fun K hK => ?_) AllReadyH.nil
                  go_simp
                  go_at_call 9
                  have hmk := cMake_cut d ala len'' capa N _ HIa.out hFa HINd.out
                  rw [HV3.out, HS3.out, HC3.out, HN3.out] at hmk
                  refine hmk.mono ?_
                  clear hmk
                  rintro e wm ⟨alr, capr, rfl, hIr, hFr, bm⟩
                  have HIR := Lib.hid hIr
                  have HFR := Lib.hid hFr
                  have HZ := Lib.hid (HZ.out.below bm)
                  have HS := Lib.hid (HS.out.next bm)
                  clear bm hIr hFr HIa
                  go_wp2_with fail
                  refine hK.out _ _ HS.out (fun _ => ?_)
                  clear hK K
                  try simp only [Act.put, List.setIfInBounds_toArray, List.set_cons_zero, List.set_cons_succ]
                  refine wpAnyH_take (i := 7) (oi := ⟨some 48, _, _, _, _, _⟩) (v := ?_) rfl (by kernel_rfl) (by kernel_rfl) (by kernel_rfl) (fun _ _ _ h => h) (Or.inl ⟨by rfl, ?_⟩) HS.out ?_
                  rotate_left
                  · intro w' hSw; clear hSw; go_simp; try (with_reducible rfl)
                  try simp only [Act.put, List.setIfInBounds_toArray, List.set_cons_zero, List.set_cons_succ]
                  refine wpAnyH_take (i := 8) (oi := ⟨some 56, _, _, _, _, _⟩) (v := ?_) rfl (by kernel_rfl) (by kernel_rfl) (by kernel_rfl) (fun _ _ _ h => h) (Or.inl ⟨by rfl, ?_⟩) HS.out ?_
                  rotate_left
                  · intro w' hSw; clear hSw; go_simp; try (with_reducible rfl)
                  try simp only [Act.put, List.setIfInBounds_toArray, List.set_cons_zero, List.set_cons_succ]
                  refine wpAnyH_take (i := 9) (oi := ⟨some 57, _, _, _, _, _⟩) (v := ?_) rfl (by kernel_rfl) (by kernel_rfl) (by kernel_rfl) (fun _ _ _ h => h) (Or.inl ⟨by rfl, ?_⟩) HS.out ?_
                  rotate_left
                  · intro w' hSw; clear hSw; go_simp; try (with_reducible rfl)
                  try simp only [Act.put, List.setIfInBounds_toArray, List.set_cons_zero, List.set_cons_succ]
                  refine wpAnyH_ready (rs := [11]) (by kernel_rfl) (by simp) ?_
                  refine AllReadyH.cons (o := ⟨none, _, _, _, _, _⟩) rfl (fun K hK => ?_) AllReadyH.nil
                  refine if_yes rfl ?_
                  refine wp_store_row 31 (.tmp 11) (.tmp 56) rfl ((wr.heap.size + 1)) #[.int .u32 (v3 0), .int .u32 (v3 1), .int .u32 (v3 2), .int .u32 (v3 3), .int .u32 (v3 4), .int .u32 (v3 5), .int .u32 (v3 6), .int .u32 (v3 7), .slice alr n3 capr] rfl rfl 31 _ HZ.out (by kernel_rfl) rfl (cut_one _ _ _ _) ?_
                  refine hK.out _ _ (HS.out.row HZ.out HG.out.1 HG.out.2 _) (fun _ => ?_)
                  clear hK K
                  try simp only [Act.put, List.setIfInBounds_toArray, List.set_cons_zero, List.set_cons_succ]
                  have HS := Lib.hid (HS.out.row HZ.out HG.out.1 HG.out.2 #[.int .u32 (v3 0), .int .u32 (v3 1), .int .u32 (v3 2), .int .u32 (v3 3), .int .u32 (v3 4), .int .u32 (v3 5), .int .u32 (v3 6), .int .u32 (v3 7), .slice alr n3 capr])
                  refine wpAnyH_take (i := 12) (oi := ⟨some 12, _, _, _, _, _⟩) (v := ?_) rfl (by kernel_rfl) (by kernel_rfl) (by kernel_rfl) (fun _ _ _ h => h) (Or.inl ⟨by rfl, ?_⟩) HS.out ?_
                  rotate_left
                  · intro w' hSw; clear hSw; go_simp; try (with_reducible rfl)
                  try simp only [Act.put, List.setIfInBounds_toArray, List.set_cons_zero, List.set_cons_succ]
                  refine wpAnyH_done (by kernel_rfl) ?_ _
                  go_wp2_with fail
                  go_meet
                  exact ⟨(wr.heap.size + 1), alr, capr, rfl, rfl, HFR.out, (HS.out.put (setRow_heap _ _ _ #[.int .u32 (v3 0), .int .u32 (v3 1), .int .u32 (v3 2), .int .u32 (v3 3), .int .u32 (v3 4), .int .u32 (v3 5), .int .u32 (v3 6), .int .u32 (v3 7), .slice alr n3 capr] _ _ HZ.out)).add (ids_rowC HIR.out HZ.out _)⟩
              · go_simp
                have HG := Lib.hid (KS.ne HS.out)
                refine hK.out _ _ (HS.out.alloc _) (fun _ => ?_)
                clear hK K
                try simp only [Act.put, List.setIfInBounds_toArray, List.set_cons_zero, List.set_cons_succ]
                have HZ := Lib.hid (Blk.new wr #[.int .u32 0, .int .u32 0, .int .u32 0, .int .u32 0, .int .u32 0, .int .u32 0, .int .u32 0, .int .u32 0, .slice none 0 0] 31)
                have HS := Lib.hid (HS.out.alloc (.cells #[.int .u32 0, .int .u32 0, .int .u32 0, .int .u32 0, .int .u32 0, .int .u32 0, .int .u32 0, .int .u32 0, .slice none 0 0] 31))
                have HGL := Lib.hid HZ.out.lt
                generalize hgz : wr.heap.size = gz at HG HZ HGL ⊢
                generalize wr.alloc (.cells #[.int .u32 0, .int .u32 0, .int .u32 0, .int .u32 0, .int .u32 0, .int .u32 0, .int .u32 0, .int .u32 0, .slice none 0 0] 31) = wz3 at HS HZ HGL ⊢
                clear hgz
                refine wpAnyH_ready (rs := [2]) (by kernel_rfl) (by simp) ?_
                refine AllReadyH.cons (o := ⟨some 51, _, _, _, _, _⟩) rfl (fun K hK => ?_) AllReadyH.nil
                go_simp
                have HS0 := HS
                have HB0 := Lib.hid ((Below.refl wz3.heap.size wz3).alloc (Nat.le_refl _) (.cells #[] 29))
                refine hK.out _ _ (HS.out.alloc _) (fun _ => ?_)
                clear hK K
                try simp only [Act.put, List.setIfInBounds_toArray, List.set_cons_zero, List.set_cons_succ]
                have HO := Lib.hid (lit_own wz3)
                have HS := Lib.hid (HS.out.alloc (.cells #[] 29))
                have HZ0 := HZ
                refine wpAnyH_ready (rs := [5]) (by kernel_rfl) (by simp) ?_
                refine AllReadyH.cons (o := ⟨some 54, _, _, _, _, _⟩) rfl (fun K hK => ?_) AllReadyH.nil
                refine if_yes rfl ?_
                refine wp_append_list (.tmp 51) (.tmp 53) rfl wz3.heap.size ti hi hz0 hz1 hz2 _ _ [] rfl HO.out al'' len'' cap'' N rfl (HS.out.ids 2 rfl) (by omega) HB0.out.size ?_
                intro va wa hoa hga
                have hba : Below wz3.heap.size wz3 wa := HB0.out.grown hga HB0.out.size (fun k hk => own_base HO.out k hk)
                have HZ := Lib.hid (HZ0.out.below hba)
                obtain ⟨ala, capa, rfl, hIa, hFa⟩ := app_got hoa
                have HIa := Lib.hid hIa
                have HS := Lib.hid (HS0.out.next hba)
                clear hoa hga hba hIa HO HB0
                refine hK.out _ _ HS.out (fun _ => ?_)
                clear hK K
                try simp only [Act.put, List.setIfInBounds_toArray, List.set_cons_zero, List.set_cons_succ]
                refine wpAnyH_ready (rs := [6]) (by kernel_rfl) (by simp) ?_
                refine AllReadyH.cons (o := ⟨some 55, _, _, _, _, _⟩) rfl (fun K hK => ?_) AllReadyH.nil
                go_simp
                go_at_call 9
                have hmk := cMake_cut d ala len'' capa N _ HIa.out hFa HINd.out
                rw [HV3.out, HS3.out, HC3.out, HN3.out] at hmk
                refine hmk.mono ?_
                clear hmk
                rintro e wm ⟨alr, capr, rfl, hIr, hFr, bm⟩
                have HIR := Lib.hid hIr
                have HFR := Lib.hid hFr
                have HZ := Lib.hid (HZ.out.below bm)
                have HS := Lib.hid (HS.out.next bm)
                clear bm hIr hFr HIa
                go_wp2_with fail
                refine hK.out _ _ HS.out (fun _ => ?_)
                clear hK K
                try simp only [Act.put, List.setIfInBounds_toArray, List.set_cons_zero, List.set_cons_succ]
                refine wpAnyH_take (i := 7) (oi := ⟨some 48, _, _, _, _, _⟩) (v := ?_) rfl (by kernel_rfl) (by kernel_rfl) (by kernel_rfl) (fun _ _ _ h => h) (Or.inl ⟨by rfl, ?_⟩) HS.out ?_
                rotate_left
                · intro w' hSw; clear hSw; go_simp; try (with_reducible rfl)
                try simp only [Act.put, List.setIfInBounds_toArray, List.set_cons_zero, List.set_cons_succ]
                refine wpAnyH_take (i := 8) (oi := ⟨some 56, _, _, _, _, _⟩) (v := ?_) rfl (by kernel_rfl) (by kernel_rfl) (by kernel_rfl) (fun _ _ _ h => h) (Or.inl ⟨by rfl, ?_⟩) HS.out ?_
                rotate_left
                · intro w' hSw; clear hSw; go_simp; try (with_reducible rfl)
                try simp only [Act.put, List.setIfInBounds_toArray, List.set_cons_zero, List.set_cons_succ]
                refine wpAnyH_take (i := 9) (oi := ⟨some 57, _, _, _, _, _⟩) (v := ?_) rfl (by kernel_rfl) (by kernel_rfl) (by kernel_rfl) (fun _ _ _ h => h) (Or.inl ⟨by rfl, ?_⟩) HS.out ?_
                rotate_left
                · intro w' hSw; clear hSw; go_simp; try (with_reducible rfl)
                try simp only [Act.put, List.setIfInBounds_toArray, List.set_cons_zero, List.set_cons_succ]
                refine wpAnyH_ready (rs := [11]) (by kernel_rfl) (by simp) ?_
                refine AllReadyH.cons (o := ⟨none, _, _, _, _, _⟩) rfl (fun K hK => ?_) AllReadyH.nil
                refine if_yes rfl ?_
                refine wp_store_row 31 (.tmp 11) (.tmp 56) rfl (gz) #[.int .u32 (v3 0), .int .u32 (v3 1), .int .u32 (v3 2), .int .u32 (v3 3), .int .u32 (v3 4), .int .u32 (v3 5), .int .u32 (v3 6), .int .u32 (v3 7), .slice alr n3 capr] rfl rfl 31 _ HZ.out (by kernel_rfl) rfl (cut_one _ _ _ _) ?_
                refine hK.out _ _ (HS.out.row HZ.out HG.out.1 HG.out.2 _) (fun _ => ?_)
                clear hK K
                try simp only [Act.put, List.setIfInBounds_toArray, List.set_cons_zero, List.set_cons_succ]
                have HS := Lib.hid (HS.out.row HZ.out HG.out.1 HG.out.2 #[.int .u32 (v3 0), .int .u32 (v3 1), .int .u32 (v3 2), .int .u32 (v3 3), .int .u32 (v3 4), .int .u32 (v3 5), .int .u32 (v3 6), .int .u32 (v3 7), .slice alr n3 capr])
                refine wpAnyH_take (i := 12) (oi := ⟨some 12, _, _, _, _, _⟩) (v := ?_) rfl (by kernel_rfl) (by kernel_rfl) (by kernel_rfl) (fun _ _ _ h => h) (Or.inl ⟨by rfl, ?_⟩) HS.out ?_
                rotate_left
                · intro w' hSw; clear hSw; go_simp; try (with_reducible rfl)
                try simp only [Act.put, List.setIfInBounds_toArray, List.set_cons_zero, List.set_cons_succ]
                refine wpAnyH_done (by kernel_rfl) ?_ _
                go_wp2_with fail
                go_meet
                exact ⟨gz, alr, capr, rfl, rfl, HFR.out, (HS.out.put (setRow_heap _ _ _ #[.int .u32 (v3 0), .int .u32 (v3 1), .int .u32 (v3 2), .int .u32 (v3 3), .int .u32 (v3 4), .int .u32 (v3 5), .int .u32 (v3 6), .int .u32 (v3 7), .slice alr n3 capr] _ _ HZ.out)).add (ids_rowC HIR.out HZ.out _)⟩
            case rest =>
              obtain ⟨g3, al3, cap3, rfl, rfl, hF3, hks3⟩ := hcut
              have HK3 := Lib.hid hks3
              clear hks3 HK2
              by_cases hz1 : c1 = 0
              case neg =>
                have hn : (c1 != 0) = true := by simpa using hz1
                clear hz1
                go_wp2
                go_ret
                exact ⟨rfl, HK3.out.bel⟩
              case pos =>
                subst hz1
                by_cases hz2 : c2 = 0
                case neg =>
                  have hn : (c2 != 0) = true := by simpa using hz2
                  clear hz2
                  go_wp2
                  go_ret
                  exact ⟨rfl, HK3.out.bel⟩
                case pos =>
                  subst hz2
                  by_cases hz3 : c3 = 0
                  case neg =>
                    have hn : (c3 != 0) = true := by simpa using hz3
                    clear hz3
                    go_wp2
                    go_ret
                    exact ⟨rfl, HK3.out.bel⟩
                  case pos =>
                    subst hz3
                    obtain ⟨i1, q1, k1⟩ := made_ok HINa.out HC1.out
                    obtain ⟨i2, q2, k2⟩ := made_ok HINb.out HC2.out
                    obtain ⟨i3, q3, k3⟩ := made_ok HINd.out HC3.out
                    rw [HV1.out] at i1
                    rw [HV2.out] at i2
                    rw [HV3.out] at i3
                    rw [HV1.out, HS1.out] at q1 k1
                    rw [HV2.out, HS2.out] at q2 k2
                    rw [HV3.out, HS3.out] at q3 k3
                    obtain ⟨f1, f2, f3⟩ := or_facts q1 q2 k1 k2 k3
                    obtain ⟨x12, hx12⟩ : ∃ x, leP v1 S1 v2 S2 = x := ⟨_, rfl⟩
                    obtain ⟨x23, hx23⟩ : ∃ x, leP v2 S2 v3 S3 = x := ⟨_, rfl⟩
                    obtain ⟨x13, hx13⟩ : ∃ x, leP v1 S1 v3 S3 = x := ⟨_, rfl⟩
                    obtain ⟨x21, hx21⟩ : ∃ x, leP v2 S2 v1 S1 = x := ⟨_, rfl⟩
                    rw [hx12, hx23, hx13] at f2
                    rw [hx12, hx21] at f3
                    have F1 := Lib.hid f1; have F2 := Lib.hid f2; have F3 := Lib.hid f3; have J1 := Lib.hid i1; have J2 := Lib.hid i2; have J3 := Lib.hid i3; have X12 := Lib.hid hx12; have X23 := Lib.hid hx23; have X13 := Lib.hid hx13; have X21 := Lib.hid hx21
                    clear f1 f2 f3 i1 i2 i3 q1 q2 q3 k1 k2 k3 hx12 hx23 hx13 hx21
                    have HQ := Lib.hid (HK3.out.drop (Bs' := [(g3, #[.int .u32 (v3 0), .int .u32 (v3 1), .int .u32 (v3 2), .int .u32 (v3 3), .int .u32 (v3 4), .int .u32 (v3 5), .int .u32 (v3 6), .int .u32 (v3 7), .slice al3 n3 cap3], 31), (g2, #[.int .u32 (v2 0), .int .u32 (v2 1), .int .u32 (v2 2), .int .u32 (v2 3), .int .u32 (v2 4), .int .u32 (v2 5), .int .u32 (v2 6), .int .u32 (v2 7), .slice al2 n2 cap2], 31), (g1, #[.int .u32 (v1 0), .int .u32 (v1 1), .int .u32 (v1 2), .int .u32 (v1 3), .int .u32 (v1 4), .int .u32 (v1 5), .int .u32 (v1 6), .int .u32 (v1 7), .slice al1 n1 cap1], 31)]) (Rs' := [(al3, n3, cap3, S3), (al2, n2, cap2, S2), (al1, n1, cap1, S1)]) (fun x hx => by simp only [List.mem_cons, List.not_mem_nil, or_false] at hx ⊢; rcases hx with h | h | h; exact .inl h; exact .inr (.inl h); exact .inr (.inr (.inl h))) (fun x hx => by simp only [List.mem_cons, List.not_mem_nil, or_false] at hx ⊢; rcases hx with h | h | h; exact .inl h; exact .inr (.inl h); exact .inr (.inr (.inl h))))
                    obtain ⟨p1_0, p1_1, p1_2, p1_3, p1_4, p1_5, p1_6, p1_7, p1_8⟩ := cut_cells (HQ.out.blk 2 rfl)
                    go_wp2_with fail
                    have hle := cLE_any v1 v1 al1 al1 n1 cap1 n1 cap1 S1 S1 _ (HQ.out.ids 2 rfl) (HQ.out.ids 2 rfl) hF1 hF1 J1.out J1.out
                    rw [F1.out] at hle
                    refine hle.mono ?_
                    clear hle
                    rintro e y1 ⟨rfl, b1⟩
                    have HL1 := Lib.hid (HQ.out.next b1)
                    clear b1
                    clear p1_0 p1_1 p1_2 p1_3 p1_4 p1_5 p1_6 p1_7 p1_8
                    obtain ⟨p2_0, p2_1, p2_2, p2_3, p2_4, p2_5, p2_6, p2_7, p2_8⟩ := cut_cells (HL1.out.blk 1 rfl)
                    obtain ⟨p1_0, p1_1, p1_2, p1_3, p1_4, p1_5, p1_6, p1_7, p1_8⟩ := cut_cells (HL1.out.blk 2 rfl)
                    go_wp2_with fail
                    have hle := cLE_any v1 v2 al1 al2 n1 cap1 n2 cap2 S1 S2 _ (HL1.out.ids 2 rfl) (HL1.out.ids 1 rfl) hF1 hF2 J1.out J2.out
                    rw [X12.out] at hle
                    refine hle.mono ?_
                    clear hle
                    rintro e y2 ⟨rfl, b2⟩
                    have HL2 := Lib.hid (HL1.out.next b2)
                    clear b2
                    clear p2_0 p2_1 p2_2 p2_3 p2_4 p2_5 p2_6 p2_7 p2_8 p1_0 p1_1 p1_2 p1_3 p1_4 p1_5 p1_6 p1_7 p1_8
                    cases x12 with
                    | false =>
                      go_wp2_with fail
                      refine wp_region_held_drew (S := KS w [(g3, #[.int .u32 (v3 0), .int .u32 (v3 1), .int .u32 (v3 2), .int .u32 (v3 3), .int .u32 (v3 4), .int .u32 (v3 5), .int .u32 (v3 6), .int .u32 (v3 7), .slice al3 n3 cap3], 31), (g2, #[.int .u32 (v2 0), .int .u32 (v2 1), .int .u32 (v2 2), .int .u32 (v2 3), .int .u32 (v2 4), .int .u32 (v2 5), .int .u32 (v2 6), .int .u32 (v2 7), .slice al2 n2 cap2], 31), (g1, #[.int .u32 (v1 0), .int .u32 (v1 1), .int .u32 (v1 2), .int .u32 (v1 3), .int .u32 (v1 4), .int .u32 (v1 5), .int .u32 (v1 6), .int .u32 (v1 7), .slice al1 n1 cap1], 31)] [(al3, n3, cap3, S3), (al2, n2, cap2, S2), (al1, n1, cap1, S1)]) (by kernel_rfl) HL2.out.drew (fun _ => ?_)
                      have HS := Lib.hid HL2.out.drew
                      refine wpAnyH_take (i := 0) (oi := ⟨some 88, _, _, _, _, _⟩) (v := ?_) rfl (by kernel_rfl) (by kernel_rfl) (by kernel_rfl) (fun _ _ _ h => h) (Or.inl ⟨by rfl, ?_⟩) HS.out ?_
                      rotate_left
                      · intro w' hSw; obtain ⟨p2_0, p2_1, p2_2, p2_3, p2_4, p2_5, p2_6, p2_7, p2_8⟩ := cut_cells (hSw.blk 1 rfl); obtain ⟨p1_0, p1_1, p1_2, p1_3, p1_4, p1_5, p1_6, p1_7, p1_8⟩ := cut_cells (hSw.blk 2 rfl); go_simp; try (with_reducible rfl)
                      try simp only [Act.put, List.setIfInBounds_toArray, List.set_cons_zero, List.set_cons_succ]
                      refine wpAnyH_take (i := 1) (oi := ⟨some 89, _, _, _, _, _⟩) (v := ?_) rfl (by kernel_rfl) (by kernel_rfl) (by kernel_rfl) (fun _ _ _ h => h) (Or.inl ⟨by rfl, ?_⟩) HS.out ?_
                      rotate_left
                      · intro w' hSw; obtain ⟨p2_0, p2_1, p2_2, p2_3, p2_4, p2_5, p2_6, p2_7, p2_8⟩ := cut_cells (hSw.blk 1 rfl); obtain ⟨p1_0, p1_1, p1_2, p1_3, p1_4, p1_5, p1_6, p1_7, p1_8⟩ := cut_cells (hSw.blk 2 rfl); go_simp; try (with_reducible rfl)
                      try simp only [Act.put, List.setIfInBounds_toArray, List.set_cons_zero, List.set_cons_succ]
                      refine wpAnyH_take (i := 8) (oi := ⟨some 96, _, _, _, _, _⟩) (v := ?_) rfl (by kernel_rfl) (by kernel_rfl) (by kernel_rfl) (fun _ _ _ h => h) (Or.inl ⟨by rfl, ?_⟩) HS.out ?_
                      rotate_left
                      · intro w' hSw; obtain ⟨p2_0, p2_1, p2_2, p2_3, p2_4, p2_5, p2_6, p2_7, p2_8⟩ := cut_cells (hSw.blk 1 rfl); obtain ⟨p1_0, p1_1, p1_2, p1_3, p1_4, p1_5, p1_6, p1_7, p1_8⟩ := cut_cells (hSw.blk 2 rfl); go_simp; try (with_reducible rfl)
                      try simp only [Act.put, List.setIfInBounds_toArray, List.set_cons_zero, List.set_cons_succ]
                      refine wpAnyH_take (i := 9) (oi := ⟨some 97, _, _, _, _, _⟩) (v := ?_) rfl (by kernel_rfl) (by kernel_rfl) (by kernel_rfl) (fun _ _ _ h => h) (Or.inl ⟨by rfl, ?_⟩) HS.out ?_
                      rotate_left
                      · intro w' hSw; obtain ⟨p2_0, p2_1, p2_2, p2_3, p2_4, p2_5, p2_6, p2_7, p2_8⟩ := cut_cells (hSw.blk 1 rfl); obtain ⟨p1_0, p1_1, p1_2, p1_3, p1_4, p1_5, p1_6, p1_7, p1_8⟩ := cut_cells (hSw.blk 2 rfl); go_simp; try (with_reducible rfl)
                      try simp only [Act.put, List.setIfInBounds_toArray, List.set_cons_zero, List.set_cons_succ]
                      refine wpAnyH_ready (rs := [2]) (by kernel_rfl) (by simp) ?_
                      refine AllReadyH.cons (o := ⟨some 90, _, _, _, _, _⟩) rfl (fun K hK => ?_) AllReadyH.nil
                      go_simp
                      go_at_call 23
                      have hle := cLE_any v1 v2 al1 al2 n1 cap1 n2 cap2 S1 S2 _ (HS.out.ids 2 rfl) (HS.out.ids 1 rfl) hF1 hF2 J1.out J2.out
                      rw [X12.out] at hle
                      refine hle.mono ?_
                      clear hle
                      rintro e z1 ⟨rfl, b1⟩
                      have HS := Lib.hid (HS.out.next b1)
                      clear b1
                      go_wp2_with fail
                      refine hK.out _ _ HS.out (fun _ => ?_)
                      clear hK K
                      try simp only [Act.put, List.setIfInBounds_toArray, List.set_cons_zero, List.set_cons_succ]
                      refine wpAnyH_take (i := 3) (oi := ⟨some 91, _, _, _, _, _⟩) (v := ?_) rfl (by kernel_rfl) (by kernel_rfl) (by kernel_rfl) (fun _ _ _ h => h) (Or.inl ⟨by rfl, ?_⟩) HS.out ?_
                      rotate_left
                      · intro w' hSw; clear hSw; go_simp; try (with_reducible rfl)
                      try simp only [Act.put, List.setIfInBounds_toArray, List.set_cons_zero, List.set_cons_succ]
                      refine wpAnyH_take (i := 4) (oi := ⟨some 92, _, _, _, _, _⟩) (v := _) rfl (by kernel_rfl) (by kernel_rfl) (by kernel_rfl) (fun _ _ _ h => h) (Or.inr ⟨by rfl, rfl⟩) HS.out ?_
                      try simp only [Act.put, List.setIfInBounds_toArray, List.set_cons_zero, List.set_cons_succ]
                      refine wpAnyH_take (i := 5) (oi := ⟨some 93, _, _, _, _, _⟩) (v := _) rfl (by kernel_rfl) (by kernel_rfl) (by kernel_rfl) (fun _ _ _ h => h) (Or.inr ⟨by rfl, rfl⟩) HS.out ?_
                      try simp only [Act.put, List.setIfInBounds_toArray, List.set_cons_zero, List.set_cons_succ]
                      refine wpAnyH_take (i := 6) (oi := ⟨some 94, _, _, _, _, _⟩) (v := _) rfl (by kernel_rfl) (by kernel_rfl) (by kernel_rfl) (fun _ _ _ h => h) (Or.inr ⟨by rfl, rfl⟩) HS.out ?_
                      try simp only [Act.put, List.setIfInBounds_toArray, List.set_cons_zero, List.set_cons_succ]
                      refine wpAnyH_take (i := 7) (oi := ⟨some 95, _, _, _, _, _⟩) (v := ?_) rfl (by kernel_rfl) (by kernel_rfl) (by kernel_rfl) (fun _ _ _ h => h) (Or.inl ⟨by rfl, ?_⟩) HS.out ?_
                      rotate_left
                      · intro w' hSw; clear hSw; go_simp; try (with_reducible rfl)
                      try simp only [Act.put, List.setIfInBounds_toArray, List.set_cons_zero, List.set_cons_succ]
                      refine wpAnyH_ready (rs := [10]) (by kernel_rfl) (by simp) ?_
                      refine AllReadyH.cons (o := ⟨some 98, _, _, _, _, _⟩) rfl (fun K hK => ?_) AllReadyH.nil
                      go_simp
                      go_at_call 25
                      have hle := cSame_cut v1 v2 al1 al2 n1 cap1 n2 cap2 S1 S2 _ (HS.out.ids 2 rfl) (HS.out.ids 1 rfl)
                      rw [← F3.out] at hle
                      refine hle.mono ?_
                      clear hle
                      rintro e z2 ⟨rfl, b2⟩
                      have HS := Lib.hid (HS.out.next b2)
                      clear b2
                      go_wp2_with fail
                      refine hK.out _ _ HS.out (fun _ => ?_)
                      clear hK K
                      try simp only [Act.put, List.setIfInBounds_toArray, List.set_cons_zero, List.set_cons_succ]
                      refine wpAnyH_take (i := 11) (oi := ⟨some 99, _, _, _, _, _⟩) (v := ?_) rfl (by kernel_rfl) (by kernel_rfl) (by kernel_rfl) (fun _ _ _ h => h) (Or.inl ⟨by rfl, ?_⟩) HS.out ?_
                      rotate_left
                      · intro w' hSw; clear hSw; go_simp; try (with_reducible rfl)
                      try simp only [Act.put, List.setIfInBounds_toArray, List.set_cons_zero, List.set_cons_succ]
                      refine wpAnyH_take (i := 12) (oi := ⟨some 6, _, _, _, _, _⟩) (v := ?_) rfl (by kernel_rfl) (by kernel_rfl) (by kernel_rfl) (fun _ _ _ h => h) (Or.inl ⟨by rfl, ?_⟩) HS.out ?_
                      rotate_left
                      · intro w' hSw; clear hSw; go_simp; try (with_reducible rfl)
                      try simp only [Act.put, List.setIfInBounds_toArray, List.set_cons_zero, List.set_cons_succ]
                      refine wpAnyH_done (by kernel_rfl) ?_ _
                      go_wp2_with fail
                      go_ret
                      exact ⟨by first | rfl | (cases x21 <;> rfl), HS.out.bel⟩
                    | true =>
                      obtain ⟨p3_0, p3_1, p3_2, p3_3, p3_4, p3_5, p3_6, p3_7, p3_8⟩ := cut_cells (HL2.out.blk 0 rfl)
                      obtain ⟨p2_0, p2_1, p2_2, p2_3, p2_4, p2_5, p2_6, p2_7, p2_8⟩ := cut_cells (HL2.out.blk 1 rfl)
                      go_wp2_with fail
                      have hle := cLE_any v2 v3 al2 al3 n2 cap2 n3 cap3 S2 S3 _ (HL2.out.ids 1 rfl) (HL2.out.ids 0 rfl) hF2 hF3 J2.out J3.out
                      rw [X23.out] at hle
                      refine hle.mono ?_
                      clear hle
                      rintro e y3 ⟨rfl, b3⟩
                      have HL3 := Lib.hid (HL2.out.next b3)
                      clear b3
                      clear p3_0 p3_1 p3_2 p3_3 p3_4 p3_5 p3_6 p3_7 p3_8 p2_0 p2_1 p2_2 p2_3 p2_4 p2_5 p2_6 p2_7 p2_8
                      cases x23 with
                      | false =>
                        go_wp2_with fail
                        refine wp_region_held_drew (S := KS w [(g3, #[.int .u32 (v3 0), .int .u32 (v3 1), .int .u32 (v3 2), .int .u32 (v3 3), .int .u32 (v3 4), .int .u32 (v3 5), .int .u32 (v3 6), .int .u32 (v3 7), .slice al3 n3 cap3], 31), (g2, #[.int .u32 (v2 0), .int .u32 (v2 1), .int .u32 (v2 2), .int .u32 (v2 3), .int .u32 (v2 4), .int .u32 (v2 5), .int .u32 (v2 6), .int .u32 (v2 7), .slice al2 n2 cap2], 31), (g1, #[.int .u32 (v1 0), .int .u32 (v1 1), .int .u32 (v1 2), .int .u32 (v1 3), .int .u32 (v1 4), .int .u32 (v1 5), .int .u32 (v1 6), .int .u32 (v1 7), .slice al1 n1 cap1], 31)] [(al3, n3, cap3, S3), (al2, n2, cap2, S2), (al1, n1, cap1, S1)]) (by kernel_rfl) HL3.out.drew (fun _ => ?_)
                        have HS := Lib.hid HL3.out.drew
                        refine wpAnyH_take (i := 0) (oi := ⟨some 88, _, _, _, _, _⟩) (v := ?_) rfl (by kernel_rfl) (by kernel_rfl) (by kernel_rfl) (fun _ _ _ h => h) (Or.inl ⟨by rfl, ?_⟩) HS.out ?_
                        rotate_left
                        · intro w' hSw; obtain ⟨p2_0, p2_1, p2_2, p2_3, p2_4, p2_5, p2_6, p2_7, p2_8⟩ := cut_cells (hSw.blk 1 rfl); obtain ⟨p1_0, p1_1, p1_2, p1_3, p1_4, p1_5, p1_6, p1_7, p1_8⟩ := cut_cells (hSw.blk 2 rfl); go_simp; try (with_reducible rfl)
                        try simp only [Act.put, List.setIfInBounds_toArray, List.set_cons_zero, List.set_cons_succ]
                        refine wpAnyH_take (i := 1) (oi := ⟨some 89, _, _, _, _, _⟩) (v := ?_) rfl (by kernel_rfl) (by kernel_rfl) (by kernel_rfl) (fun _ _ _ h => h) (Or.inl ⟨by rfl, ?_⟩) HS.out ?_
                        rotate_left
                        · intro w' hSw; obtain ⟨p2_0, p2_1, p2_2, p2_3, p2_4, p2_5, p2_6, p2_7, p2_8⟩ := cut_cells (hSw.blk 1 rfl); obtain ⟨p1_0, p1_1, p1_2, p1_3, p1_4, p1_5, p1_6, p1_7, p1_8⟩ := cut_cells (hSw.blk 2 rfl); go_simp; try (with_reducible rfl)
                        try simp only [Act.put, List.setIfInBounds_toArray, List.set_cons_zero, List.set_cons_succ]
                        refine wpAnyH_take (i := 8) (oi := ⟨some 96, _, _, _, _, _⟩) (v := ?_) rfl (by kernel_rfl) (by kernel_rfl) (by kernel_rfl) (fun _ _ _ h => h) (Or.inl ⟨by rfl, ?_⟩) HS.out ?_
                        rotate_left
                        · intro w' hSw; obtain ⟨p2_0, p2_1, p2_2, p2_3, p2_4, p2_5, p2_6, p2_7, p2_8⟩ := cut_cells (hSw.blk 1 rfl); obtain ⟨p1_0, p1_1, p1_2, p1_3, p1_4, p1_5, p1_6, p1_7, p1_8⟩ := cut_cells (hSw.blk 2 rfl); go_simp; try (with_reducible rfl)
                        try simp only [Act.put, List.setIfInBounds_toArray, List.set_cons_zero, List.set_cons_succ]
                        refine wpAnyH_take (i := 9) (oi := ⟨some 97, _, _, _, _, _⟩) (v := ?_) rfl (by kernel_rfl) (by kernel_rfl) (by kernel_rfl) (fun _ _ _ h => h) (Or.inl ⟨by rfl, ?_⟩) HS.out ?_
                        rotate_left
                        · intro w' hSw; obtain ⟨p2_0, p2_1, p2_2, p2_3, p2_4, p2_5, p2_6, p2_7, p2_8⟩ := cut_cells (hSw.blk 1 rfl); obtain ⟨p1_0, p1_1, p1_2, p1_3, p1_4, p1_5, p1_6, p1_7, p1_8⟩ := cut_cells (hSw.blk 2 rfl); go_simp; try (with_reducible rfl)
                        try simp only [Act.put, List.setIfInBounds_toArray, List.set_cons_zero, List.set_cons_succ]
                        refine wpAnyH_ready (rs := [2]) (by kernel_rfl) (by simp) ?_
                        refine AllReadyH.cons (o := ⟨some 90, _, _, _, _, _⟩) rfl (fun K hK => ?_) AllReadyH.nil
                        go_simp
                        go_at_call 23
                        have hle := cLE_any v1 v2 al1 al2 n1 cap1 n2 cap2 S1 S2 _ (HS.out.ids 2 rfl) (HS.out.ids 1 rfl) hF1 hF2 J1.out J2.out
                        rw [X12.out] at hle
                        refine hle.mono ?_
                        clear hle
                        rintro e z1 ⟨rfl, b1⟩
                        have HS := Lib.hid (HS.out.next b1)
                        clear b1
                        go_wp2_with fail
                        refine hK.out _ _ HS.out (fun _ => ?_)
                        clear hK K
                        try simp only [Act.put, List.setIfInBounds_toArray, List.set_cons_zero, List.set_cons_succ]
                        refine wpAnyH_take (i := 3) (oi := ⟨some 91, _, _, _, _, _⟩) (v := ?_) rfl (by kernel_rfl) (by kernel_rfl) (by kernel_rfl) (fun _ _ _ h => h) (Or.inl ⟨by rfl, ?_⟩) HS.out ?_
                        rotate_left
                        · intro w' hSw; clear hSw; go_simp; try (with_reducible rfl)
                        try simp only [Act.put, List.setIfInBounds_toArray, List.set_cons_zero, List.set_cons_succ]
                        refine wpAnyH_take (i := 4) (oi := ⟨some 92, _, _, _, _, _⟩) (v := ?_) rfl (by kernel_rfl) (by kernel_rfl) (by kernel_rfl) (fun _ _ _ h => h) (Or.inl ⟨by rfl, ?_⟩) HS.out ?_
                        rotate_left
                        · intro w' hSw; obtain ⟨p2_0, p2_1, p2_2, p2_3, p2_4, p2_5, p2_6, p2_7, p2_8⟩ := cut_cells (hSw.blk 1 rfl); obtain ⟨p1_0, p1_1, p1_2, p1_3, p1_4, p1_5, p1_6, p1_7, p1_8⟩ := cut_cells (hSw.blk 2 rfl); go_simp; try (with_reducible rfl)
                        try simp only [Act.put, List.setIfInBounds_toArray, List.set_cons_zero, List.set_cons_succ]
                        refine wpAnyH_take (i := 5) (oi := ⟨some 93, _, _, _, _, _⟩) (v := ?_) rfl (by kernel_rfl) (by kernel_rfl) (by kernel_rfl) (fun _ _ _ h => h) (Or.inl ⟨by rfl, ?_⟩) HS.out ?_
                        rotate_left
                        · intro w' hSw; obtain ⟨p2_0, p2_1, p2_2, p2_3, p2_4, p2_5, p2_6, p2_7, p2_8⟩ := cut_cells (hSw.blk 1 rfl); obtain ⟨p1_0, p1_1, p1_2, p1_3, p1_4, p1_5, p1_6, p1_7, p1_8⟩ := cut_cells (hSw.blk 2 rfl); go_simp; try (with_reducible rfl)
                        try simp only [Act.put, List.setIfInBounds_toArray, List.set_cons_zero, List.set_cons_succ]
                        refine wpAnyH_ready (rs := [6]) (by kernel_rfl) (by simp) ?_
                        refine AllReadyH.cons (o := ⟨some 94, _, _, _, _, _⟩) rfl (fun K hK => ?_) AllReadyH.nil
                        go_simp
                        go_at_call 23
                        have hle := cLE_any v2 v1 al2 al1 n2 cap2 n1 cap1 S2 S1 _ (HS.out.ids 1 rfl) (HS.out.ids 2 rfl) hF2 hF1 J2.out J1.out
                        rw [X21.out] at hle
                        refine hle.mono ?_
                        clear hle
                        rintro e z2 ⟨rfl, b2⟩
                        have HS := Lib.hid (HS.out.next b2)
                        clear b2
                        go_wp2_with fail
                        refine hK.out _ _ HS.out (fun _ => ?_)
                        clear hK K
                        try simp only [Act.put, List.setIfInBounds_toArray, List.set_cons_zero, List.set_cons_succ]
                        refine wpAnyH_take (i := 7) (oi := ⟨some 95, _, _, _, _, _⟩) (v := ?_) rfl (by kernel_rfl) (by kernel_rfl) (by kernel_rfl) (fun _ _ _ h => h) (Or.inl ⟨by rfl, ?_⟩) HS.out ?_
                        rotate_left
                        · intro w' hSw; clear hSw; go_simp; try (with_reducible rfl)
                        try simp only [Act.put, List.setIfInBounds_toArray, List.set_cons_zero, List.set_cons_succ]
                        refine wpAnyH_ready (rs := [10]) (by kernel_rfl) (by simp) ?_
                        refine AllReadyH.cons (o := ⟨some 98, _, _, _, _, _⟩) rfl (fun K hK => ?_) AllReadyH.nil
                        go_simp
                        go_at_call 25
                        have hle := cSame_cut v1 v2 al1 al2 n1 cap1 n2 cap2 S1 S2 _ (HS.out.ids 2 rfl) (HS.out.ids 1 rfl)
                        rw [← F3.out] at hle
                        refine hle.mono ?_
                        clear hle
                        rintro e z3 ⟨rfl, b3⟩
                        have HS := Lib.hid (HS.out.next b3)
                        clear b3
                        go_wp2_with fail
                        refine hK.out _ _ HS.out (fun _ => ?_)
                        clear hK K
                        try simp only [Act.put, List.setIfInBounds_toArray, List.set_cons_zero, List.set_cons_succ]
                        refine wpAnyH_take (i := 11) (oi := ⟨some 99, _, _, _, _, _⟩) (v := ?_) rfl (by kernel_rfl) (by kernel_rfl) (by kernel_rfl) (fun _ _ _ h => h) (Or.inl ⟨by rfl, ?_⟩) HS.out ?_
                        rotate_left
                        · intro w' hSw; clear hSw; go_simp; try (with_reducible rfl)
                        try simp only [Act.put, List.setIfInBounds_toArray, List.set_cons_zero, List.set_cons_succ]
                        refine wpAnyH_take (i := 12) (oi := ⟨some 6, _, _, _, _, _⟩) (v := ?_) rfl (by kernel_rfl) (by kernel_rfl) (by kernel_rfl) (fun _ _ _ h => h) (Or.inl ⟨by rfl, ?_⟩) HS.out ?_
                        rotate_left
                        · intro w' hSw; clear hSw; go_simp; try (with_reducible rfl)
                        try simp only [Act.put, List.setIfInBounds_toArray, List.set_cons_zero, List.set_cons_succ]
                        refine wpAnyH_done (by kernel_rfl) ?_ _
                        go_wp2_with fail
                        go_ret
                        exact ⟨by first | rfl | (cases x21 <;> rfl), HS.out.bel⟩
                      | true =>
                        have hx := F2.out rfl rfl
                        subst hx
                        obtain ⟨p3_0, p3_1, p3_2, p3_3, p3_4, p3_5, p3_6, p3_7, p3_8⟩ := cut_cells (HL3.out.blk 0 rfl)
                        obtain ⟨p1_0, p1_1, p1_2, p1_3, p1_4, p1_5, p1_6, p1_7, p1_8⟩ := cut_cells (HL3.out.blk 2 rfl)
                        go_wp2_with fail
                        have hle := cLE_any v1 v3 al1 al3 n1 cap1 n3 cap3 S1 S3 _ (HL3.out.ids 2 rfl) (HL3.out.ids 0 rfl) hF1 hF3 J1.out J3.out
                        rw [X13.out] at hle
                        refine hle.mono ?_
                        clear hle
                        rintro e y4 ⟨rfl, b4⟩
                        have HL4 := Lib.hid (HL3.out.next b4)
                        clear b4
                        clear p3_0 p3_1 p3_2 p3_3 p3_4 p3_5 p3_6 p3_7 p3_8 p1_0 p1_1 p1_2 p1_3 p1_4 p1_5 p1_6 p1_7 p1_8
                        go_wp2_with fail
                        refine wp_region_held_drew (S := KS w [(g3, #[.int .u32 (v3 0), .int .u32 (v3 1), .int .u32 (v3 2), .int .u32 (v3 3), .int .u32 (v3 4), .int .u32 (v3 5), .int .u32 (v3 6), .int .u32 (v3 7), .slice al3 n3 cap3], 31), (g2, #[.int .u32 (v2 0), .int .u32 (v2 1), .int .u32 (v2 2), .int .u32 (v2 3), .int .u32 (v2 4), .int .u32 (v2 5), .int .u32 (v2 6), .int .u32 (v2 7), .slice al2 n2 cap2], 31), (g1, #[.int .u32 (v1 0), .int .u32 (v1 1), .int .u32 (v1 2), .int .u32 (v1 3), .int .u32 (v1 4), .int .u32 (v1 5), .int .u32 (v1 6), .int .u32 (v1 7), .slice al1 n1 cap1], 31)] [(al3, n3, cap3, S3), (al2, n2, cap2, S2), (al1, n1, cap1, S1)]) (by kernel_rfl) HL4.out.drew (fun _ => ?_)
                        have HS := Lib.hid HL4.out.drew
                        refine wpAnyH_take (i := 0) (oi := ⟨some 88, _, _, _, _, _⟩) (v := ?_) rfl (by kernel_rfl) (by kernel_rfl) (by kernel_rfl) (fun _ _ _ h => h) (Or.inl ⟨by rfl, ?_⟩) HS.out ?_
                        rotate_left
                        · intro w' hSw; obtain ⟨p2_0, p2_1, p2_2, p2_3, p2_4, p2_5, p2_6, p2_7, p2_8⟩ := cut_cells (hSw.blk 1 rfl); obtain ⟨p1_0, p1_1, p1_2, p1_3, p1_4, p1_5, p1_6, p1_7, p1_8⟩ := cut_cells (hSw.blk 2 rfl); go_simp; try (with_reducible rfl)
                        try simp only [Act.put, List.setIfInBounds_toArray, List.set_cons_zero, List.set_cons_succ]
                        refine wpAnyH_take (i := 1) (oi := ⟨some 89, _, _, _, _, _⟩) (v := ?_) rfl (by kernel_rfl) (by kernel_rfl) (by kernel_rfl) (fun _ _ _ h => h) (Or.inl ⟨by rfl, ?_⟩) HS.out ?_
                        rotate_left
                        · intro w' hSw; obtain ⟨p2_0, p2_1, p2_2, p2_3, p2_4, p2_5, p2_6, p2_7, p2_8⟩ := cut_cells (hSw.blk 1 rfl); obtain ⟨p1_0, p1_1, p1_2, p1_3, p1_4, p1_5, p1_6, p1_7, p1_8⟩ := cut_cells (hSw.blk 2 rfl); go_simp; try (with_reducible rfl)
                        try simp only [Act.put, List.setIfInBounds_toArray, List.set_cons_zero, List.set_cons_succ]
                        refine wpAnyH_take (i := 8) (oi := ⟨some 96, _, _, _, _, _⟩) (v := ?_) rfl (by kernel_rfl) (by kernel_rfl) (by kernel_rfl) (fun _ _ _ h => h) (Or.inl ⟨by rfl, ?_⟩) HS.out ?_
                        rotate_left
                        · intro w' hSw; obtain ⟨p2_0, p2_1, p2_2, p2_3, p2_4, p2_5, p2_6, p2_7, p2_8⟩ := cut_cells (hSw.blk 1 rfl); obtain ⟨p1_0, p1_1, p1_2, p1_3, p1_4, p1_5, p1_6, p1_7, p1_8⟩ := cut_cells (hSw.blk 2 rfl); go_simp; try (with_reducible rfl)
                        try simp only [Act.put, List.setIfInBounds_toArray, List.set_cons_zero, List.set_cons_succ]
                        refine wpAnyH_take (i := 9) (oi := ⟨some 97, _, _, _, _, _⟩) (v := ?_) rfl (by kernel_rfl) (by kernel_rfl) (by kernel_rfl) (fun _ _ _ h => h) (Or.inl ⟨by rfl, ?_⟩) HS.out ?_
                        rotate_left
                        · intro w' hSw; obtain ⟨p2_0, p2_1, p2_2, p2_3, p2_4, p2_5, p2_6, p2_7, p2_8⟩ := cut_cells (hSw.blk 1 rfl); obtain ⟨p1_0, p1_1, p1_2, p1_3, p1_4, p1_5, p1_6, p1_7, p1_8⟩ := cut_cells (hSw.blk 2 rfl); go_simp; try (with_reducible rfl)
                        try simp only [Act.put, List.setIfInBounds_toArray, List.set_cons_zero, List.set_cons_succ]
                        refine wpAnyH_ready (rs := [2]) (by kernel_rfl) (by simp) ?_
                        refine AllReadyH.cons (o := ⟨some 90, _, _, _, _, _⟩) rfl (fun K hK => ?_) AllReadyH.nil
                        go_simp
                        go_at_call 23
                        have hle := cLE_any v1 v2 al1 al2 n1 cap1 n2 cap2 S1 S2 _ (HS.out.ids 2 rfl) (HS.out.ids 1 rfl) hF1 hF2 J1.out J2.out
                        rw [X12.out] at hle
                        refine hle.mono ?_
                        clear hle
                        rintro e z1 ⟨rfl, b1⟩
                        have HS := Lib.hid (HS.out.next b1)
                        clear b1
                        go_wp2_with fail
                        refine hK.out _ _ HS.out (fun _ => ?_)
                        clear hK K
                        try simp only [Act.put, List.setIfInBounds_toArray, List.set_cons_zero, List.set_cons_succ]
                        refine wpAnyH_take (i := 3) (oi := ⟨some 91, _, _, _, _, _⟩) (v := ?_) rfl (by kernel_rfl) (by kernel_rfl) (by kernel_rfl) (fun _ _ _ h => h) (Or.inl ⟨by rfl, ?_⟩) HS.out ?_
                        rotate_left
                        · intro w' hSw; clear hSw; go_simp; try (with_reducible rfl)
                        try simp only [Act.put, List.setIfInBounds_toArray, List.set_cons_zero, List.set_cons_succ]
                        refine wpAnyH_take (i := 4) (oi := ⟨some 92, _, _, _, _, _⟩) (v := ?_) rfl (by kernel_rfl) (by kernel_rfl) (by kernel_rfl) (fun _ _ _ h => h) (Or.inl ⟨by rfl, ?_⟩) HS.out ?_
                        rotate_left
                        · intro w' hSw; obtain ⟨p2_0, p2_1, p2_2, p2_3, p2_4, p2_5, p2_6, p2_7, p2_8⟩ := cut_cells (hSw.blk 1 rfl); obtain ⟨p1_0, p1_1, p1_2, p1_3, p1_4, p1_5, p1_6, p1_7, p1_8⟩ := cut_cells (hSw.blk 2 rfl); go_simp; try (with_reducible rfl)
                        try simp only [Act.put, List.setIfInBounds_toArray, List.set_cons_zero, List.set_cons_succ]
                        refine wpAnyH_take (i := 5) (oi := ⟨some 93, _, _, _, _, _⟩) (v := ?_) rfl (by kernel_rfl) (by kernel_rfl) (by kernel_rfl) (fun _ _ _ h => h) (Or.inl ⟨by rfl, ?_⟩) HS.out ?_
                        rotate_left
                        · intro w' hSw; obtain ⟨p2_0, p2_1, p2_2, p2_3, p2_4, p2_5, p2_6, p2_7, p2_8⟩ := cut_cells (hSw.blk 1 rfl); obtain ⟨p1_0, p1_1, p1_2, p1_3, p1_4, p1_5, p1_6, p1_7, p1_8⟩ := cut_cells (hSw.blk 2 rfl); go_simp; try (with_reducible rfl)
                        try simp only [Act.put, List.setIfInBounds_toArray, List.set_cons_zero, List.set_cons_succ]
                        refine wpAnyH_ready (rs := [6]) (by kernel_rfl) (by simp) ?_
                        refine AllReadyH.cons (o := ⟨some 94, _, _, _, _, _⟩) rfl (fun K hK => ?_) AllReadyH.nil
                        go_simp
                        go_at_call 23
                        have hle := cLE_any v2 v1 al2 al1 n2 cap2 n1 cap1 S2 S1 _ (HS.out.ids 1 rfl) (HS.out.ids 2 rfl) hF2 hF1 J2.out J1.out
                        rw [X21.out] at hle
                        refine hle.mono ?_
                        clear hle
                        rintro e z2 ⟨rfl, b2⟩
                        have HS := Lib.hid (HS.out.next b2)
                        clear b2
                        go_wp2_with fail
                        refine hK.out _ _ HS.out (fun _ => ?_)
                        clear hK K
                        try simp only [Act.put, List.setIfInBounds_toArray, List.set_cons_zero, List.set_cons_succ]
                        refine wpAnyH_take (i := 7) (oi := ⟨some 95, _, _, _, _, _⟩) (v := ?_) rfl (by kernel_rfl) (by kernel_rfl) (by kernel_rfl) (fun _ _ _ h => h) (Or.inl ⟨by rfl, ?_⟩) HS.out ?_
                        rotate_left
                        · intro w' hSw; clear hSw; go_simp; try (with_reducible rfl)
                        try simp only [Act.put, List.setIfInBounds_toArray, List.set_cons_zero, List.set_cons_succ]
                        refine wpAnyH_ready (rs := [10]) (by kernel_rfl) (by simp) ?_
                        refine AllReadyH.cons (o := ⟨some 98, _, _, _, _, _⟩) rfl (fun K hK => ?_) AllReadyH.nil
                        go_simp
                        go_at_call 25
                        have hle := cSame_cut v1 v2 al1 al2 n1 cap1 n2 cap2 S1 S2 _ (HS.out.ids 2 rfl) (HS.out.ids 1 rfl)
                        rw [← F3.out] at hle
                        refine hle.mono ?_
                        clear hle
                        rintro e z3 ⟨rfl, b3⟩
                        have HS := Lib.hid (HS.out.next b3)
                        clear b3
                        go_wp2_with fail
                        refine hK.out _ _ HS.out (fun _ => ?_)
                        clear hK K
                        try simp only [Act.put, List.setIfInBounds_toArray, List.set_cons_zero, List.set_cons_succ]
                        refine wpAnyH_take (i := 11) (oi := ⟨some 99, _, _, _, _, _⟩) (v := ?_) rfl (by kernel_rfl) (by kernel_rfl) (by kernel_rfl) (fun _ _ _ h => h) (Or.inl ⟨by rfl, ?_⟩) HS.out ?_
                        rotate_left
                        · intro w' hSw; clear hSw; go_simp; try (with_reducible rfl)
                        try simp only [Act.put, List.setIfInBounds_toArray, List.set_cons_zero, List.set_cons_succ]
                        refine wpAnyH_take (i := 12) (oi := ⟨some 6, _, _, _, _, _⟩) (v := ?_) rfl (by kernel_rfl) (by kernel_rfl) (by kernel_rfl) (fun _ _ _ h => h) (Or.inl ⟨by rfl, ?_⟩) HS.out ?_
                        rotate_left
                        · intro w' hSw; clear hSw; go_simp; try (with_reducible rfl)
                        try simp only [Act.put, List.setIfInBounds_toArray, List.set_cons_zero, List.set_cons_succ]
                        refine wpAnyH_done (by kernel_rfl) ?_ _
                        go_wp2_with fail
                        go_ret
                        exact ⟨by first | rfl | (cases x21 <;> rfl), HS.out.bel⟩
end Go.Proofs.Ythbdjgebpjffgaa
