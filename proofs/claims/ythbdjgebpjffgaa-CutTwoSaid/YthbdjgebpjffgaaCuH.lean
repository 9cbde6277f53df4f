/-
  Package cut's Join.
  Conditions: none.
-/
import Derived.Test.YthbdjgebpjffgaaCuG
set_option linter.unusedVariables false
set_option linter.unusedSimpArgs false
namespace Go.Proofs.Ythbdjgebpjffgaa
open Go.RowKit Go.Shelf Go.Lib Go.Sort


set_option maxRecDepth 100000 in
set_option maxHeartbeats 4000000 in
theorem cJoin_any (a b : Nat → Int) (al al' : Option Addr) (len cap len' cap' : Nat) (A B : List (Int × Int)) (w : World) (hA : Ids w al len cap A) (hB : Ids w al' len' cap' B) (hF : Flat al) (hF' : Flat al') (ha : InB a) (hb : InB b) :
    Calls Try.prog 21 #[.agg #[.int .u32 (a 0), .int .u32 (a 1), .int .u32 (a 2), .int .u32 (a 3), .int .u32 (a 4), .int .u32 (a 5), .int .u32 (a 6), .int .u32 (a 7), .slice al len cap], .agg #[.int .u32 (b 0), .int .u32 (b 1), .int .u32 (b 2), .int .u32 (b 3), .int .u32 (b 4), .int .u32 (b 5), .int .u32 (b 6), .int .u32 (b 7), .slice al' len' cap']] w fun e w' => ∃ al2 cap2, e = .returned (.tuple #[.agg #[.int .u32 (joV a A b B 0), .int .u32 (joV a A b B 1), .int .u32 (joV a A b B 2), .int .u32 (joV a A b B 3), .int .u32 (joV a A b B 4), .int .u32 (joV a A b B 5), .int .u32 (joV a A b B 6), .int .u32 (joV a A b B 7), .slice al2 (joS a A b B).length cap2], .int .i64 (joC a A b B)]) ∧ Ids w' al2 (joS a A b B).length cap2 (joS a A b B) ∧ Flat al2 ∧ Below w.heap.size w w' := by
  have h0 := (((((KS.nil w).add hA).add hB).box rfl #[.int .u32 (a 0), .int .u32 (a 1), .int .u32 (a 2), .int .u32 (a 3), .int .u32 (a 4), .int .u32 (a 5), .int .u32 (a 6), .int .u32 (a 7), .slice al len cap] 31).box (g := w.heap.size + 1) (by simp) #[.int .u32 (b 0), .int .u32 (b 1), .int .u32 (b 2), .int .u32 (b 3), .int .u32 (b 4), .int .u32 (b 5), .int .u32 (b 6), .int .u32 (b 7), .slice al' len' cap'] 31).box (g := w.heap.size + 1 + 1) (by simp) #[.int .u32 0, .int .u32 0, .int .u32 0, .int .u32 0, .int .u32 0, .int .u32 0, .int .u32 0, .int .u32 0, .slice none 0 0] 31
  have HZ0 := Lib.hid (h0.blk 0 rfl)
  have H0 := Lib.hid (h0.drop (Bs' := [(w.heap.size + 1, #[.int .u32 (b 0), .int .u32 (b 1), .int .u32 (b 2), .int .u32 (b 3), .int .u32 (b 4), .int .u32 (b 5), .int .u32 (b 6), .int .u32 (b 7), .slice al' len' cap'], 31), (w.heap.size, #[.int .u32 (a 0), .int .u32 (a 1), .int .u32 (a 2), .int .u32 (a 3), .int .u32 (a 4), .int .u32 (a 5), .int .u32 (a 6), .int .u32 (a 7), .slice al len cap], 31)]) (fun x hx => List.mem_cons_of_mem _ hx) (fun r hr => hr))
  have HIN := Lib.hid ha
  have HIN' := Lib.hid hb
  have HLN := Lib.hid hA.ln
  have HLN' := Lib.hid hB.ln
  have hcap := hA.bd
  have hfit := hA.fit
  have hcap' := hB.bd
  have hfit' := hB.fit
  clear h0 hA hB ha hb
  obtain ⟨c1, hc1⟩ : ∃ c, ckC a A = c := ⟨_, rfl⟩
  obtain ⟨c2, hc2⟩ : ∃ c, ckC b B = c := ⟨_, rfl⟩
  obtain ⟨z, hz⟩ : ∃ z, orZ c1 c2 = z := ⟨_, rfl⟩
  have HC1 := Lib.hid hc1
  have HC2 := Lib.hid hc2
  have HOZ := Lib.hid hz
  have HO : Hid (orZ (ckC a A) (ckC b B) = z) := Lib.hid (by rw [hc1, hc2, hz])
  have HIS : Hid (c1 = 0 → A.length ≤ 64) := Lib.hid (fun e => (chkS_zero ((ckC_iff HIN.out).1 (hc1.trans e)).s0).1)
  have HIS' : Hid (c2 = 0 → B.length ≤ 64) := Lib.hid (fun e => (chkS_zero ((ckC_iff HIN'.out).1 (hc2.trans e)).s0).1)
  clear hc1 hc2 hz
  go_enter Try.func21, Try.ntmps21
  go_wp2_with fail
  refine wp_region_held_drew (S := KS w [(w.heap.size + 1, #[.int .u32 (b 0), .int .u32 (b 1), .int .u32 (b 2), .int .u32 (b 3), .int .u32 (b 4), .int .u32 (b 5), .int .u32 (b 6), .int .u32 (b 7), .slice al' len' cap'], 31), (w.heap.size, #[.int .u32 (a 0), .int .u32 (a 1), .int .u32 (a 2), .int .u32 (a 3), .int .u32 (a 4), .int .u32 (a 5), .int .u32 (a 6), .int .u32 (a 7), .slice al len cap], 31)] [(al', len', cap', B), (al, len, cap, A)]) (by kernel_rfl) H0.out.drew (fun _ => ?_)
  have HS := Lib.hid H0.out.drew
  have HZ := Lib.hid (Blk.drew1 HZ0.out)
  clear HZ0
  refine wpAnyH_take (i := 0) (oi := ⟨some 7, _, _, _, _, _⟩) (v := ?_) rfl (by kernel_rfl) (by kernel_rfl) (by kernel_rfl) (fun _ _ _ h => h) (Or.inl ⟨by rfl, ?_⟩) HS.out ?_
  rotate_left
  · intro w' hSw; obtain ⟨x0, x1, x2, x3, x4, x5, x6, x7, x8⟩ := cut_cells (hSw.blk 1 rfl); obtain ⟨y0, y1, y2, y3, y4, y5, y6, y7, y8⟩ := cut_cells (hSw.blk 0 rfl); go_simp; try (with_reducible rfl)
  try simp only [Act.put, List.setIfInBounds_toArray, List.set_cons_zero, List.set_cons_succ]
  refine wpAnyH_take (i := 2) (oi := ⟨some 9, _, _, _, _, _⟩) (v := ?_) rfl (by kernel_rfl) (by kernel_rfl) (by kernel_rfl) (fun _ _ _ h => h) (Or.inl ⟨by rfl, ?_⟩) HS.out ?_
  rotate_left
  · intro w' hSw; obtain ⟨x0, x1, x2, x3, x4, x5, x6, x7, x8⟩ := cut_cells (hSw.blk 1 rfl); obtain ⟨y0, y1, y2, y3, y4, y5, y6, y7, y8⟩ := cut_cells (hSw.blk 0 rfl); go_simp; try (with_reducible rfl)
  try simp only [Act.put, List.setIfInBounds_toArray, List.set_cons_zero, List.set_cons_succ]
  refine wpAnyH_ready (rs := [1]) (by kernel_rfl) (by simp) ?_
  refine AllReadyH.cons (o := ⟨some 8, _, _, _, _, _⟩) rfl (fun K hK => ?_) AllReadyH.nil
  go_simp
  go_at_call 16
  refine (cCheck_any a al len cap A _ (HS.out.ids 1 rfl) hF HIN.out).mono ?_
  rw [HC1.out]
  rintro e w1 ⟨rfl, b1⟩
  have HZ := Lib.hid (HZ.out.below b1)
  have HS := Lib.hid (HS.out.next b1)
  clear b1
  go_wp2_with fail
  refine hK.out _ _ HS.out (fun _ => ?_)
  clear hK K
  try simp only [Act.put, List.setIfInBounds_toArray, List.set_cons_zero, List.set_cons_succ]
  refine wpAnyH_ready (rs := [3]) (by kernel_rfl) (by simp) ?_
  refine AllReadyH.cons (o := ⟨some 10, _, _, _, _, _⟩) rfl (fun K hK => ?_) AllReadyH.nil
  go_simp
  go_at_call 16
  refine (cCheck_any b al' len' cap' B _ (HS.out.ids 0 rfl) hF' HIN'.out).mono ?_
  rw [HC2.out]
  rintro e w2 ⟨rfl, b2⟩
  have HZ := Lib.hid (HZ.out.below b2)
  have HS := Lib.hid (HS.out.next b2)
  clear b2
  go_wp2_with fail
  refine hK.out _ _ HS.out (fun _ => ?_)
  clear hK K
  try simp only [Act.put, List.setIfInBounds_toArray, List.set_cons_zero, List.set_cons_succ]
  refine wpAnyH_ready (rs := [4]) (by kernel_rfl) (by simp) ?_
  refine AllReadyH.cons (o := ⟨some 11, _, _, _, _, _⟩) rfl (fun K hK => ?_) AllReadyH.nil
  go_simp
  refine hK.out _ _ (HS.out.alloc _) (fun _ => ?_)
  clear hK K
  try simp only [Act.put, List.setIfInBounds_toArray, List.set_cons_zero, List.set_cons_succ]
  have HE := Lib.hid (Blk.new w2 #[.int .i64 c1, .int .i64 c2] 32)
  have HZ := Lib.hid (HZ.out.alloc (.cells #[.int .i64 c1, .int .i64 c2] 32))
  have HS := Lib.hid (HS.out.alloc (.cells #[.int .i64 c1, .int .i64 c2] 32))
  refine wpAnyH_ready (rs := [5]) (by kernel_rfl) (by simp) ?_
  refine AllReadyH.cons (o := ⟨some 12, _, _, _, _, _⟩) rfl (fun K hK => ?_) AllReadyH.nil
  go_simp
  go_at_call 38
  refine (orE_any w2.heap.size c1 c2 _ HE.out).mono ?_
  rw [HOZ.out]
  rintro e w6 ⟨rfl, rfl⟩
  go_wp2_with fail
  refine hK.out _ _ HS.out (fun _ => ?_)
  clear hK K
  try simp only [Act.put, List.setIfInBounds_toArray, List.set_cons_zero, List.set_cons_succ]
  refine wpAnyH_take (i := 6) (oi := ⟨some 6, _, _, _, _, _⟩) (v := ?_) rfl (by kernel_rfl) (by kernel_rfl) (by kernel_rfl) (fun _ _ _ h => h) (Or.inl ⟨by rfl, ?_⟩) HS.out ?_
  rotate_left
  · intro w' hSw; clear hSw; go_simp; try (with_reducible rfl)
  try simp only [Act.put, List.setIfInBounds_toArray, List.set_cons_zero, List.set_cons_succ]
  refine wpAnyH_done (by kernel_rfl) ?_ _
  by_cases hz0 : z = 0
  · subst hz0
    have HP := Lib.hid (jo_ok HO.out)
    obtain ⟨u, hu⟩ : ∃ u, cmV (joinV a b) (A ++ B) = u := ⟨_, rfl⟩
    obtain ⟨R, hr⟩ : ∃ R, cmS (joinV a b) (A ++ B) = R := ⟨_, rfl⟩
    obtain ⟨c, hc⟩ : ∃ c, cmC (joinV a b) (A ++ B) = c := ⟨_, rfl⟩
    obtain ⟨nr, hnr⟩ : ∃ n, R.length = n := ⟨_, rfl⟩
    rw [hu, hr, hc] at HP
    have HU := Lib.hid hu
    have HR := Lib.hid hr
    have HCC := Lib.hid hc
    have HNR := Lib.hid hnr
    clear hu hr hc hnr
    have hl64 : len ≤ 64 := by have := HIS.out (orZ_zero HOZ.out).1; have := HLN.out; omega
    have hl64' : len' ≤ 64 := by have := HIS'.out (orZ_zero HOZ.out).2; have := HLN'.out; omega
    generalize hww : w2.alloc (.cells #[.int .i64 c1, .int .i64 c2] 32) = wq at HS HZ ⊢
    clear hww
    go_wp2_with fail
    refine wp_region_held_drew (S := KS w [(w.heap.size + 1, #[.int .u32 (b 0), .int .u32 (b 1), .int .u32 (b 2), .int .u32 (b 3), .int .u32 (b 4), .int .u32 (b 5), .int .u32 (b 6), .int .u32 (b 7), .slice al' len' cap'], 31), (w.heap.size, #[.int .u32 (a 0), .int .u32 (a 1), .int .u32 (a 2), .int .u32 (a 3), .int .u32 (a 4), .int .u32 (a 5), .int .u32 (a 6), .int .u32 (a 7), .slice al len cap], 31)] [(al', len', cap', B), (al, len, cap, A)]) (by kernel_rfl) HS.out.drew (fun _ => ?_)
    have HS := Lib.hid HS.out.drew
    have HZ := Lib.hid (Blk.drew1 HZ.out)
    generalize wq.drew = wr at HS HZ ⊢
    refine wpAnyH_take (i := 0) (oi := ⟨some 17, _, _, _, _, _⟩) (v := ?_) rfl (by kernel_rfl) (by kernel_rfl) (by kernel_rfl) (fun _ _ _ h => h) (Or.inl ⟨by rfl, ?_⟩) HS.out ?_
    rotate_left
    · intro w' hSw; clear hSw; go_simp; try (with_reducible rfl)
    try simp only [Act.put, List.setIfInBounds_toArray, List.set_cons_zero, List.set_cons_succ]
    refine wpAnyH_take (i := 1) (oi := ⟨some 18, _, _, _, _, _⟩) (v := ?_) rfl (by kernel_rfl) (by kernel_rfl) (by kernel_rfl) (fun _ _ _ h => h) (Or.inl ⟨by rfl, ?_⟩) HS.out ?_
    rotate_left
    · intro w' hSw; obtain ⟨x0, x1, x2, x3, x4, x5, x6, x7, x8⟩ := cut_cells (hSw.blk 1 rfl); obtain ⟨y0, y1, y2, y3, y4, y5, y6, y7, y8⟩ := cut_cells (hSw.blk 0 rfl); go_simp; try (with_reducible rfl)
    try simp only [Act.put, List.setIfInBounds_toArray, List.set_cons_zero, List.set_cons_succ]
    refine wpAnyH_take (i := 2) (oi := ⟨some 19, _, _, _, _, _⟩) (v := ?_) rfl (by kernel_rfl) (by kernel_rfl) (by kernel_rfl) (fun _ _ _ h => h) (Or.inl ⟨by rfl, ?_⟩) HS.out ?_
    rotate_left
    · intro w' hSw; clear hSw; go_simp; try (with_reducible rfl)
    try simp only [Act.put, List.setIfInBounds_toArray, List.set_cons_zero, List.set_cons_succ]
    refine wpAnyH_take (i := 3) (oi := ⟨some 20, _, _, _, _, _⟩) (v := ?_) rfl (by kernel_rfl) (by kernel_rfl) (by kernel_rfl) (fun _ _ _ h => h) (Or.inl ⟨by rfl, ?_⟩) HS.out ?_
    rotate_left
    · intro w' hSw; obtain ⟨x0, x1, x2, x3, x4, x5, x6, x7, x8⟩ := cut_cells (hSw.blk 1 rfl); obtain ⟨y0, y1, y2, y3, y4, y5, y6, y7, y8⟩ := cut_cells (hSw.blk 0 rfl); go_simp; try (with_reducible rfl)
    try simp only [Act.put, List.setIfInBounds_toArray, List.set_cons_zero, List.set_cons_succ]
    refine wpAnyH_take (i := 5) (oi := ⟨some 22, _, _, _, _, _⟩) (v := ?_) rfl (by kernel_rfl) (by kernel_rfl) (by kernel_rfl) (fun _ _ _ h => h) (Or.inl ⟨by rfl, ?_⟩) HS.out ?_
    rotate_left
    · intro w' hSw; clear hSw; go_simp; try (with_reducible rfl)
    try simp only [Act.put, List.setIfInBounds_toArray, List.set_cons_zero, List.set_cons_succ]
    refine wpAnyH_take (i := 6) (oi := ⟨some 23, _, _, _, _, _⟩) (v := ?_) rfl (by kernel_rfl) (by kernel_rfl) (by kernel_rfl) (fun _ _ _ h => h) (Or.inl ⟨by rfl, ?_⟩) HS.out ?_
    rotate_left
    · intro w' hSw; obtain ⟨x0, x1, x2, x3, x4, x5, x6, x7, x8⟩ := cut_cells (hSw.blk 1 rfl); obtain ⟨y0, y1, y2, y3, y4, y5, y6, y7, y8⟩ := cut_cells (hSw.blk 0 rfl); go_simp; try (with_reducible rfl)
    try simp only [Act.put, List.setIfInBounds_toArray, List.set_cons_zero, List.set_cons_succ]
    refine wpAnyH_take (i := 7) (oi := ⟨some 24, _, _, _, _, _⟩) (v := ?_) rfl (by kernel_rfl) (by kernel_rfl) (by kernel_rfl) (fun _ _ _ h => h) (Or.inl ⟨by rfl, ?_⟩) HS.out ?_
    rotate_left
    · intro w' hSw; clear hSw; go_simp; try (with_reducible rfl)
    try simp only [Act.put, List.setIfInBounds_toArray, List.set_cons_zero, List.set_cons_succ]
    refine wpAnyH_take (i := 8) (oi := ⟨some 25, _, _, _, _, _⟩) (v := ?_) rfl (by kernel_rfl) (by kernel_rfl) (by kernel_rfl) (fun _ _ _ h => h) (Or.inl ⟨by rfl, ?_⟩) HS.out ?_
    rotate_left
    · intro w' hSw; obtain ⟨x0, x1, x2, x3, x4, x5, x6, x7, x8⟩ := cut_cells (hSw.blk 1 rfl); obtain ⟨y0, y1, y2, y3, y4, y5, y6, y7, y8⟩ := cut_cells (hSw.blk 0 rfl); go_simp; try (with_reducible rfl)
    try simp only [Act.put, List.setIfInBounds_toArray, List.set_cons_zero, List.set_cons_succ]
    refine wpAnyH_ready (rs := [4, 9]) (by kernel_rfl) (by simp) ?_
    refine AllReadyH.cons (o := ⟨some 21, _, _, _, _, _⟩) rfl (fun K hK => ?_) (AllReadyH.cons (o := ⟨some 26, _, _, _, _, _⟩) rfl (fun K hK => ?_) AllReadyH.nil)
    · go_simp
      go_at_call 49
      refine (join_any a b _).mono ?_
      rintro e wj ⟨rfl, bj⟩
      have HZ := Lib.hid (HZ.out.below bj)
      have HS := Lib.hid (HS.out.next bj)
      clear bj
      go_wp2_with fail
      refine hK.out _ _ HS.out (fun _ => ?_)
      clear hK K
      try simp only [Act.put, List.setIfInBounds_toArray, List.set_cons_zero, List.set_cons_succ]
      refine wpAnyH_ready (rs := [9]) (by kernel_rfl) (by simp) ?_
      refine AllReadyH.cons (o := ⟨some 26, _, _, _, _, _⟩) rfl (fun K hK => ?_) AllReadyH.nil
      go_simp
      refine hK.out _ _ (HS.out.alloc _) (fun _ => ?_)
      clear hK K
      try simp only [Act.put, List.setIfInBounds_toArray, List.set_cons_zero, List.set_cons_succ]
      have HN2 := Lib.hid (Blk.new wj #[.slice al len cap, .slice al' len' cap'] 25)
      have HZ := Lib.hid (HZ.out.alloc (.cells #[.slice al len cap, .slice al' len' cap'] 25))
      have HS := Lib.hid (HS.out.alloc (.cells #[.slice al len cap, .slice al' len' cap'] 25))
      refine wpAnyH_ready (rs := [10]) (by kernel_rfl) (by simp) ?_
      refine AllReadyH.cons (o := ⟨some 27, _, _, _, _, _⟩) rfl (fun K hK => ?_) AllReadyH.nil
      go_simp
      go_at_call 40
      refine (concat_any wj.heap.size al al' len cap len' cap' A B _ HN2.out (HS.out.ids 1 rfl) (HS.out.ids 0 rfl) (by omega)).mono ?_
      rintro e wc ⟨alc, capc, rfl, hIc, hFc, bc⟩
      have HIc := Lib.hid hIc
      have HZ := Lib.hid (HZ.out.below bc)
      have HS := Lib.hid (HS.out.next bc)
      clear bc hIc
      generalize (A ++ B).length = n3 at HIc ⊢
      go_wp2_with fail
      refine hK.out _ _ HS.out (fun _ => ?_)
      clear hK K
      try simp only [Act.put, List.setIfInBounds_toArray, List.set_cons_zero, List.set_cons_succ]
      refine wpAnyH_ready (rs := [11]) (by kernel_rfl) (by simp) ?_
      refine AllReadyH.cons (o := ⟨some 28, _, _, _, _, _⟩) rfl (fun K hK => ?_) AllReadyH.nil
      go_simp
      go_at_call 9
      have hmk := cMake_cut (joinV a b) alc _ capc (A ++ B) _ HIc.out hFc (join_in HIN.out HIN'.out)
      rw [HU.out, HR.out, HCC.out, HNR.out] at hmk
      refine hmk.mono ?_
      clear hmk
      rintro e wd ⟨alr, capr, rfl, hIr, hFr, bd⟩
      have HIR := Lib.hid hIr
      have HFR := Lib.hid hFr
      have HZ := Lib.hid (HZ.out.below bd)
      have HS := Lib.hid (HS.out.next bd)
      clear bd hIr hFr
      go_wp2_with fail
      refine hK.out _ _ HS.out (fun _ => ?_)
      clear hK K
      try simp only [Act.put, List.setIfInBounds_toArray, List.set_cons_zero, List.set_cons_succ]
      refine wpAnyH_take (i := 12) (oi := ⟨some 29, _, _, _, _, _⟩) (v := ?_) rfl (by kernel_rfl) (by kernel_rfl) (by kernel_rfl) (fun _ _ _ h => h) (Or.inl ⟨by rfl, ?_⟩) HS.out ?_
      rotate_left
      · intro w' hSw; clear hSw; go_simp; try (with_reducible rfl)
      try simp only [Act.put, List.setIfInBounds_toArray, List.set_cons_zero, List.set_cons_succ]
      refine wpAnyH_take (i := 13) (oi := ⟨some 30, _, _, _, _, _⟩) (v := ?_) rfl (by kernel_rfl) (by kernel_rfl) (by kernel_rfl) (fun _ _ _ h => h) (Or.inl ⟨by rfl, ?_⟩) HS.out ?_
      rotate_left
      · intro w' hSw; clear hSw; go_simp; try (with_reducible rfl)
      try simp only [Act.put, List.setIfInBounds_toArray, List.set_cons_zero, List.set_cons_succ]
      refine wpAnyH_ready (rs := [14]) (by kernel_rfl) (by simp) ?_
      refine AllReadyH.cons (o := ⟨none, _, _, _, _, _⟩) rfl (fun K hK => ?_) AllReadyH.nil
      refine if_yes rfl ?_
      refine wp_store_row 31 (.tmp 4) (.tmp 29) rfl (w.heap.size + 1 + 1) #[.int .u32 (u 0), .int .u32 (u 1), .int .u32 (u 2), .int .u32 (u 3), .int .u32 (u 4), .int .u32 (u 5), .int .u32 (u 6), .int .u32 (u 7), .slice alr nr capr] rfl rfl 31 _ HZ.out (by kernel_rfl) rfl (cut_one _ _ _ _) ?_
      refine hK.out _ _ (HS.out.row HZ.out (by simp <;> omega) (by omega) _) (fun _ => ?_)
      clear hK K
      try simp only [Act.put, List.setIfInBounds_toArray, List.set_cons_zero, List.set_cons_succ]
      have HS := Lib.hid (HS.out.row HZ.out (by simp <;> omega) (by omega) #[.int .u32 (u 0), .int .u32 (u 1), .int .u32 (u 2), .int .u32 (u 3), .int .u32 (u 4), .int .u32 (u 5), .int .u32 (u 6), .int .u32 (u 7), .slice alr nr capr])
      refine wpAnyH_take (i := 15) (oi := ⟨some 5, _, _, _, _, _⟩) (v := ?_) rfl (by kernel_rfl) (by kernel_rfl) (by kernel_rfl) (fun _ _ _ h => h) (Or.inl ⟨by rfl, ?_⟩) HS.out ?_
      rotate_left
      · intro w' hSw; clear hSw; go_simp; try (with_reducible rfl)
      try simp only [Act.put, List.setIfInBounds_toArray, List.set_cons_zero, List.set_cons_succ]
      refine wpAnyH_done (by kernel_rfl) ?_ _
      have hR := setRow_heap _ _ _ #[.int .u32 (u 0), .int .u32 (u 1), .int .u32 (u 2), .int .u32 (u 3), .int .u32 (u 4), .int .u32 (u 5), .int .u32 (u 6), .int .u32 (u 7), .slice alr nr capr] _ _ HZ.out
      obtain ⟨r0, r1, r2, r3, r4, r5, r6, r7, r8⟩ := cut_cells hR
      go_wp2_with fail
      refine bodyPost_ret (v := .tuple #[.agg #[.int .u32 (u 0), .int .u32 (u 1), .int .u32 (u 2), .int .u32 (u 3), .int .u32 (u 4), .int .u32 (u 5), .int .u32 (u 6), .int .u32 (u 7), .slice alr nr capr], .int .i64 c]) ?_ rfl ⟨alr, capr, by rw [HP.out.1, HP.out.2.1, HP.out.2.2, HNR.out], by rw [HP.out.2.1, HNR.out]; exact ids_rowC HIR.out HZ.out _, HFR.out, HS.out.bel⟩
      simp [results, Try.results21, go_sem, r0, r1, r2, r3, r4, r5, r6, r7, r8]
    · go_simp
      refine hK.out _ _ (HS.out.alloc _) (fun _ => ?_)
      clear hK K
      try simp only [Act.put, List.setIfInBounds_toArray, List.set_cons_zero, List.set_cons_succ]
      have HN2 := Lib.hid (Blk.new wr #[.slice al len cap, .slice al' len' cap'] 25)
      have HZ := Lib.hid (HZ.out.alloc (.cells #[.slice al len cap, .slice al' len' cap'] 25))
      have HS := Lib.hid (HS.out.alloc (.cells #[.slice al len cap, .slice al' len' cap'] 25))
      refine wpAnyH_ready (rs := [4]) (by kernel_rfl) (by simp) ?_
      refine AllReadyH.cons (o := ⟨some 21, _, _, _, _, _⟩) rfl (fun K hK => ?_) AllReadyH.nil
      go_simp
      go_at_call 49
      refine (join_any a b _).mono ?_
      rintro e wj ⟨rfl, bj⟩
      have HZ := Lib.hid (HZ.out.below bj)
      have HS := Lib.hid (HS.out.next bj)
      have HN2 := Lib.hid (HN2.out.below bj)
      clear bj
      go_wp2_with fail
      refine hK.out _ _ HS.out (fun _ => ?_)
      clear hK K
      try simp only [Act.put, List.setIfInBounds_toArray, List.set_cons_zero, List.set_cons_succ]
      refine wpAnyH_ready (rs := [10]) (by kernel_rfl) (by simp) ?_
      refine AllReadyH.cons (o := ⟨some 27, _, _, _, _, _⟩) rfl (fun K hK => ?_) AllReadyH.nil
      go_simp
      go_at_call 40
      refine (concat_any wr.heap.size al al' len cap len' cap' A B _ HN2.out (HS.out.ids 1 rfl) (HS.out.ids 0 rfl) (by omega)).mono ?_
      rintro e wc ⟨alc, capc, rfl, hIc, hFc, bc⟩
      have HIc := Lib.hid hIc
      have HZ := Lib.hid (HZ.out.below bc)
      have HS := Lib.hid (HS.out.next bc)
      clear bc hIc
      generalize (A ++ B).length = n3 at HIc ⊢
      go_wp2_with fail
      refine hK.out _ _ HS.out (fun _ => ?_)
      clear hK K
      try simp only [Act.put, List.setIfInBounds_toArray, List.set_cons_zero, List.set_cons_succ]
      refine wpAnyH_ready (rs := [11]) (by kernel_rfl) (by simp) ?_
      refine AllReadyH.cons (o := ⟨some 28, _, _, _, _, _⟩) rfl (fun K hK => ?_) AllReadyH.nil
      go_simp
      go_at_call 9
      have hmk := cMake_cut (joinV a b) alc _ capc (A ++ B) _ HIc.out hFc (join_in HIN.out HIN'.out)
      rw [HU.out, HR.out, HCC.out, HNR.out] at hmk
      refine hmk.mono ?_
      clear hmk
      rintro e wd ⟨alr, capr, rfl, hIr, hFr, bd⟩
      have HIR := Lib.hid hIr
      have HFR := Lib.hid hFr
      have HZ := Lib.hid (HZ.out.below bd)
      have HS := Lib.hid (HS.out.next bd)
      clear bd hIr hFr
      go_wp2_with fail
      refine hK.out _ _ HS.out (fun _ => ?_)
      clear hK K
      try simp only [Act.put, List.setIfInBounds_toArray, List.set_cons_zero, List.set_cons_succ]
      refine wpAnyH_take (i := 12) (oi := ⟨some 29, _, _, _, _, _⟩) (v := ?_) rfl (by kernel_rfl) (by kernel_rfl) (by kernel_rfl) (fun _ _ _ h => h) (Or.inl ⟨by rfl, ?_⟩) HS.out ?_
      rotate_left
      · intro w' hSw; clear hSw; go_simp; try (with_reducible rfl)
      try simp only [Act.put, List.setIfInBounds_toArray, List.set_cons_zero, List.set_cons_succ]
      refine wpAnyH_take (i := 13) (oi := ⟨some 30, _, _, _, _, _⟩) (v := ?_) rfl (by kernel_rfl) (by kernel_rfl) (by kernel_rfl) (fun _ _ _ h => h) (Or.inl ⟨by rfl, ?_⟩) HS.out ?_
      rotate_left
      · intro w' hSw; clear hSw; go_simp; try (with_reducible rfl)
      try simp only [Act.put, List.setIfInBounds_toArray, List.set_cons_zero, List.set_cons_succ]
      refine wpAnyH_ready (rs := [14]) (by kernel_rfl) (by simp) ?_
      refine AllReadyH.cons (o := ⟨none, _, _, _, _, _⟩) rfl (fun K hK => ?_) AllReadyH.nil
      refine if_yes rfl ?_
      refine wp_store_row 31 (.tmp 4) (.tmp 29) rfl (w.heap.size + 1 + 1) #[.int .u32 (u 0), .int .u32 (u 1), .int .u32 (u 2), .int .u32 (u 3), .int .u32 (u 4), .int .u32 (u 5), .int .u32 (u 6), .int .u32 (u 7), .slice alr nr capr] rfl rfl 31 _ HZ.out (by kernel_rfl) rfl (cut_one _ _ _ _) ?_
      refine hK.out _ _ (HS.out.row HZ.out (by simp <;> omega) (by omega) _) (fun _ => ?_)
      clear hK K
      try simp only [Act.put, List.setIfInBounds_toArray, List.set_cons_zero, List.set_cons_succ]
      have HS := Lib.hid (HS.out.row HZ.out (by simp <;> omega) (by omega) #[.int .u32 (u 0), .int .u32 (u 1), .int .u32 (u 2), .int .u32 (u 3), .int .u32 (u 4), .int .u32 (u 5), .int .u32 (u 6), .int .u32 (u 7), .slice alr nr capr])
      refine wpAnyH_take (i := 15) (oi := ⟨some 5, _, _, _, _, _⟩) (v := ?_) rfl (by kernel_rfl) (by kernel_rfl) (by kernel_rfl) (fun _ _ _ h => h) (Or.inl ⟨by rfl, ?_⟩) HS.out ?_
      rotate_left
      · intro w' hSw; clear hSw; go_simp; try (with_reducible rfl)
      try simp only [Act.put, List.setIfInBounds_toArray, List.set_cons_zero, List.set_cons_succ]
      refine wpAnyH_done (by kernel_rfl) ?_ _
      have hR := setRow_heap _ _ _ #[.int .u32 (u 0), .int .u32 (u 1), .int .u32 (u 2), .int .u32 (u 3), .int .u32 (u 4), .int .u32 (u 5), .int .u32 (u 6), .int .u32 (u 7), .slice alr nr capr] _ _ HZ.out
      obtain ⟨r0, r1, r2, r3, r4, r5, r6, r7, r8⟩ := cut_cells hR
      go_wp2_with fail
      refine bodyPost_ret (v := .tuple #[.agg #[.int .u32 (u 0), .int .u32 (u 1), .int .u32 (u 2), .int .u32 (u 3), .int .u32 (u 4), .int .u32 (u 5), .int .u32 (u 6), .int .u32 (u 7), .slice alr nr capr], .int .i64 c]) ?_ rfl ⟨alr, capr, by rw [HP.out.1, HP.out.2.1, HP.out.2.2, HNR.out], by rw [HP.out.2.1, HNR.out]; exact ids_rowC HIR.out HZ.out _, HFR.out, HS.out.bel⟩
      simp [results, Try.results21, go_sem, r0, r1, r2, r3, r4, r5, r6, r7, r8]
  · have HE2 := Lib.hid (jo_bad HO.out hz0)
    have hn : (z != 0) = true := by simpa using hz0
    clear hz0
    go_wp2_with (refine wpList_store_row rfl 31 _ _ rfl (w.heap.size + 1 + 1) #[.int .u32 0, .int .u32 0, .int .u32 0, .int .u32 0, .int .u32 0, .int .u32 0, .int .u32 0, .int .u32 0, .slice none 0 0] rfl rfl 31 _ HZ.out (by kernel_rfl) rfl (by kernel_rfl) ?_)
    have hR := setRow_heap _ _ _ #[.int .u32 0, .int .u32 0, .int .u32 0, .int .u32 0, .int .u32 0, .int .u32 0, .int .u32 0, .int .u32 0, .slice none 0 0] _ _ HZ.out
    obtain ⟨r0, r1, r2, r3, r4, r5, r6, r7, r8⟩ := cut_cells (v := zV) (al := none) (len := 0) (cap := 0) hR
    refine bodyPost_ret (v := .tuple #[.agg #[.int .u32 0, .int .u32 0, .int .u32 0, .int .u32 0, .int .u32 0, .int .u32 0, .int .u32 0, .int .u32 0, .slice none 0 0], .int .i64 z]) ?_ rfl ⟨none, 0, by rw [HE2.out.1, HE2.out.2.1, HE2.out.2.2]; rfl, by rw [HE2.out.2.1]; exact Ids.nil _, .inl rfl, below_setRow HS.out.bel (by omega) _⟩
    simp [results, Try.results21, go_sem, r0, r1, r2, r3, r4, r5, r6, r7, r8, zV]
end Go.Proofs.Ythbdjgebpjffgaa
