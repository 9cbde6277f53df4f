/-
  The laws' own To, From and far.
  Conditions: none.
-/
import Derived.Test.YthbdjgebpjffgaaCuS
set_option linter.unusedVariables false
set_option linter.unusedSimpArgs false
namespace Go.Proofs.Ythbdjgebpjffgaa
open Go.RowKit Go.Shelf Go.Lib Go.Sort

set_option maxRecDepth 100000 in
set_option maxHeartbeats 1000000 in
theorem from_cut (v : Nat → Int) (al : Option Addr) (len cap : Nat) (w : World) :
    Calls Try.prog 15 #[.agg #[.int .u32 (v 0), .int .u32 (v 1), .int .u32 (v 2), .int .u32 (v 3), .int .u32 (v 4), .int .u32 (v 5), .int .u32 (v 6), .int .u32 (v 7), .slice al len cap]] w fun e w' => e = .returned (.agg #[.int .u32 (v 0), .int .u32 (v 1), .int .u32 (v 2), .int .u32 (v 3), .int .u32 (v 4), .int .u32 (v 5), .int .u32 (v 6), .int .u32 (v 7), .slice al len cap]) ∧ Below w.heap.size w w' := by
  have h0 := ((KS.nil w).box rfl #[.int .u32 (v 0), .int .u32 (v 1), .int .u32 (v 2), .int .u32 (v 3), .int .u32 (v 4), .int .u32 (v 5), .int .u32 (v 6), .int .u32 (v 7), .slice al len cap] 31).box (g := w.heap.size + 1) (by simp) #[.int .u32 0, .int .u32 0, .int .u32 0, .int .u32 0, .int .u32 0, .int .u32 0, .int .u32 0, .int .u32 0, .slice none 0 0] 27
  obtain ⟨x0, x1, x2, x3, x4, x5, x6, x7, x8⟩ := cut_cells (h0.blk 1 rfl)
  have HZ := Lib.hid (h0.blk 0 rfl)
  have HB := Lib.hid h0.bel
  clear h0
  go_enter Try.func15, Try.ntmps15
  go_wp2_with (refine wpList_store_row rfl 27 _ _ rfl (w.heap.size + 1) #[.int .u32 (v 0), .int .u32 (v 1), .int .u32 (v 2), .int .u32 (v 3), .int .u32 (v 4), .int .u32 (v 5), .int .u32 (v 6), .int .u32 (v 7), .slice al len cap] rfl rfl 27 _ HZ.out (by kernel_rfl) rfl (cut_one _ _ _ _) ?_)
  have hR := setRow_heap _ _ _ #[.int .u32 (v 0), .int .u32 (v 1), .int .u32 (v 2), .int .u32 (v 3), .int .u32 (v 4), .int .u32 (v 5), .int .u32 (v 6), .int .u32 (v 7), .slice al len cap] _ _ HZ.out
  obtain ⟨r0, r1, r2, r3, r4, r5, r6, r7, r8⟩ := cut_cells hR
  refine bodyPost_ret (v := .agg #[.int .u32 (v 0), .int .u32 (v 1), .int .u32 (v 2), .int .u32 (v 3), .int .u32 (v 4), .int .u32 (v 5), .int .u32 (v 6), .int .u32 (v 7), .slice al len cap]) ?_ rfl ⟨rfl, below_setRow HB.out (by omega) _⟩
  simp [results, Try.results15, go_sem, r0, r1, r2, r3, r4, r5, r6, r7, r8]

/-- Is a vector far? -/
def farV (v : Nat → Int) : Bool := decide (3000 < totV v 8)
set_option maxRecDepth 100000 in
set_option maxHeartbeats 1000000 in
theorem far_cut (v : Nat → Int) (al : Option Addr) (len cap : Nat) (w : World) (hv : InB v) :
    Calls Try.prog 20 #[.agg #[.int .u32 (v 0), .int .u32 (v 1), .int .u32 (v 2), .int .u32 (v 3), .int .u32 (v 4), .int .u32 (v 5), .int .u32 (v 6), .int .u32 (v 7), .slice al len cap]] w fun e w' => e = .returned (.bool (farV v)) ∧ Below w.heap.size w w' := by
  have h0 := (KS.nil w).box rfl #[.int .u32 (v 0), .int .u32 (v 1), .int .u32 (v 2), .int .u32 (v 3), .int .u32 (v 4), .int .u32 (v 5), .int .u32 (v 6), .int .u32 (v 7), .slice al len cap] 27
  obtain ⟨x0, x1, x2, x3, x4, x5, x6, x7, x8⟩ := cut_cells (h0.blk 0 rfl)
  have HB := Lib.hid h0.bel
  clear h0
  have ht := rtotal_any v (w.alloc (.cells #[.int .u32 (v 0), .int .u32 (v 1), .int .u32 (v 2), .int .u32 (v 3), .int .u32 (v 4), .int .u32 (v 5), .int .u32 (v 6), .int .u32 (v 7), .slice al len cap] 27)) hv
  obtain ⟨n, hn⟩ : ∃ n, totV v 8 = n := ⟨_, rfl⟩
  rw [hn] at ht
  have HF : Hid (farV v = decide (3000 < n)) := Lib.hid (by unfold farV; rw [hn])
  clear hn
  go_enter Try.func20, Try.ntmps20
  go_wp2_with fail
  refine ht.mono ?_
  rintro e w1 ⟨rfl, b1⟩
  have HB1 := Lib.hid (below_then HB.out b1); clear b1
  go_wp2
  go_ret
  exact ⟨by rw [HF.out]; rfl, HB1.out⟩

set_option maxRecDepth 100000 in
set_option maxHeartbeats 2000000 in
theorem to_cut (v : Nat → Int) (al : Option Addr) (len cap : Nat) (L : List (Int × Int)) (w : World) (hL : Ids w al len cap L) (hl : len ≤ 1048576) :
    Calls Try.prog 12 #[.agg #[.int .u32 (v 0), .int .u32 (v 1), .int .u32 (v 2), .int .u32 (v 3), .int .u32 (v 4), .int .u32 (v 5), .int .u32 (v 6), .int .u32 (v 7), .slice al len cap]] w fun e w' => ∃ al2 cap2, e = .returned (.agg #[.int .u32 (v 0), .int .u32 (v 1), .int .u32 (v 2), .int .u32 (v 3), .int .u32 (v 4), .int .u32 (v 5), .int .u32 (v 6), .int .u32 (v 7), .slice al2 len cap2]) ∧ Ids w' al2 len cap2 L ∧ Flat al2 ∧ Below w.heap.size w w' := by
  obtain ⟨ti, hi, hz0, hz1, hz2⟩ := info_parts Try.infoId
  have hcap := hL.bd
  have hfit := hL.fit
  have h0 := (((KS.nil w).add hL).box rfl #[.int .u32 (v 0), .int .u32 (v 1), .int .u32 (v 2), .int .u32 (v 3), .int .u32 (v 4), .int .u32 (v 5), .int .u32 (v 6), .int .u32 (v 7), .slice al len cap] 27).box (g := w.heap.size + 1) (by simp) #[.int .u32 0, .int .u32 0, .int .u32 0, .int .u32 0, .int .u32 0, .int .u32 0, .int .u32 0, .int .u32 0, .slice none 0 0] 31
  have H0 := Lib.hid h0
  clear h0 hL
  go_enter Try.func12, Try.ntmps12
  go_wp2_with fail
  have h3 := KS.drop (Bs' := [(w.heap.size, #[.int .u32 (v 0), .int .u32 (v 1), .int .u32 (v 2), .int .u32 (v 3), .int .u32 (v 4), .int .u32 (v 5), .int .u32 (v 6), .int .u32 (v 7), .slice al len cap], 27)]) (Rs' := [(al, len, cap, L)]) H0.out (fun x hx => List.mem_cons_of_mem _ hx) (fun r hr => hr)
  refine wp_region_held_drew (S := KS w [(w.heap.size, #[.int .u32 (v 0), .int .u32 (v 1), .int .u32 (v 2), .int .u32 (v 3), .int .u32 (v 4), .int .u32 (v 5), .int .u32 (v 6), .int .u32 (v 7), .slice al len cap], 27)] [(al, len, cap, L)]) (by kernel_rfl) h3.drew (fun _ => ?_)
  have HS := Lib.hid h3.drew
  have HZ := Lib.hid (H0.out.drew.blk 0 rfl)
  clear h3
  generalize hwr : World.drew _ = wr at HS HZ ⊢
  clear hwr
  refine wpAnyH_take (i := 0) (oi := ⟨some 3, _, _, _, _, _⟩) (v := ?_) rfl (by kernel_rfl) (by kernel_rfl) (by kernel_rfl) (fun _ _ _ h => h) (Or.inl ⟨by rfl, ?_⟩) HS.out ?_
  rotate_left
  · intro w' hSw; clear hSw; go_simp; try (with_reducible rfl)
  try simp only [Act.put, List.setIfInBounds_toArray, List.set_cons_zero, List.set_cons_succ]
  refine wpAnyH_take (i := 1) (oi := ⟨some 4, _, _, _, _, _⟩) (v := ?_) rfl (by kernel_rfl) (by kernel_rfl) (by kernel_rfl) (fun _ _ _ h => h) (Or.inl ⟨by rfl, ?_⟩) HS.out ?_
  rotate_left
  · intro w' hSw; obtain ⟨a_0, a_1, a_2, a_3, a_4, a_5, a_6, a_7, a_8⟩ := cut_cells (hSw.blk 0 rfl); go_simp; try (with_reducible rfl)
  try simp only [Act.put, List.setIfInBounds_toArray, List.set_cons_zero, List.set_cons_succ]
  refine wpAnyH_take (i := 3) (oi := ⟨some 6, _, _, _, _, _⟩) (v := ?_) rfl (by kernel_rfl) (by kernel_rfl) (by kernel_rfl) (fun _ _ _ h => h) (Or.inl ⟨by rfl, ?_⟩) HS.out ?_
  rotate_left
  · intro w' hSw; clear hSw; go_simp; try (with_reducible rfl)
  try simp only [Act.put, List.setIfInBounds_toArray, List.set_cons_zero, List.set_cons_succ]
  refine wpAnyH_take (i := 4) (oi := ⟨some 7, _, _, _, _, _⟩) (v := ?_) rfl (by kernel_rfl) (by kernel_rfl) (by kernel_rfl) (fun _ _ _ h => h) (Or.inl ⟨by rfl, ?_⟩) HS.out ?_
  rotate_left
  · intro w' hSw; obtain ⟨a_0, a_1, a_2, a_3, a_4, a_5, a_6, a_7, a_8⟩ := cut_cells (hSw.blk 0 rfl); go_simp; try (with_reducible rfl)
  try simp only [Act.put, List.setIfInBounds_toArray, List.set_cons_zero, List.set_cons_succ]
  refine wpAnyH_ready (rs := [2]) (by kernel_rfl) (by simp) ?_
  refine AllReadyH.cons (o := ⟨some 5, _, _, _, _, _⟩) rfl (fun K hK => ?_) AllReadyH.nil
  go_simp
  have HS0 := HS
  have HZ0 := HZ
  have HB0 := Lib.hid ((Below.refl wr.heap.size wr).alloc (Nat.le_refl _) (.cells #[] 29))
  refine hK.out _ _ (HS.out.alloc _) (fun _ => ?_)
  clear hK K
  try simp only [Act.put, List.setIfInBounds_toArray, List.set_cons_zero, List.set_cons_succ]
  have HO := Lib.hid (lit_own wr)
  have HS := Lib.hid (HS.out.alloc (.cells #[] 29))
  refine wpAnyH_ready (rs := [5]) (by kernel_rfl) (by simp) ?_
  refine AllReadyH.cons (o := ⟨some 8, _, _, _, _, _⟩) rfl (fun K hK => ?_) AllReadyH.nil
  refine if_yes rfl ?_
  refine wp_append_list (.tmp 5) (.tmp 7) rfl wr.heap.size ti hi hz0 hz1 hz2 _ _ [] rfl HO.out al len cap L rfl (HS.out.ids 0 rfl) (by omega) HB0.out.size ?_
  intro va wa hoa hga
  have hba : Below wr.heap.size wr wa := HB0.out.grown hga HB0.out.size (fun k hk => own_base HO.out k hk)
  obtain ⟨ala, capa, rfl, hIa, hFa⟩ := app_got hoa
  have HIa := Lib.hid hIa
  have HS := Lib.hid (HS0.out.next hba)
  have HZ := Lib.hid (HZ0.out.below hba)
  clear hoa hga hba hIa HO HB0
  refine hK.out _ _ HS.out (fun _ => ?_)
  clear hK K
  try simp only [Act.put, List.setIfInBounds_toArray, List.set_cons_zero, List.set_cons_succ]
  refine wpAnyH_take (i := 6) (oi := ⟨some 9, _, _, _, _, _⟩) (v := ?_) rfl (by kernel_rfl) (by kernel_rfl) (by kernel_rfl) (fun _ _ _ h => h) (Or.inl ⟨by rfl, ?_⟩) HS.out ?_
  rotate_left
  · intro w' hSw; clear hSw; go_simp; try (with_reducible rfl)
  try simp only [Act.put, List.setIfInBounds_toArray, List.set_cons_zero, List.set_cons_succ]
  refine wpAnyH_ready (rs := [7]) (by kernel_rfl) (by simp) ?_
  refine AllReadyH.cons (o := ⟨none, _, _, _, _, _⟩) rfl (fun K hK => ?_) AllReadyH.nil
  refine if_yes rfl ?_
  refine wp_store_row 31 (.tmp 2) (.tmp 9) rfl (w.heap.size + 1) #[.int .u32 (v 0), .int .u32 (v 1), .int .u32 (v 2), .int .u32 (v 3), .int .u32 (v 4), .int .u32 (v 5), .int .u32 (v 6), .int .u32 (v 7), .slice ala len capa] rfl rfl 31 _ HZ.out (by kernel_rfl) rfl (cut_one _ _ _ _) ?_
  refine hK.out _ _ (HS.out.row HZ.out (by simp <;> omega) (by omega) _) (fun _ => ?_)
  clear hK K
  try simp only [Act.put, List.setIfInBounds_toArray, List.set_cons_zero, List.set_cons_succ]
  have HS := Lib.hid (HS.out.row HZ.out (by simp <;> omega) (by omega) #[.int .u32 (v 0), .int .u32 (v 1), .int .u32 (v 2), .int .u32 (v 3), .int .u32 (v 4), .int .u32 (v 5), .int .u32 (v 6), .int .u32 (v 7), .slice ala len capa])
  refine wpAnyH_done (by kernel_rfl) ?_ _
  have hR := setRow_heap _ _ _ #[.int .u32 (v 0), .int .u32 (v 1), .int .u32 (v 2), .int .u32 (v 3), .int .u32 (v 4), .int .u32 (v 5), .int .u32 (v 6), .int .u32 (v 7), .slice ala len capa] _ _ HZ.out
  obtain ⟨r0, r1, r2, r3, r4, r5, r6, r7, r8⟩ := cut_cells hR
  go_wp2_with fail
  refine bodyPost_ret (v := .agg #[.int .u32 (v 0), .int .u32 (v 1), .int .u32 (v 2), .int .u32 (v 3), .int .u32 (v 4), .int .u32 (v 5), .int .u32 (v 6), .int .u32 (v 7), .slice ala len capa]) ?_ rfl ⟨ala, capa, rfl, ids_rowC HIa.out HZ.out _, hFa, HS.out.bel⟩
  simp [results, Try.results12, go_sem, r0, r1, r2, r3, r4, r5, r6, r7, r8]
end Go.Proofs.Ythbdjgebpjffgaa
