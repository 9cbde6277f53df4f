/-
  The walk of the law DotsRest.
  Conditions: none.
-/
import Derived.Test.YtgcmlefalilodaaDtF
namespace Go.Proofs.Ytgcmlefalilodaa
open Go.RowKit Go.Shelf Go.Lib Go.Sort

set_option maxRecDepth 100000 in
set_option maxHeartbeats 8000000 in
theorem dotsRest_walk (v : Nat → Int) (al : Option Addr) (len cap : Nat) (L : List (Int × Int)) (o q : Int) (w : World) (hv : ∀ i, i < 8 → (Lit.int .u32 (v i)).wf = true) (hL : Ids w al len cap L) (_ho : (Lit.int .i64 o).wf = true) (_hq : (Lit.int .u32 q).wf = true) :
    Calls Try.prog 6 #[.agg #[.int .u32 (v 0), .int .u32 (v 1), .int .u32 (v 2), .int .u32 (v 3), .int .u32 (v 4), .int .u32 (v 5), .int .u32 (v 6), .int .u32 (v 7)], .slice al len cap, .agg #[.int .i64 o, .int .u32 q]] w fun e w' => e = .returned (.bool true) ∧ Below w.heap.size w w' := by
  have hcap := hL.bd
  have hfit := hL.fit
  have hin : InB v := fun i hi => by have := bounds_u32 (hv i hi); omega
  have hb0 := (Below.refl w.heap.size w).alloc (Nat.le_refl _) (.cells #[.int .u32 (v 0), .int .u32 (v 1), .int .u32 (v 2), .int .u32 (v 3), .int .u32 (v 4), .int .u32 (v 5), .int .u32 (v 6), .int .u32 (v 7)] 35)
  have hb := below_new hb0 (.cells #[.int .i64 o, .int .u32 q] 25)
  have hS : QS w o q [(w.heap.size, v)] [(al, len, cap, L)] ((w.alloc (.cells #[.int .u32 (v 0), .int .u32 (v 1), .int .u32 (v 2), .int .u32 (v 3), .int .u32 (v 4), .int .u32 (v 5), .int .u32 (v 6), .int .u32 (v 7)] 35)).alloc (.cells #[.int .i64 o, .int .u32 q] 25)) := ⟨hb, blk_newS _ _ _, fun x hx => by
    simp only [List.mem_cons, List.not_mem_nil, or_false] at hx
    subst hx
    exact (Blk.new w _ _).alloc _, fun r hr => by
    simp only [List.mem_cons, List.not_mem_nil, or_false] at hr
    subst hr
    exact hL.below hb⟩
  have H0 := Lib.hid hS
  have HIN := Lib.hid hin
  clear hS hb hb0 hL _ho _hq hv hin
  go_enter Try.func6, Try.ntmps6
  go_wp2_with fail
  refine (dworks_any _).mono ?_
  rintro e w1 ⟨rfl, b1⟩
  have H1 := Lib.hid (H0.out.next b1); clear b1
  go_wp2_with fail
  refine (great_any al len cap _ hfit hcap).mono ?_
  cases hg : greatB len with
  | true =>
    rintro e w2 ⟨rfl, b2⟩
    have H2 := Lib.hid (H1.out.next b2); clear b2 hg
    go_wp2
    go_ret
    exact ⟨rfl, H2.out.bel⟩
  | false =>
    have hle := great_le hg
    clear hg
    rintro e w2 ⟨rfl, b2⟩
    have H2 := Lib.hid (H1.out.next b2); clear b2
    go_wp2_with fail
    refine (own_any al len cap L _ (H2.out.get (by simp)) (by omega)).mono ?_
    rintro e w3 ⟨al3, cap3, rfl, hI3, hF3, b3⟩
    have H3 := Lib.hid ((H2.out.next b3).addR hI3); clear b3 hI3
    go_wp2_with fail
    refine (make_any al3 len cap3 L _ (H3.out.get (by simp)) hF3).mono ?_
    rintro e w4 ⟨al4, cap4, rfl, hI4, _, b4⟩
    have H4 := Lib.hid ((H3.out.next b4).addR hI4); clear b4 hI4 hF3
    by_cases hc : mkC L = 0
    · obtain ⟨_, h64, hr, hck⟩ := mkC_zero hc
      rw [hr] at H4
      rw [hc, hr]
      clear hc hr
      generalize setS L = A at h64 hck H4 ⊢
      have HCK := Lib.hid hck; clear hck
      generalize hnA : A.length = nA at h64 H4 ⊢
      clear hnA
      have q4 : QS w o q [(w.heap.size, v)] [(al4, nA, cap4, A)] w4 := ⟨H4.out.bel, H4.out.i, H4.out.bs, fun r hr => by
        simp only [List.mem_cons, List.not_mem_nil, or_false] at hr
        subst hr
        exact H4.out.get (by simp)⟩
      have HQ4 := Lib.hid q4; clear H4
      have m1 : (w.heap.size, v) ∈ ([(w.heap.size, v)] : List (Nat × (Nat → Int))) := by simp
      obtain ⟨x0, x1, x2, x3, x4, x5, x6, x7, _⟩ := QS.all1 m1 q4
      clear q4
      go_wp2_with fail
      refine (rvCheck_any v _).mono ?_
      by_cases hkv : chkV v = 0
      · have HRM := Lib.hid (left_of hkv HIN.out HCK.out)
        rw [hkv]
        clear hkv x0 x1 x2 x3 x4 x5 x6 x7
        rintro e w5 ⟨rfl, b5⟩
        have HQ5 := Lib.hid (HQ4.out.next b5); clear b5
        have q5 := HQ5.out
        have l5 := q5.lt
        have l5' := q5.lt1 m1
        obtain ⟨u, hu⟩ : ∃ u, foV v A = u := ⟨_, rfl⟩
        obtain ⟨R, hR⟩ : ∃ R, foS v A = R := ⟨_, rfl⟩
        obtain ⟨nR, hnR⟩ : ∃ n, R.length = n := ⟨_, rfl⟩
        have HU := Lib.hid hu
        have HR := Lib.hid hR
        have HNR := Lib.hid hnR
        have HM5 : Hid ((al4, nA, cap4, A) ∈ ([(al4, nA, cap4, A)] : List Sl)) := Lib.hid (by simp)
        clear hu hR hnR
        go_upto_region 8 with fail
        go_cut [9, 10, 11] (fun s9 s10 s11 wx => ∃ (g : Nat) (al9 : Option Addr) (cap9 : Nat), s9 = .pointer (some ⟨g, 0, none⟩) ∧ s10 = .slice al9 nR cap9 ∧ s11 = .int .i64 0 ∧ Ids wx al9 nR cap9 R ∧ QS w o q [(g, u), (w.heap.size, v)] [(al4, nA, cap4, A)] wx)
        case first =>
          go_region_held3 (fun w' => w'.cell? ⟨w.heap.size, 0, none⟩ = some (.int .u32 (v 0)) ∧ w'.cell? ⟨w.heap.size, 1, none⟩ = some (.int .u32 (v 1)) ∧ w'.cell? ⟨w.heap.size, 2, none⟩ = some (.int .u32 (v 2)) ∧ w'.cell? ⟨w.heap.size, 3, none⟩ = some (.int .u32 (v 3)) ∧ w'.cell? ⟨w.heap.size, 4, none⟩ = some (.int .u32 (v 4)) ∧ w'.cell? ⟨w.heap.size, 5, none⟩ = some (.int .u32 (v 5)) ∧ w'.cell? ⟨w.heap.size, 6, none⟩ = some (.int .u32 (v 6)) ∧ w'.cell? ⟨w.heap.size, 7, none⟩ = some (.int .u32 (v 7)) ∧ QS w o q [(w.heap.size, v)] [(al4, nA, cap4, A)] w') (exact QS.all1 m1 (by repeat (first | (with_reducible assumption) | (with_reducible exact q5) | (with_reducible refine QS.alloc ?_ _) | (with_reducible refine QS.drew ?_) | (with_reducible refine QS.set8 _ ?_ (by repeat (first | (with_reducible exact Blk.new _ _ _) | (with_reducible refine Blk.alloc ?_ _) | (with_reducible refine Blk.drew1 ?_) | (with_reducible refine Kept.blk hkf ?_) | (with_reducible refine Kept.blk hko ?_) )) (by omega) (by simp; omega))))) (first | (go_at_call 9; refine (own_QS (w0 := w) (o := o) (q := q) (Bs := [(w.heap.size, v)]) (Rs := [(al4, nA, cap4, A)]) al4 nA cap4 A HM5.out (by omega) (by first | (with_reducible assumption) | exact QS.held1 (by assumption))).mono ?_; rintro e wo ⟨alo, capo, rfl, hIo, hJo, hko⟩; have co := hko.cell; have fo := hko.free; have zo := hko.lt; have lo := QS.lt hJo; (first | (have yo : w5.heap.size < wo.heap.size := zo _ (by first | (with_reducible assumption) | omega | (simp; done) | (simp; omega))) | skip)) | (go_at_call 25; refine (fold_QS (w0 := w) (o := o) (q := q) (Bs := [(w.heap.size, v)]) (Rs := [(al4, nA, cap4, A)]) alo nA capo A v u R nR HIN.out HRM.out.c HU.out HR.out HNR.out (by repeat (first | (with_reducible assumption) | (with_reducible refine ids_drew ?_) | (with_reducible refine ids_alloc ?_ _))) (by first | (with_reducible assumption) | exact QS.held1 (by assumption))).mono ?_; rintro e wf ⟨al9, cap9, rfl, hIf, hJf, hkf⟩; have cf := hkf.cell; have ff := hkf.free; have zf := hkf.lt; (first | (have yf : w5.heap.size < wf.heap.size := zf _ (by first | (with_reducible assumption) | omega | (simp; done) | (simp; omega))) | skip); (first | (have y2 : wo.heap.size < wf.heap.size := zf _ (by first | (with_reducible assumption) | omega | (simp; done) | (simp; omega))) | skip)))
          all_goals
            go_wp2_with fail
            go_meet
            first | (with_reducible exact ⟨_, _, _, rfl, rfl, rfl, ids_alloc hIf _, QS.s1 _ hJf⟩) | ((with_reducible refine ⟨_, _, _, rfl, rfl, rfl, ids_set8 _ hIf ?_, QS.s2 _ hJf ?_ ?_ ?_⟩); exact (by repeat (first | (with_reducible exact Blk.new _ _ _) | (with_reducible refine Blk.alloc ?_ _) | (with_reducible refine Blk.drew1 ?_) | (with_reducible refine Kept.blk hkf ?_) | (with_reducible refine Kept.blk hko ?_) )); exact (by repeat (first | (with_reducible exact Blk.new _ _ _) | (with_reducible refine Blk.alloc ?_ _) | (with_reducible refine Blk.drew1 ?_) | (with_reducible refine Kept.blk hkf ?_) | (with_reducible refine Kept.blk hko ?_) )); omega; exact (by simp; omega))
        case rest =>
          obtain ⟨g, al9, cap9, rfl, rfl, rfl, hI9, hQ9⟩ := hcut
          have n1 : (g, u) ∈ ([(g, u), (w.heap.size, v)] : List (Nat × (Nat → Int))) := by simp
          have n2 : (w.heap.size, v) ∈ ([(g, u), (w.heap.size, v)] : List (Nat × (Nat → Int))) := by simp
          have HQ9 := Lib.hid (hQ9.addR hI9)
          clear hI9 hQ9 q5 l5 l5' HQ5 HQ4 HM5 m1
          obtain ⟨_, r2, r3, r4, r5, r6, r7, r8, r9, r10⟩ := HRM.out
          rw [HU.out] at r2 r3 r9
          rw [HR.out, HNR.out] at r4
          rw [HU.out, HR.out] at r8 r10
          rw [HR.out] at r9
          have r5' := r5 o q
          have r6' := r6 o q
          rw [HU.out, HR.out] at r5' r6'
          simp only [HU.out, HR.out] at r7
          obtain ⟨z, hz⟩ : ∃ z : Nat → Int, zV = z := ⟨_, rfl⟩
          rw [hz] at r7
          have G2 := Lib.hid r2
          have G3 := Lib.hid r3
          have G7 := Lib.hid r7
          have G8 := Lib.hid r8
          have G9 := Lib.hid r9
          have G10 := Lib.hid r10
          have HNRR := Lib.hid HNR.out
          have hmono : hasV v o q = true → hasV u o q = true := fun h => has_mono r2 h
          clear r2 r3 r5 r6 r7 r8 r9 r10 hz
          obtain ⟨tv, htv⟩ : ∃ t, hasV v o q = t := ⟨_, rfl⟩
          obtain ⟨tA, htA⟩ : ∃ t, hasS A (o, q) = t := ⟨_, rfl⟩
          obtain ⟨tu, htu⟩ : ∃ t, hasV u o q = t := ⟨_, rfl⟩
          obtain ⟨tR, htR⟩ : ∃ t, hasS R (o, q) = t := ⟨_, rfl⟩
          rw [htv, htA, htu, htR] at r5'
          rw [htu, htR] at r6'
          rw [htv, htu] at hmono
          have TV := Lib.hid htv
          have TA := Lib.hid htA
          have TU := Lib.hid htu
          have TR := Lib.hid htR
          have HB5 := Lib.hid r5'
          have HB6 := Lib.hid r6'
          have HMO := Lib.hid hmono
          clear htv htA htu htR r5' r6' hmono
          obtain ⟨x0, x1, x2, x3, x4, x5, x6, x7, y0, y1, y2, y3, y4, y5, y6, y7, _, _, _⟩ := QS.all2 n2 n1 HQ9.out
          go_wp2_with fail
          refine (le_any v u _).mono ?_
          rw [G2.out]
          rintro e w10 ⟨rfl, b10⟩
          have HQ10 := Lib.hid (HQ9.out.next b10)
          clear b10 x0 x1 x2 x3 x4 x5 x6 x7 y0 y1 y2 y3 y4 y5 y6 y7
          have q10 := HQ10.out
          have HMA : Hid ((al4, nA, cap4, A) ∈ ([(al9, nR, cap9, R), (al4, nA, cap4, A)] : List Sl)) := Lib.hid (by simp)
          have HMR : Hid ((al9, nR, cap9, R) ∈ ([(al9, nR, cap9, R), (al4, nA, cap4, A)] : List Sl)) := Lib.hid (by simp)
          go_upto_region 11 with fail
          go_cut [77] (fun s77 wx => s77 = .bool false ∧ QS w o q [(g, u), (w.heap.size, v)] [(al9, nR, cap9, R), (al4, nA, cap4, A)] wx)
          case first =>
            have hb5 := HB5.out
            have hb6 := HB6.out
            have hmo := HMO.out
            clear HB5 HB6 HMO
            cases tv <;> cases tu <;> first | (exact absurd (hmo rfl) (by decide)) | skip
            all_goals clear hmo
            · -- neither within
              simp only [Bool.false_or] at hb5
              subst hb5
              clear hb6
              cases tA
              all_goals
                have hJ := QS.drew q10
                refine wp_region_held_drew (S := (fun w' => w'.cell? ⟨w.heap.size, 0, none⟩ = some (.int .u32 (v 0)) ∧ w'.cell? ⟨w.heap.size, 1, none⟩ = some (.int .u32 (v 1)) ∧ w'.cell? ⟨w.heap.size, 2, none⟩ = some (.int .u32 (v 2)) ∧ w'.cell? ⟨w.heap.size, 3, none⟩ = some (.int .u32 (v 3)) ∧ w'.cell? ⟨w.heap.size, 4, none⟩ = some (.int .u32 (v 4)) ∧ w'.cell? ⟨w.heap.size, 5, none⟩ = some (.int .u32 (v 5)) ∧ w'.cell? ⟨w.heap.size, 6, none⟩ = some (.int .u32 (v 6)) ∧ w'.cell? ⟨w.heap.size, 7, none⟩ = some (.int .u32 (v 7)) ∧ w'.cell? ⟨g, 0, none⟩ = some (.int .u32 (u 0)) ∧ w'.cell? ⟨g, 1, none⟩ = some (.int .u32 (u 1)) ∧ w'.cell? ⟨g, 2, none⟩ = some (.int .u32 (u 2)) ∧ w'.cell? ⟨g, 3, none⟩ = some (.int .u32 (u 3)) ∧ w'.cell? ⟨g, 4, none⟩ = some (.int .u32 (u 4)) ∧ w'.cell? ⟨g, 5, none⟩ = some (.int .u32 (u 5)) ∧ w'.cell? ⟨g, 6, none⟩ = some (.int .u32 (u 6)) ∧ w'.cell? ⟨g, 7, none⟩ = some (.int .u32 (u 7)) ∧ w'.cell? ⟨w.heap.size + 1, 0, none⟩ = some (.int .i64 o) ∧ w'.cell? ⟨w.heap.size + 1, 1, none⟩ = some (.int .u32 q) ∧ QS w o q [(g, u), (w.heap.size, v)] [(al9, nR, cap9, R), (al4, nA, cap4, A)] w')) (by kernel_rfl) (QS.all2 n2 n1 (QS.drew q10)) (fun hHeld => ?_)
                refine wpAnyH_take (i := 0) (oi := ⟨some 51, _, _, _, _, _⟩) (v := ?_) rfl (by kernel_rfl) (by kernel_rfl) (by kernel_rfl) (fun _ _ _ h => h) (Or.inl ⟨by rfl, ?_⟩) (by assumption) ?_
                rotate_left
                · intro w hSw; (try dsimp only at hSw); go_simp; try (with_reducible rfl)
                try simp only [Act.put, List.setIfInBounds_toArray, List.set_cons_zero, List.set_cons_succ]
                refine wpAnyH_take (i := 1) (oi := ⟨some 52, _, _, _, _, _⟩) (v := ?_) rfl (by kernel_rfl) (by kernel_rfl) (by kernel_rfl) (fun _ _ _ h => h) (Or.inl ⟨by rfl, ?_⟩) (by assumption) ?_
                rotate_left
                · intro w hSw; (try dsimp only at hSw); go_simp; try (with_reducible rfl)
                try simp only [Act.put, List.setIfInBounds_toArray, List.set_cons_zero, List.set_cons_succ]
                refine wpAnyH_take (i := 8) (oi := ⟨some 59, _, _, _, _, _⟩) (v := ?_) rfl (by kernel_rfl) (by kernel_rfl) (by kernel_rfl) (fun _ _ _ h => h) (Or.inl ⟨by rfl, ?_⟩) (by assumption) ?_
                rotate_left
                · intro w hSw; (try dsimp only at hSw); go_simp; try (with_reducible rfl)
                try simp only [Act.put, List.setIfInBounds_toArray, List.set_cons_zero, List.set_cons_succ]
                refine wpAnyH_take (i := 9) (oi := ⟨some 60, _, _, _, _, _⟩) (v := ?_) rfl (by kernel_rfl) (by kernel_rfl) (by kernel_rfl) (fun _ _ _ h => h) (Or.inl ⟨by rfl, ?_⟩) (by assumption) ?_
                rotate_left
                · intro w hSw; (try dsimp only at hSw); go_simp; try (with_reducible rfl)
                try simp only [Act.put, List.setIfInBounds_toArray, List.set_cons_zero, List.set_cons_succ]
                refine wpAnyH_ready (rs := [2]) (by kernel_rfl) (by simp) ?_
                refine AllReadyH.cons (o := ⟨some 53, _, _, _, _, _⟩) rfl (fun K hK => ?_) AllReadyH.nil
                go_simp
                go_at_call 27
                refine (vhas_QS (w0 := w) (o := o) (q := q) (Bs := [(g, u), (w.heap.size, v)]) (Rs := [(al9, nR, cap9, R), (al4, nA, cap4, A)]) v o q _ TV.out (by first | (with_reducible assumption) | exact QS.held2 (by assumption))).mono ?_
                clear hJ
                rintro e wh ⟨rfl, hJ⟩
                go_wp2_with fail
                refine hK.out _ _ (QS.all2 n2 n1 hJ) (fun hHeld => ?_)
                clear hK K
                try simp only [Act.put, List.setIfInBounds_toArray, List.set_cons_zero, List.set_cons_succ]
                refine wpAnyH_take (i := 3) (oi := ⟨some 54, _, _, _, _, _⟩) (v := ?_) rfl (by kernel_rfl) (by kernel_rfl) (by kernel_rfl) (fun _ _ _ h => h) (Or.inl ⟨by rfl, ?_⟩) (by assumption) ?_
                rotate_left
                · intro w hSw; (try dsimp only at hSw); go_simp; try (with_reducible rfl)
                try simp only [Act.put, List.setIfInBounds_toArray, List.set_cons_zero, List.set_cons_succ]
                refine wpAnyH_take (i := 4) (oi := ⟨some 55, _, _, _, _, _⟩) (v := ?_) rfl (by kernel_rfl) (by kernel_rfl) (by kernel_rfl) (fun _ _ _ h => h) (Or.inl ⟨by rfl, ?_⟩) (by assumption) ?_
                rotate_left
                · intro w hSw; (try dsimp only at hSw); go_simp; try (with_reducible rfl)
                try simp only [Act.put, List.setIfInBounds_toArray, List.set_cons_zero, List.set_cons_succ]
                refine wpAnyH_take (i := 5) (oi := ⟨some 56, _, _, _, _, _⟩) (v := ?_) rfl (by kernel_rfl) (by kernel_rfl) (by kernel_rfl) (fun _ _ _ h => h) (Or.inl ⟨by rfl, ?_⟩) (by assumption) ?_
                rotate_left
                · intro w hSw; (try dsimp only at hSw); go_simp; try (with_reducible rfl)
                try simp only [Act.put, List.setIfInBounds_toArray, List.set_cons_zero, List.set_cons_succ]
                refine wpAnyH_ready (rs := [6]) (by kernel_rfl) (by simp) ?_
                refine AllReadyH.cons (o := ⟨some 57, _, _, _, _, _⟩) rfl (fun K hK => ?_) AllReadyH.nil
                go_simp
                go_at_call 15
                refine (shas_QS (w0 := w) (o := o) (q := q) (Bs := [(g, u), (w.heap.size, v)]) (Rs := [(al9, nR, cap9, R), (al4, nA, cap4, A)]) al4 nA cap4 A o q _ HMA.out TA.out (by first | (with_reducible assumption) | exact QS.held2 (by assumption))).mono ?_
                clear hJ
                rintro e wh ⟨rfl, hJ⟩
                go_wp2_with fail
                refine hK.out _ _ (QS.all2 n2 n1 hJ) (fun hHeld => ?_)
                clear hK K
                try simp only [Act.put, List.setIfInBounds_toArray, List.set_cons_zero, List.set_cons_succ]
                refine wpAnyH_take (i := 7) (oi := ⟨some 58, _, _, _, _, _⟩) (v := ?_) rfl (by kernel_rfl) (by kernel_rfl) (by kernel_rfl) (fun _ _ _ h => h) (Or.inl ⟨by rfl, ?_⟩) (by assumption) ?_
                rotate_left
                · intro w hSw; (try dsimp only at hSw); go_simp; try (with_reducible rfl)
                try simp only [Act.put, List.setIfInBounds_toArray, List.set_cons_zero, List.set_cons_succ]
                refine wpAnyH_ready (rs := [10]) (by kernel_rfl) (by simp) ?_
                refine AllReadyH.cons (o := ⟨some 61, _, _, _, _, _⟩) rfl (fun K hK => ?_) AllReadyH.nil
                go_simp
                go_at_call 27
                refine (vhas_QS (w0 := w) (o := o) (q := q) (Bs := [(g, u), (w.heap.size, v)]) (Rs := [(al9, nR, cap9, R), (al4, nA, cap4, A)]) u o q _ TU.out (by first | (with_reducible assumption) | exact QS.held2 (by assumption))).mono ?_
                clear hJ
                rintro e wh ⟨rfl, hJ⟩
                go_wp2_with fail
                refine hK.out _ _ (QS.all2 n2 n1 hJ) (fun hHeld => ?_)
                clear hK K
                try simp only [Act.put, List.setIfInBounds_toArray, List.set_cons_zero, List.set_cons_succ]
                refine wpAnyH_take (i := 11) (oi := ⟨some 62, _, _, _, _, _⟩) (v := ?_) rfl (by kernel_rfl) (by kernel_rfl) (by kernel_rfl) (fun _ _ _ h => h) (Or.inl ⟨by rfl, ?_⟩) (by assumption) ?_
                rotate_left
                · intro w hSw; (try dsimp only at hSw); go_simp; try (with_reducible rfl)
                try simp only [Act.put, List.setIfInBounds_toArray, List.set_cons_zero, List.set_cons_succ]
                refine wpAnyH_take (i := 12) (oi := ⟨some 63, _, _, _, _, _⟩) (v := ?_) rfl (by kernel_rfl) (by kernel_rfl) (by kernel_rfl) (fun _ _ _ h => h) (Or.inl ⟨by rfl, ?_⟩) (by assumption) ?_
                rotate_left
                · intro w hSw; (try dsimp only at hSw); go_simp; try (with_reducible rfl)
                try simp only [Act.put, List.setIfInBounds_toArray, List.set_cons_zero, List.set_cons_succ]
                refine wpAnyH_take (i := 13) (oi := ⟨some 64, _, _, _, _, _⟩) (v := ?_) rfl (by kernel_rfl) (by kernel_rfl) (by kernel_rfl) (fun _ _ _ h => h) (Or.inl ⟨by rfl, ?_⟩) (by assumption) ?_
                rotate_left
                · intro w hSw; (try dsimp only at hSw); go_simp; try (with_reducible rfl)
                try simp only [Act.put, List.setIfInBounds_toArray, List.set_cons_zero, List.set_cons_succ]
                refine wpAnyH_ready (rs := [14]) (by kernel_rfl) (by simp) ?_
                refine AllReadyH.cons (o := ⟨some 65, _, _, _, _, _⟩) rfl (fun K hK => ?_) AllReadyH.nil
                go_simp
                go_at_call 15
                refine (shas_QS (w0 := w) (o := o) (q := q) (Bs := [(g, u), (w.heap.size, v)]) (Rs := [(al9, nR, cap9, R), (al4, nA, cap4, A)]) al9 nR cap9 R o q _ HMR.out TR.out (by first | (with_reducible assumption) | exact QS.held2 (by assumption))).mono ?_
                clear hJ
                rintro e wh ⟨rfl, hJ⟩
                go_wp2_with fail
                refine hK.out _ _ (QS.all2 n2 n1 hJ) (fun hHeld => ?_)
                clear hK K
                try simp only [Act.put, List.setIfInBounds_toArray, List.set_cons_zero, List.set_cons_succ]
                refine wpAnyH_take (i := 15) (oi := ⟨some 66, _, _, _, _, _⟩) (v := ?_) rfl (by kernel_rfl) (by kernel_rfl) (by kernel_rfl) (fun _ _ _ h => h) (Or.inl ⟨by rfl, ?_⟩) (by assumption) ?_
                rotate_left
                · intro w hSw; (try dsimp only at hSw); go_simp; try (with_reducible rfl)
                try simp only [Act.put, List.setIfInBounds_toArray, List.set_cons_zero, List.set_cons_succ]
                refine wpAnyH_take (i := 16) (oi := ⟨some 67, _, _, _, _, _⟩) (v := ?_) rfl (by kernel_rfl) (by kernel_rfl) (by kernel_rfl) (fun _ _ _ h => h) (Or.inl ⟨by rfl, ?_⟩) (by assumption) ?_
                rotate_left
                · intro w hSw; (try dsimp only at hSw); go_simp; try (with_reducible rfl)
                try simp only [Act.put, List.setIfInBounds_toArray, List.set_cons_zero, List.set_cons_succ]
                refine wpAnyH_take (i := 17) (oi := ⟨some 68, _, _, _, _, _⟩) (v := ?_) rfl (by kernel_rfl) (by kernel_rfl) (by kernel_rfl) (fun _ _ _ h => h) (Or.inl ⟨by rfl, ?_⟩) (by assumption) ?_
                rotate_left
                · intro w hSw; (try dsimp only at hSw); go_simp; try (with_reducible rfl)
                try simp only [Act.put, List.setIfInBounds_toArray, List.set_cons_zero, List.set_cons_succ]
                refine wpAnyH_take (i := 18) (oi := ⟨some 69, _, _, _, _, _⟩) (v := ?_) rfl (by kernel_rfl) (by kernel_rfl) (by kernel_rfl) (fun _ _ _ h => h) (Or.inl ⟨by rfl, ?_⟩) (by assumption) ?_
                rotate_left
                · intro w hSw; (try dsimp only at hSw); go_simp; try (with_reducible rfl)
                try simp only [Act.put, List.setIfInBounds_toArray, List.set_cons_zero, List.set_cons_succ]
                refine wpAnyH_take (i := 19) (oi := ⟨some 70, _, _, _, _, _⟩) (v := ?_) rfl (by kernel_rfl) (by kernel_rfl) (by kernel_rfl) (fun _ _ _ h => h) (Or.inl ⟨by rfl, ?_⟩) (by assumption) ?_
                rotate_left
                · intro w hSw; (try dsimp only at hSw); go_simp; try (with_reducible rfl)
                try simp only [Act.put, List.setIfInBounds_toArray, List.set_cons_zero, List.set_cons_succ]
                refine wpAnyH_ready (rs := [20]) (by kernel_rfl) (by simp) ?_
                refine AllReadyH.cons (o := ⟨some 71, _, _, _, _, _⟩) rfl (fun K hK => ?_) AllReadyH.nil
                go_simp
                go_at_call 27
                refine (vhas_QS (w0 := w) (o := o) (q := q) (Bs := [(g, u), (w.heap.size, v)]) (Rs := [(al9, nR, cap9, R), (al4, nA, cap4, A)]) u o q _ TU.out (by first | (with_reducible assumption) | exact QS.held2 (by assumption))).mono ?_
                clear hJ
                rintro e wh ⟨rfl, hJ⟩
                go_wp2_with fail
                refine hK.out _ _ (QS.all2 n2 n1 hJ) (fun hHeld => ?_)
                clear hK K
                try simp only [Act.put, List.setIfInBounds_toArray, List.set_cons_zero, List.set_cons_succ]
                refine wpAnyH_take (i := 21) (oi := ⟨some 72, _, _, _, _, _⟩) (v := ?_) rfl (by kernel_rfl) (by kernel_rfl) (by kernel_rfl) (fun _ _ _ h => h) (Or.inl ⟨by rfl, ?_⟩) (by assumption) ?_
                rotate_left
                · intro w hSw; (try dsimp only at hSw); go_simp; try (with_reducible rfl)
                try simp only [Act.put, List.setIfInBounds_toArray, List.set_cons_zero, List.set_cons_succ]
                refine wpAnyH_take (i := 22) (oi := ⟨some 73, _, _, _, _, _⟩) (v := _) rfl (by kernel_rfl) (by kernel_rfl) (by kernel_rfl) (fun _ _ _ h => h) (Or.inr ⟨by rfl, rfl⟩) (by assumption) ?_
                try simp only [Act.put, List.setIfInBounds_toArray, List.set_cons_zero, List.set_cons_succ]
                refine wpAnyH_take (i := 23) (oi := ⟨some 74, _, _, _, _, _⟩) (v := _) rfl (by kernel_rfl) (by kernel_rfl) (by kernel_rfl) (fun _ _ _ h => h) (Or.inr ⟨by rfl, rfl⟩) (by assumption) ?_
                try simp only [Act.put, List.setIfInBounds_toArray, List.set_cons_zero, List.set_cons_succ]
                refine wpAnyH_take (i := 24) (oi := ⟨some 75, _, _, _, _, _⟩) (v := _) rfl (by kernel_rfl) (by kernel_rfl) (by kernel_rfl) (fun _ _ _ h => h) (Or.inr ⟨by rfl, rfl⟩) (by assumption) ?_
                try simp only [Act.put, List.setIfInBounds_toArray, List.set_cons_zero, List.set_cons_succ]
                refine wpAnyH_take (i := 25) (oi := ⟨some 76, _, _, _, _, _⟩) (v := ?_) rfl (by kernel_rfl) (by kernel_rfl) (by kernel_rfl) (fun _ _ _ h => h) (Or.inl ⟨by rfl, ?_⟩) (by assumption) ?_
                rotate_left
                · intro w hSw; (try dsimp only at hSw); go_simp; try (with_reducible rfl)
                try simp only [Act.put, List.setIfInBounds_toArray, List.set_cons_zero, List.set_cons_succ]
                refine wpAnyH_take (i := 26) (oi := ⟨some 77, _, _, _, _, _⟩) (v := ?_) rfl (by kernel_rfl) (by kernel_rfl) (by kernel_rfl) (fun _ _ _ h => h) (Or.inl ⟨by rfl, ?_⟩) (by assumption) ?_
                rotate_left
                · intro w hSw; (try dsimp only at hSw); go_simp; try (with_reducible rfl)
                try simp only [Act.put, List.setIfInBounds_toArray, List.set_cons_zero, List.set_cons_succ]
                refine wpAnyH_done (by kernel_rfl) ?_ _
                go_wp2_with fail
                go_meet
                exact ⟨rfl, hJ⟩
            · -- within the new one alone
              simp only [Bool.true_and] at hb6
              subst hb6
              simp only [Bool.false_or, Bool.true_or] at hb5
              subst hb5
              have hJ := QS.drew q10
              refine wp_region_held_drew (S := (fun w' => w'.cell? ⟨w.heap.size, 0, none⟩ = some (.int .u32 (v 0)) ∧ w'.cell? ⟨w.heap.size, 1, none⟩ = some (.int .u32 (v 1)) ∧ w'.cell? ⟨w.heap.size, 2, none⟩ = some (.int .u32 (v 2)) ∧ w'.cell? ⟨w.heap.size, 3, none⟩ = some (.int .u32 (v 3)) ∧ w'.cell? ⟨w.heap.size, 4, none⟩ = some (.int .u32 (v 4)) ∧ w'.cell? ⟨w.heap.size, 5, none⟩ = some (.int .u32 (v 5)) ∧ w'.cell? ⟨w.heap.size, 6, none⟩ = some (.int .u32 (v 6)) ∧ w'.cell? ⟨w.heap.size, 7, none⟩ = some (.int .u32 (v 7)) ∧ w'.cell? ⟨g, 0, none⟩ = some (.int .u32 (u 0)) ∧ w'.cell? ⟨g, 1, none⟩ = some (.int .u32 (u 1)) ∧ w'.cell? ⟨g, 2, none⟩ = some (.int .u32 (u 2)) ∧ w'.cell? ⟨g, 3, none⟩ = some (.int .u32 (u 3)) ∧ w'.cell? ⟨g, 4, none⟩ = some (.int .u32 (u 4)) ∧ w'.cell? ⟨g, 5, none⟩ = some (.int .u32 (u 5)) ∧ w'.cell? ⟨g, 6, none⟩ = some (.int .u32 (u 6)) ∧ w'.cell? ⟨g, 7, none⟩ = some (.int .u32 (u 7)) ∧ w'.cell? ⟨w.heap.size + 1, 0, none⟩ = some (.int .i64 o) ∧ w'.cell? ⟨w.heap.size + 1, 1, none⟩ = some (.int .u32 q) ∧ QS w o q [(g, u), (w.heap.size, v)] [(al9, nR, cap9, R), (al4, nA, cap4, A)] w')) (by kernel_rfl) (QS.all2 n2 n1 (QS.drew q10)) (fun hHeld => ?_)
              refine wpAnyH_take (i := 0) (oi := ⟨some 51, _, _, _, _, _⟩) (v := ?_) rfl (by kernel_rfl) (by kernel_rfl) (by kernel_rfl) (fun _ _ _ h => h) (Or.inl ⟨by rfl, ?_⟩) (by assumption) ?_
              rotate_left
              · intro w hSw; (try dsimp only at hSw); go_simp; try (with_reducible rfl)
              try simp only [Act.put, List.setIfInBounds_toArray, List.set_cons_zero, List.set_cons_succ]
              refine wpAnyH_take (i := 1) (oi := ⟨some 52, _, _, _, _, _⟩) (v := ?_) rfl (by kernel_rfl) (by kernel_rfl) (by kernel_rfl) (fun _ _ _ h => h) (Or.inl ⟨by rfl, ?_⟩) (by assumption) ?_
              rotate_left
              · intro w hSw; (try dsimp only at hSw); go_simp; try (with_reducible rfl)
              try simp only [Act.put, List.setIfInBounds_toArray, List.set_cons_zero, List.set_cons_succ]
              refine wpAnyH_take (i := 8) (oi := ⟨some 59, _, _, _, _, _⟩) (v := ?_) rfl (by kernel_rfl) (by kernel_rfl) (by kernel_rfl) (fun _ _ _ h => h) (Or.inl ⟨by rfl, ?_⟩) (by assumption) ?_
              rotate_left
              · intro w hSw; (try dsimp only at hSw); go_simp; try (with_reducible rfl)
              try simp only [Act.put, List.setIfInBounds_toArray, List.set_cons_zero, List.set_cons_succ]
              refine wpAnyH_take (i := 9) (oi := ⟨some 60, _, _, _, _, _⟩) (v := ?_) rfl (by kernel_rfl) (by kernel_rfl) (by kernel_rfl) (fun _ _ _ h => h) (Or.inl ⟨by rfl, ?_⟩) (by assumption) ?_
              rotate_left
              · intro w hSw; (try dsimp only at hSw); go_simp; try (with_reducible rfl)
              try simp only [Act.put, List.setIfInBounds_toArray, List.set_cons_zero, List.set_cons_succ]
              refine wpAnyH_ready (rs := [2]) (by kernel_rfl) (by simp) ?_
              refine AllReadyH.cons (o := ⟨some 53, _, _, _, _, _⟩) rfl (fun K hK => ?_) AllReadyH.nil
              go_simp
              go_at_call 27
              refine (vhas_QS (w0 := w) (o := o) (q := q) (Bs := [(g, u), (w.heap.size, v)]) (Rs := [(al9, nR, cap9, R), (al4, nA, cap4, A)]) v o q _ TV.out (by first | (with_reducible assumption) | exact QS.held2 (by assumption))).mono ?_
              clear hJ
              rintro e wh ⟨rfl, hJ⟩
              go_wp2_with fail
              refine hK.out _ _ (QS.all2 n2 n1 hJ) (fun hHeld => ?_)
              clear hK K
              try simp only [Act.put, List.setIfInBounds_toArray, List.set_cons_zero, List.set_cons_succ]
              refine wpAnyH_take (i := 3) (oi := ⟨some 54, _, _, _, _, _⟩) (v := ?_) rfl (by kernel_rfl) (by kernel_rfl) (by kernel_rfl) (fun _ _ _ h => h) (Or.inl ⟨by rfl, ?_⟩) (by assumption) ?_
              rotate_left
              · intro w hSw; (try dsimp only at hSw); go_simp; try (with_reducible rfl)
              try simp only [Act.put, List.setIfInBounds_toArray, List.set_cons_zero, List.set_cons_succ]
              refine wpAnyH_take (i := 4) (oi := ⟨some 55, _, _, _, _, _⟩) (v := ?_) rfl (by kernel_rfl) (by kernel_rfl) (by kernel_rfl) (fun _ _ _ h => h) (Or.inl ⟨by rfl, ?_⟩) (by assumption) ?_
              rotate_left
              · intro w hSw; (try dsimp only at hSw); go_simp; try (with_reducible rfl)
              try simp only [Act.put, List.setIfInBounds_toArray, List.set_cons_zero, List.set_cons_succ]
              refine wpAnyH_take (i := 5) (oi := ⟨some 56, _, _, _, _, _⟩) (v := ?_) rfl (by kernel_rfl) (by kernel_rfl) (by kernel_rfl) (fun _ _ _ h => h) (Or.inl ⟨by rfl, ?_⟩) (by assumption) ?_
              rotate_left
              · intro w hSw; (try dsimp only at hSw); go_simp; try (with_reducible rfl)
              try simp only [Act.put, List.setIfInBounds_toArray, List.set_cons_zero, List.set_cons_succ]
              refine wpAnyH_ready (rs := [6]) (by kernel_rfl) (by simp) ?_
              refine AllReadyH.cons (o := ⟨some 57, _, _, _, _, _⟩) rfl (fun K hK => ?_) AllReadyH.nil
              go_simp
              go_at_call 15
              refine (shas_QS (w0 := w) (o := o) (q := q) (Bs := [(g, u), (w.heap.size, v)]) (Rs := [(al9, nR, cap9, R), (al4, nA, cap4, A)]) al4 nA cap4 A o q _ HMA.out TA.out (by first | (with_reducible assumption) | exact QS.held2 (by assumption))).mono ?_
              clear hJ
              rintro e wh ⟨rfl, hJ⟩
              go_wp2_with fail
              refine hK.out _ _ (QS.all2 n2 n1 hJ) (fun hHeld => ?_)
              clear hK K
              try simp only [Act.put, List.setIfInBounds_toArray, List.set_cons_zero, List.set_cons_succ]
              refine wpAnyH_take (i := 7) (oi := ⟨some 58, _, _, _, _, _⟩) (v := ?_) rfl (by kernel_rfl) (by kernel_rfl) (by kernel_rfl) (fun _ _ _ h => h) (Or.inl ⟨by rfl, ?_⟩) (by assumption) ?_
              rotate_left
              · intro w hSw; (try dsimp only at hSw); go_simp; try (with_reducible rfl)
              try simp only [Act.put, List.setIfInBounds_toArray, List.set_cons_zero, List.set_cons_succ]
              refine wpAnyH_ready (rs := [10]) (by kernel_rfl) (by simp) ?_
              refine AllReadyH.cons (o := ⟨some 61, _, _, _, _, _⟩) rfl (fun K hK => ?_) AllReadyH.nil
              go_simp
              go_at_call 27
              refine (vhas_QS (w0 := w) (o := o) (q := q) (Bs := [(g, u), (w.heap.size, v)]) (Rs := [(al9, nR, cap9, R), (al4, nA, cap4, A)]) u o q _ TU.out (by first | (with_reducible assumption) | exact QS.held2 (by assumption))).mono ?_
              clear hJ
              rintro e wh ⟨rfl, hJ⟩
              go_wp2_with fail
              refine hK.out _ _ (QS.all2 n2 n1 hJ) (fun hHeld => ?_)
              clear hK K
              try simp only [Act.put, List.setIfInBounds_toArray, List.set_cons_zero, List.set_cons_succ]
              refine wpAnyH_take (i := 11) (oi := ⟨some 62, _, _, _, _, _⟩) (v := ?_) rfl (by kernel_rfl) (by kernel_rfl) (by kernel_rfl) (fun _ _ _ h => h) (Or.inl ⟨by rfl, ?_⟩) (by assumption) ?_
              rotate_left
              · intro w hSw; (try dsimp only at hSw); go_simp; try (with_reducible rfl)
              try simp only [Act.put, List.setIfInBounds_toArray, List.set_cons_zero, List.set_cons_succ]
              refine wpAnyH_take (i := 12) (oi := ⟨some 63, _, _, _, _, _⟩) (v := _) rfl (by kernel_rfl) (by kernel_rfl) (by kernel_rfl) (fun _ _ _ h => h) (Or.inr ⟨by rfl, rfl⟩) (by assumption) ?_
              try simp only [Act.put, List.setIfInBounds_toArray, List.set_cons_zero, List.set_cons_succ]
              refine wpAnyH_take (i := 13) (oi := ⟨some 64, _, _, _, _, _⟩) (v := _) rfl (by kernel_rfl) (by kernel_rfl) (by kernel_rfl) (fun _ _ _ h => h) (Or.inr ⟨by rfl, rfl⟩) (by assumption) ?_
              try simp only [Act.put, List.setIfInBounds_toArray, List.set_cons_zero, List.set_cons_succ]
              refine wpAnyH_take (i := 14) (oi := ⟨some 65, _, _, _, _, _⟩) (v := _) rfl (by kernel_rfl) (by kernel_rfl) (by kernel_rfl) (fun _ _ _ h => h) (Or.inr ⟨by rfl, rfl⟩) (by assumption) ?_
              try simp only [Act.put, List.setIfInBounds_toArray, List.set_cons_zero, List.set_cons_succ]
              refine wpAnyH_take (i := 15) (oi := ⟨some 66, _, _, _, _, _⟩) (v := ?_) rfl (by kernel_rfl) (by kernel_rfl) (by kernel_rfl) (fun _ _ _ h => h) (Or.inl ⟨by rfl, ?_⟩) (by assumption) ?_
              rotate_left
              · intro w hSw; (try dsimp only at hSw); go_simp; try (with_reducible rfl)
              try simp only [Act.put, List.setIfInBounds_toArray, List.set_cons_zero, List.set_cons_succ]
              refine wpAnyH_take (i := 16) (oi := ⟨some 67, _, _, _, _, _⟩) (v := ?_) rfl (by kernel_rfl) (by kernel_rfl) (by kernel_rfl) (fun _ _ _ h => h) (Or.inl ⟨by rfl, ?_⟩) (by assumption) ?_
              rotate_left
              · intro w hSw; (try dsimp only at hSw); go_simp; try (with_reducible rfl)
              try simp only [Act.put, List.setIfInBounds_toArray, List.set_cons_zero, List.set_cons_succ]
              refine wpAnyH_take (i := 17) (oi := ⟨some 68, _, _, _, _, _⟩) (v := ?_) rfl (by kernel_rfl) (by kernel_rfl) (by kernel_rfl) (fun _ _ _ h => h) (Or.inl ⟨by rfl, ?_⟩) (by assumption) ?_
              rotate_left
              · intro w hSw; (try dsimp only at hSw); go_simp; try (with_reducible rfl)
              try simp only [Act.put, List.setIfInBounds_toArray, List.set_cons_zero, List.set_cons_succ]
              refine wpAnyH_take (i := 18) (oi := ⟨some 69, _, _, _, _, _⟩) (v := ?_) rfl (by kernel_rfl) (by kernel_rfl) (by kernel_rfl) (fun _ _ _ h => h) (Or.inl ⟨by rfl, ?_⟩) (by assumption) ?_
              rotate_left
              · intro w hSw; (try dsimp only at hSw); go_simp; try (with_reducible rfl)
              try simp only [Act.put, List.setIfInBounds_toArray, List.set_cons_zero, List.set_cons_succ]
              refine wpAnyH_take (i := 19) (oi := ⟨some 70, _, _, _, _, _⟩) (v := ?_) rfl (by kernel_rfl) (by kernel_rfl) (by kernel_rfl) (fun _ _ _ h => h) (Or.inl ⟨by rfl, ?_⟩) (by assumption) ?_
              rotate_left
              · intro w hSw; (try dsimp only at hSw); go_simp; try (with_reducible rfl)
              try simp only [Act.put, List.setIfInBounds_toArray, List.set_cons_zero, List.set_cons_succ]
              refine wpAnyH_ready (rs := [20]) (by kernel_rfl) (by simp) ?_
              refine AllReadyH.cons (o := ⟨some 71, _, _, _, _, _⟩) rfl (fun K hK => ?_) AllReadyH.nil
              go_simp
              go_at_call 27
              refine (vhas_QS (w0 := w) (o := o) (q := q) (Bs := [(g, u), (w.heap.size, v)]) (Rs := [(al9, nR, cap9, R), (al4, nA, cap4, A)]) u o q _ TU.out (by first | (with_reducible assumption) | exact QS.held2 (by assumption))).mono ?_
              clear hJ
              rintro e wh ⟨rfl, hJ⟩
              go_wp2_with fail
              refine hK.out _ _ (QS.all2 n2 n1 hJ) (fun hHeld => ?_)
              clear hK K
              try simp only [Act.put, List.setIfInBounds_toArray, List.set_cons_zero, List.set_cons_succ]
              refine wpAnyH_take (i := 21) (oi := ⟨some 72, _, _, _, _, _⟩) (v := ?_) rfl (by kernel_rfl) (by kernel_rfl) (by kernel_rfl) (fun _ _ _ h => h) (Or.inl ⟨by rfl, ?_⟩) (by assumption) ?_
              rotate_left
              · intro w hSw; (try dsimp only at hSw); go_simp; try (with_reducible rfl)
              try simp only [Act.put, List.setIfInBounds_toArray, List.set_cons_zero, List.set_cons_succ]
              refine wpAnyH_take (i := 22) (oi := ⟨some 73, _, _, _, _, _⟩) (v := ?_) rfl (by kernel_rfl) (by kernel_rfl) (by kernel_rfl) (fun _ _ _ h => h) (Or.inl ⟨by rfl, ?_⟩) (by assumption) ?_
              rotate_left
              · intro w hSw; (try dsimp only at hSw); go_simp; try (with_reducible rfl)
              try simp only [Act.put, List.setIfInBounds_toArray, List.set_cons_zero, List.set_cons_succ]
              refine wpAnyH_take (i := 23) (oi := ⟨some 74, _, _, _, _, _⟩) (v := ?_) rfl (by kernel_rfl) (by kernel_rfl) (by kernel_rfl) (fun _ _ _ h => h) (Or.inl ⟨by rfl, ?_⟩) (by assumption) ?_
              rotate_left
              · intro w hSw; (try dsimp only at hSw); go_simp; try (with_reducible rfl)
              try simp only [Act.put, List.setIfInBounds_toArray, List.set_cons_zero, List.set_cons_succ]
              refine wpAnyH_ready (rs := [24]) (by kernel_rfl) (by simp) ?_
              refine AllReadyH.cons (o := ⟨some 75, _, _, _, _, _⟩) rfl (fun K hK => ?_) AllReadyH.nil
              go_simp
              go_at_call 15
              refine (shas_QS (w0 := w) (o := o) (q := q) (Bs := [(g, u), (w.heap.size, v)]) (Rs := [(al9, nR, cap9, R), (al4, nA, cap4, A)]) al9 nR cap9 R o q _ HMR.out TR.out (by first | (with_reducible assumption) | exact QS.held2 (by assumption))).mono ?_
              clear hJ
              rintro e wh ⟨rfl, hJ⟩
              go_wp2_with fail
              refine hK.out _ _ (QS.all2 n2 n1 hJ) (fun hHeld => ?_)
              clear hK K
              try simp only [Act.put, List.setIfInBounds_toArray, List.set_cons_zero, List.set_cons_succ]
              refine wpAnyH_take (i := 25) (oi := ⟨some 76, _, _, _, _, _⟩) (v := ?_) rfl (by kernel_rfl) (by kernel_rfl) (by kernel_rfl) (fun _ _ _ h => h) (Or.inl ⟨by rfl, ?_⟩) (by assumption) ?_
              rotate_left
              · intro w hSw; (try dsimp only at hSw); go_simp; try (with_reducible rfl)
              try simp only [Act.put, List.setIfInBounds_toArray, List.set_cons_zero, List.set_cons_succ]
              refine wpAnyH_take (i := 26) (oi := ⟨some 77, _, _, _, _, _⟩) (v := ?_) rfl (by kernel_rfl) (by kernel_rfl) (by kernel_rfl) (fun _ _ _ h => h) (Or.inl ⟨by rfl, ?_⟩) (by assumption) ?_
              rotate_left
              · intro w hSw; (try dsimp only at hSw); go_simp; try (with_reducible rfl)
              try simp only [Act.put, List.setIfInBounds_toArray, List.set_cons_zero, List.set_cons_succ]
              refine wpAnyH_done (by kernel_rfl) ?_ _
              go_wp2_with fail
              go_meet
              exact ⟨rfl, hJ⟩
            · -- within both
              simp only [Bool.true_and] at hb6
              subst hb6
              clear hb5
              have hJ := QS.drew q10
              refine wp_region_held_drew (S := (fun w' => w'.cell? ⟨w.heap.size, 0, none⟩ = some (.int .u32 (v 0)) ∧ w'.cell? ⟨w.heap.size, 1, none⟩ = some (.int .u32 (v 1)) ∧ w'.cell? ⟨w.heap.size, 2, none⟩ = some (.int .u32 (v 2)) ∧ w'.cell? ⟨w.heap.size, 3, none⟩ = some (.int .u32 (v 3)) ∧ w'.cell? ⟨w.heap.size, 4, none⟩ = some (.int .u32 (v 4)) ∧ w'.cell? ⟨w.heap.size, 5, none⟩ = some (.int .u32 (v 5)) ∧ w'.cell? ⟨w.heap.size, 6, none⟩ = some (.int .u32 (v 6)) ∧ w'.cell? ⟨w.heap.size, 7, none⟩ = some (.int .u32 (v 7)) ∧ w'.cell? ⟨g, 0, none⟩ = some (.int .u32 (u 0)) ∧ w'.cell? ⟨g, 1, none⟩ = some (.int .u32 (u 1)) ∧ w'.cell? ⟨g, 2, none⟩ = some (.int .u32 (u 2)) ∧ w'.cell? ⟨g, 3, none⟩ = some (.int .u32 (u 3)) ∧ w'.cell? ⟨g, 4, none⟩ = some (.int .u32 (u 4)) ∧ w'.cell? ⟨g, 5, none⟩ = some (.int .u32 (u 5)) ∧ w'.cell? ⟨g, 6, none⟩ = some (.int .u32 (u 6)) ∧ w'.cell? ⟨g, 7, none⟩ = some (.int .u32 (u 7)) ∧ w'.cell? ⟨w.heap.size + 1, 0, none⟩ = some (.int .i64 o) ∧ w'.cell? ⟨w.heap.size + 1, 1, none⟩ = some (.int .u32 q) ∧ QS w o q [(g, u), (w.heap.size, v)] [(al9, nR, cap9, R), (al4, nA, cap4, A)] w')) (by kernel_rfl) (QS.all2 n2 n1 (QS.drew q10)) (fun hHeld => ?_)
              refine wpAnyH_take (i := 0) (oi := ⟨some 51, _, _, _, _, _⟩) (v := ?_) rfl (by kernel_rfl) (by kernel_rfl) (by kernel_rfl) (fun _ _ _ h => h) (Or.inl ⟨by rfl, ?_⟩) (by assumption) ?_
              rotate_left
              · intro w hSw; (try dsimp only at hSw); go_simp; try (with_reducible rfl)
              try simp only [Act.put, List.setIfInBounds_toArray, List.set_cons_zero, List.set_cons_succ]
              refine wpAnyH_take (i := 1) (oi := ⟨some 52, _, _, _, _, _⟩) (v := ?_) rfl (by kernel_rfl) (by kernel_rfl) (by kernel_rfl) (fun _ _ _ h => h) (Or.inl ⟨by rfl, ?_⟩) (by assumption) ?_
              rotate_left
              · intro w hSw; (try dsimp only at hSw); go_simp; try (with_reducible rfl)
              try simp only [Act.put, List.setIfInBounds_toArray, List.set_cons_zero, List.set_cons_succ]
              refine wpAnyH_take (i := 8) (oi := ⟨some 59, _, _, _, _, _⟩) (v := ?_) rfl (by kernel_rfl) (by kernel_rfl) (by kernel_rfl) (fun _ _ _ h => h) (Or.inl ⟨by rfl, ?_⟩) (by assumption) ?_
              rotate_left
              · intro w hSw; (try dsimp only at hSw); go_simp; try (with_reducible rfl)
              try simp only [Act.put, List.setIfInBounds_toArray, List.set_cons_zero, List.set_cons_succ]
              refine wpAnyH_take (i := 9) (oi := ⟨some 60, _, _, _, _, _⟩) (v := ?_) rfl (by kernel_rfl) (by kernel_rfl) (by kernel_rfl) (fun _ _ _ h => h) (Or.inl ⟨by rfl, ?_⟩) (by assumption) ?_
              rotate_left
              · intro w hSw; (try dsimp only at hSw); go_simp; try (with_reducible rfl)
              try simp only [Act.put, List.setIfInBounds_toArray, List.set_cons_zero, List.set_cons_succ]
              refine wpAnyH_ready (rs := [2]) (by kernel_rfl) (by simp) ?_
              refine AllReadyH.cons (o := ⟨some 53, _, _, _, _, _⟩) rfl (fun K hK => ?_) AllReadyH.nil
              go_simp
              go_at_call 27
              refine (vhas_QS (w0 := w) (o := o) (q := q) (Bs := [(g, u), (w.heap.size, v)]) (Rs := [(al9, nR, cap9, R), (al4, nA, cap4, A)]) v o q _ TV.out (by first | (with_reducible assumption) | exact QS.held2 (by assumption))).mono ?_
              clear hJ
              rintro e wh ⟨rfl, hJ⟩
              go_wp2_with fail
              refine hK.out _ _ (QS.all2 n2 n1 hJ) (fun hHeld => ?_)
              clear hK K
              try simp only [Act.put, List.setIfInBounds_toArray, List.set_cons_zero, List.set_cons_succ]
              refine wpAnyH_take (i := 3) (oi := ⟨some 54, _, _, _, _, _⟩) (v := ?_) rfl (by kernel_rfl) (by kernel_rfl) (by kernel_rfl) (fun _ _ _ h => h) (Or.inl ⟨by rfl, ?_⟩) (by assumption) ?_
              rotate_left
              · intro w hSw; (try dsimp only at hSw); go_simp; try (with_reducible rfl)
              try simp only [Act.put, List.setIfInBounds_toArray, List.set_cons_zero, List.set_cons_succ]
              refine wpAnyH_take (i := 4) (oi := ⟨some 55, _, _, _, _, _⟩) (v := _) rfl (by kernel_rfl) (by kernel_rfl) (by kernel_rfl) (fun _ _ _ h => h) (Or.inr ⟨by rfl, rfl⟩) (by assumption) ?_
              try simp only [Act.put, List.setIfInBounds_toArray, List.set_cons_zero, List.set_cons_succ]
              refine wpAnyH_take (i := 5) (oi := ⟨some 56, _, _, _, _, _⟩) (v := _) rfl (by kernel_rfl) (by kernel_rfl) (by kernel_rfl) (fun _ _ _ h => h) (Or.inr ⟨by rfl, rfl⟩) (by assumption) ?_
              try simp only [Act.put, List.setIfInBounds_toArray, List.set_cons_zero, List.set_cons_succ]
              refine wpAnyH_take (i := 6) (oi := ⟨some 57, _, _, _, _, _⟩) (v := _) rfl (by kernel_rfl) (by kernel_rfl) (by kernel_rfl) (fun _ _ _ h => h) (Or.inr ⟨by rfl, rfl⟩) (by assumption) ?_
              try simp only [Act.put, List.setIfInBounds_toArray, List.set_cons_zero, List.set_cons_succ]
              refine wpAnyH_take (i := 7) (oi := ⟨some 58, _, _, _, _, _⟩) (v := ?_) rfl (by kernel_rfl) (by kernel_rfl) (by kernel_rfl) (fun _ _ _ h => h) (Or.inl ⟨by rfl, ?_⟩) (by assumption) ?_
              rotate_left
              · intro w hSw; (try dsimp only at hSw); go_simp; try (with_reducible rfl)
              try simp only [Act.put, List.setIfInBounds_toArray, List.set_cons_zero, List.set_cons_succ]
              refine wpAnyH_ready (rs := [10]) (by kernel_rfl) (by simp) ?_
              refine AllReadyH.cons (o := ⟨some 61, _, _, _, _, _⟩) rfl (fun K hK => ?_) AllReadyH.nil
              go_simp
              go_at_call 27
              refine (vhas_QS (w0 := w) (o := o) (q := q) (Bs := [(g, u), (w.heap.size, v)]) (Rs := [(al9, nR, cap9, R), (al4, nA, cap4, A)]) u o q _ TU.out (by first | (with_reducible assumption) | exact QS.held2 (by assumption))).mono ?_
              clear hJ
              rintro e wh ⟨rfl, hJ⟩
              go_wp2_with fail
              refine hK.out _ _ (QS.all2 n2 n1 hJ) (fun hHeld => ?_)
              clear hK K
              try simp only [Act.put, List.setIfInBounds_toArray, List.set_cons_zero, List.set_cons_succ]
              refine wpAnyH_take (i := 11) (oi := ⟨some 62, _, _, _, _, _⟩) (v := ?_) rfl (by kernel_rfl) (by kernel_rfl) (by kernel_rfl) (fun _ _ _ h => h) (Or.inl ⟨by rfl, ?_⟩) (by assumption) ?_
              rotate_left
              · intro w hSw; (try dsimp only at hSw); go_simp; try (with_reducible rfl)
              try simp only [Act.put, List.setIfInBounds_toArray, List.set_cons_zero, List.set_cons_succ]
              refine wpAnyH_take (i := 12) (oi := ⟨some 63, _, _, _, _, _⟩) (v := _) rfl (by kernel_rfl) (by kernel_rfl) (by kernel_rfl) (fun _ _ _ h => h) (Or.inr ⟨by rfl, rfl⟩) (by assumption) ?_
              try simp only [Act.put, List.setIfInBounds_toArray, List.set_cons_zero, List.set_cons_succ]
              refine wpAnyH_take (i := 13) (oi := ⟨some 64, _, _, _, _, _⟩) (v := _) rfl (by kernel_rfl) (by kernel_rfl) (by kernel_rfl) (fun _ _ _ h => h) (Or.inr ⟨by rfl, rfl⟩) (by assumption) ?_
              try simp only [Act.put, List.setIfInBounds_toArray, List.set_cons_zero, List.set_cons_succ]
              refine wpAnyH_take (i := 14) (oi := ⟨some 65, _, _, _, _, _⟩) (v := _) rfl (by kernel_rfl) (by kernel_rfl) (by kernel_rfl) (fun _ _ _ h => h) (Or.inr ⟨by rfl, rfl⟩) (by assumption) ?_
              try simp only [Act.put, List.setIfInBounds_toArray, List.set_cons_zero, List.set_cons_succ]
              refine wpAnyH_take (i := 15) (oi := ⟨some 66, _, _, _, _, _⟩) (v := ?_) rfl (by kernel_rfl) (by kernel_rfl) (by kernel_rfl) (fun _ _ _ h => h) (Or.inl ⟨by rfl, ?_⟩) (by assumption) ?_
              rotate_left
              · intro w hSw; (try dsimp only at hSw); go_simp; try (with_reducible rfl)
              try simp only [Act.put, List.setIfInBounds_toArray, List.set_cons_zero, List.set_cons_succ]
              refine wpAnyH_take (i := 16) (oi := ⟨some 67, _, _, _, _, _⟩) (v := ?_) rfl (by kernel_rfl) (by kernel_rfl) (by kernel_rfl) (fun _ _ _ h => h) (Or.inl ⟨by rfl, ?_⟩) (by assumption) ?_
              rotate_left
              · intro w hSw; (try dsimp only at hSw); go_simp; try (with_reducible rfl)
              try simp only [Act.put, List.setIfInBounds_toArray, List.set_cons_zero, List.set_cons_succ]
              refine wpAnyH_take (i := 17) (oi := ⟨some 68, _, _, _, _, _⟩) (v := ?_) rfl (by kernel_rfl) (by kernel_rfl) (by kernel_rfl) (fun _ _ _ h => h) (Or.inl ⟨by rfl, ?_⟩) (by assumption) ?_
              rotate_left
              · intro w hSw; (try dsimp only at hSw); go_simp; try (with_reducible rfl)
              try simp only [Act.put, List.setIfInBounds_toArray, List.set_cons_zero, List.set_cons_succ]
              refine wpAnyH_take (i := 18) (oi := ⟨some 69, _, _, _, _, _⟩) (v := ?_) rfl (by kernel_rfl) (by kernel_rfl) (by kernel_rfl) (fun _ _ _ h => h) (Or.inl ⟨by rfl, ?_⟩) (by assumption) ?_
              rotate_left
              · intro w hSw; (try dsimp only at hSw); go_simp; try (with_reducible rfl)
              try simp only [Act.put, List.setIfInBounds_toArray, List.set_cons_zero, List.set_cons_succ]
              refine wpAnyH_take (i := 19) (oi := ⟨some 70, _, _, _, _, _⟩) (v := ?_) rfl (by kernel_rfl) (by kernel_rfl) (by kernel_rfl) (fun _ _ _ h => h) (Or.inl ⟨by rfl, ?_⟩) (by assumption) ?_
              rotate_left
              · intro w hSw; (try dsimp only at hSw); go_simp; try (with_reducible rfl)
              try simp only [Act.put, List.setIfInBounds_toArray, List.set_cons_zero, List.set_cons_succ]
              refine wpAnyH_ready (rs := [20]) (by kernel_rfl) (by simp) ?_
              refine AllReadyH.cons (o := ⟨some 71, _, _, _, _, _⟩) rfl (fun K hK => ?_) AllReadyH.nil
              go_simp
              go_at_call 27
              refine (vhas_QS (w0 := w) (o := o) (q := q) (Bs := [(g, u), (w.heap.size, v)]) (Rs := [(al9, nR, cap9, R), (al4, nA, cap4, A)]) u o q _ TU.out (by first | (with_reducible assumption) | exact QS.held2 (by assumption))).mono ?_
              clear hJ
              rintro e wh ⟨rfl, hJ⟩
              go_wp2_with fail
              refine hK.out _ _ (QS.all2 n2 n1 hJ) (fun hHeld => ?_)
              clear hK K
              try simp only [Act.put, List.setIfInBounds_toArray, List.set_cons_zero, List.set_cons_succ]
              refine wpAnyH_take (i := 21) (oi := ⟨some 72, _, _, _, _, _⟩) (v := ?_) rfl (by kernel_rfl) (by kernel_rfl) (by kernel_rfl) (fun _ _ _ h => h) (Or.inl ⟨by rfl, ?_⟩) (by assumption) ?_
              rotate_left
              · intro w hSw; (try dsimp only at hSw); go_simp; try (with_reducible rfl)
              try simp only [Act.put, List.setIfInBounds_toArray, List.set_cons_zero, List.set_cons_succ]
              refine wpAnyH_take (i := 22) (oi := ⟨some 73, _, _, _, _, _⟩) (v := ?_) rfl (by kernel_rfl) (by kernel_rfl) (by kernel_rfl) (fun _ _ _ h => h) (Or.inl ⟨by rfl, ?_⟩) (by assumption) ?_
              rotate_left
              · intro w hSw; (try dsimp only at hSw); go_simp; try (with_reducible rfl)
              try simp only [Act.put, List.setIfInBounds_toArray, List.set_cons_zero, List.set_cons_succ]
              refine wpAnyH_take (i := 23) (oi := ⟨some 74, _, _, _, _, _⟩) (v := ?_) rfl (by kernel_rfl) (by kernel_rfl) (by kernel_rfl) (fun _ _ _ h => h) (Or.inl ⟨by rfl, ?_⟩) (by assumption) ?_
              rotate_left
              · intro w hSw; (try dsimp only at hSw); go_simp; try (with_reducible rfl)
              try simp only [Act.put, List.setIfInBounds_toArray, List.set_cons_zero, List.set_cons_succ]
              refine wpAnyH_ready (rs := [24]) (by kernel_rfl) (by simp) ?_
              refine AllReadyH.cons (o := ⟨some 75, _, _, _, _, _⟩) rfl (fun K hK => ?_) AllReadyH.nil
              go_simp
              go_at_call 15
              refine (shas_QS (w0 := w) (o := o) (q := q) (Bs := [(g, u), (w.heap.size, v)]) (Rs := [(al9, nR, cap9, R), (al4, nA, cap4, A)]) al9 nR cap9 R o q _ HMR.out TR.out (by first | (with_reducible assumption) | exact QS.held2 (by assumption))).mono ?_
              clear hJ
              rintro e wh ⟨rfl, hJ⟩
              go_wp2_with fail
              refine hK.out _ _ (QS.all2 n2 n1 hJ) (fun hHeld => ?_)
              clear hK K
              try simp only [Act.put, List.setIfInBounds_toArray, List.set_cons_zero, List.set_cons_succ]
              refine wpAnyH_take (i := 25) (oi := ⟨some 76, _, _, _, _, _⟩) (v := ?_) rfl (by kernel_rfl) (by kernel_rfl) (by kernel_rfl) (fun _ _ _ h => h) (Or.inl ⟨by rfl, ?_⟩) (by assumption) ?_
              rotate_left
              · intro w hSw; (try dsimp only at hSw); go_simp; try (with_reducible rfl)
              try simp only [Act.put, List.setIfInBounds_toArray, List.set_cons_zero, List.set_cons_succ]
              refine wpAnyH_take (i := 26) (oi := ⟨some 77, _, _, _, _, _⟩) (v := ?_) rfl (by kernel_rfl) (by kernel_rfl) (by kernel_rfl) (fun _ _ _ h => h) (Or.inl ⟨by rfl, ?_⟩) (by assumption) ?_
              rotate_left
              · intro w hSw; (try dsimp only at hSw); go_simp; try (with_reducible rfl)
              try simp only [Act.put, List.setIfInBounds_toArray, List.set_cons_zero, List.set_cons_succ]
              refine wpAnyH_done (by kernel_rfl) ?_ _
              go_wp2_with fail
              go_meet
              exact ⟨rfl, hJ⟩
          case rest =>
            obtain ⟨rfl, hQ11⟩ := hcut
            have HQ11 := Lib.hid hQ11
            clear hQ11 q10 HB5 HB6 HMO TV TA TU TR
            go_wp2
            go_loopw [12] (fun s12 wr => ∃ k : Nat, s12 = .int .i64 k ∧ k ≤ nR ∧ QS w o q [(g, u), (w.heap.size, v)] [(al9, nR, cap9, R), (al4, nA, cap4, A)] wr) (fun s12 _ => nR - (intOf s12).toNat)
            case atStart => exact ⟨0, rfl, by omega, HQ11.out⟩
            case round =>
              obtain ⟨k, rfl, hk, hq⟩ := hrel
              have HQR := Lib.hid hq; clear hq
              have lr := HQR.out.lt
              have lg := HQR.out.lt1 n1
              have lv := HQR.out.lt1 n2
              by_cases hkl : k < nR
              · obtain ⟨b, off, x, y, hal, hx, i0, i1⟩ := (HQR.out.get HMR.out).nth k hkl
                have HTK := Lib.hid (G7.out k x y hx)
                have HK : QK w o q [(g, u), (w.heap.size, v)] [(al9, nR, cap9, R), (al4, nA, cap4, A)] b (off + k * 2) x y wr := ⟨HQR.out, i0, i1⟩
                clear hx i0 i1 HRM HU HR HNR
                subst hal
                go_wp2_with fail
                go_region_held3 (fun w' => w'.cell? ⟨g, 0, none⟩ = some (.int .u32 (u 0)) ∧ w'.cell? ⟨g, 1, none⟩ = some (.int .u32 (u 1)) ∧ w'.cell? ⟨g, 2, none⟩ = some (.int .u32 (u 2)) ∧ w'.cell? ⟨g, 3, none⟩ = some (.int .u32 (u 3)) ∧ w'.cell? ⟨g, 4, none⟩ = some (.int .u32 (u 4)) ∧ w'.cell? ⟨g, 5, none⟩ = some (.int .u32 (u 5)) ∧ w'.cell? ⟨g, 6, none⟩ = some (.int .u32 (u 6)) ∧ w'.cell? ⟨g, 7, none⟩ = some (.int .u32 (u 7)) ∧ w'.cell? ⟨b, off + k * 2, none⟩ = some (.int .i64 x) ∧ w'.cell? ⟨b, off + k * 2 + 1, none⟩ = some (.int .u32 y) ∧ QK w o q [(g, u), (w.heap.size, v)] [(some ⟨b, off, none⟩, nR, cap9, R), (al4, nA, cap4, A)] b (off + k * 2) x y w') (exact QK.all n1 (by repeat (first | (with_reducible assumption) | (with_reducible exact HK) | (with_reducible refine QK.alloc ?_ _) | (with_reducible refine QK.drew ?_) | (with_reducible refine QK.set8 _ ?_ (by repeat (first | (with_reducible exact Blk.new _ _ _) | (with_reducible refine Blk.alloc ?_ _) | (with_reducible refine Blk.drew1 ?_) | (with_reducible refine Kept.blk hkj ?_) )) (by omega) (by simp; omega))))) (first | (go_at_call 28; refine (take_QK (w0 := w) (o := o) (q := q) (Bs := [(g, u), (w.heap.size, v)]) (Rs := [(some ⟨b, off, none⟩, nR, cap9, R), (al4, nA, cap4, A)]) (b := b) (p := off + k * 2) (x := x) (y := y) u z x y 17 G3.out HTK.out (by first | (with_reducible assumption) | exact QK.held (by assumption))).mono ?_; rintro e wj ⟨rfl, hJ, hkj⟩; have cj := hkj.cell; have fj := hkj.free; have zj := hkj.lt; (first | (have y1 : wr.heap.size < wj.heap.size := zj _ (by first | (with_reducible assumption) | omega | (simp; done) | (simp; omega))) | skip)))
                all_goals
                  go_wp2
                  go_roundw
                  case rel =>
                    refine ⟨k + 1, by go_num, by omega, ?_⟩
                    first | (with_reducible exact QS.alloc hJ.s _) | ((with_reducible refine QS.set8 _ hJ.s ?_ ?_ ?_); exact (by repeat (first | (with_reducible exact Blk.new _ _ _) | (with_reducible refine Blk.alloc ?_ _) | (with_reducible refine Blk.drew1 ?_) | (with_reducible refine Kept.blk hkj ?_) )); omega; exact (by simp; omega))
                  case measure => simp [intOf]; omega
              · have hkk : (nR : Int) ≤ k := by omega
                have qr := HQR.out
                clear HRM HU HR HNR G7 G2 HMA
                go_upto_region 19 with fail
                go_cut [15, 16, 17] (fun s15 s16 s17 wx => ∃ (g2 : Nat) (alB : Option Addr) (capB : Nat), s15 = .pointer (some ⟨g2, 0, none⟩) ∧ s16 = .slice alB nR capB ∧ s17 = .int .i64 0 ∧ Ids wx alB nR capB R ∧ QS w o q [(g2, u), (g, u), (w.heap.size, v)] [(al9, nR, cap9, R), (al4, nA, cap4, A)] wx)
                case first =>
                  go_region_held3 (fun w' => w'.cell? ⟨g, 0, none⟩ = some (.int .u32 (u 0)) ∧ w'.cell? ⟨g, 1, none⟩ = some (.int .u32 (u 1)) ∧ w'.cell? ⟨g, 2, none⟩ = some (.int .u32 (u 2)) ∧ w'.cell? ⟨g, 3, none⟩ = some (.int .u32 (u 3)) ∧ w'.cell? ⟨g, 4, none⟩ = some (.int .u32 (u 4)) ∧ w'.cell? ⟨g, 5, none⟩ = some (.int .u32 (u 5)) ∧ w'.cell? ⟨g, 6, none⟩ = some (.int .u32 (u 6)) ∧ w'.cell? ⟨g, 7, none⟩ = some (.int .u32 (u 7)) ∧ QS w o q [(g, u), (w.heap.size, v)] [(al9, nR, cap9, R), (al4, nA, cap4, A)] w') (exact QS.all1 n1 (by repeat (first | (with_reducible assumption) | (with_reducible exact qr) | (with_reducible refine QS.alloc ?_ _) | (with_reducible refine QS.drew ?_) | (with_reducible refine QS.set8 _ ?_ (by repeat (first | (with_reducible exact Blk.new _ _ _) | (with_reducible refine Blk.alloc ?_ _) | (with_reducible refine Blk.drew1 ?_) | (with_reducible refine Kept.blk hkf ?_) | (with_reducible refine Kept.blk hko ?_) )) (by omega) (by simp; omega))))) (first | (go_at_call 9; refine (own_QS (w0 := w) (o := o) (q := q) (Bs := [(g, u), (w.heap.size, v)]) (Rs := [(al9, nR, cap9, R), (al4, nA, cap4, A)]) al9 nR cap9 R HMR.out (by omega) (by first | (with_reducible assumption) | exact QS.held1 (by assumption))).mono ?_; rintro e wo ⟨alo, capo, rfl, hIo, hJo, hko⟩; have co := hko.cell; have fo := hko.free; have zo := hko.lt; have lo := QS.lt hJo; have lo1 := QS.lt1 hJo n1; have lo2 := QS.lt1 hJo n2; (first | (have yo : wr.heap.size < wo.heap.size := zo _ (by first | (with_reducible assumption) | omega | (simp; done) | (simp; omega))) | skip)) | (go_at_call 25; refine (fold_QS (w0 := w) (o := o) (q := q) (Bs := [(g, u), (w.heap.size, v)]) (Rs := [(al9, nR, cap9, R), (al4, nA, cap4, A)]) alo nR capo R u u R nR G3.out G8.out G9.out G10.out HNRR.out (by repeat (first | (with_reducible assumption) | (with_reducible refine ids_drew ?_) | (with_reducible refine ids_alloc ?_ _))) (by first | (with_reducible assumption) | exact QS.held1 (by assumption))).mono ?_; rintro e wf ⟨alB, capB, rfl, hIf, hJf, hkf⟩; have cf := hkf.cell; have ff := hkf.free; have zf := hkf.lt; (first | (have yf : wr.heap.size < wf.heap.size := zf _ (by first | (with_reducible assumption) | omega | (simp; done) | (simp; omega))) | skip); (first | (have y2 : wo.heap.size < wf.heap.size := zf _ (by first | (with_reducible assumption) | omega | (simp; done) | (simp; omega))) | skip)))
                  all_goals
                    go_wp2_with fail
                    go_meet
                    first | (with_reducible exact ⟨_, _, _, rfl, rfl, rfl, ids_alloc hIf _, QS.s1 _ hJf⟩) | ((with_reducible refine ⟨_, _, _, rfl, rfl, rfl, ids_set8 _ hIf ?_, QS.s2 _ hJf ?_ ?_ ?_⟩); exact (by repeat (first | (with_reducible exact Blk.new _ _ _) | (with_reducible refine Blk.alloc ?_ _) | (with_reducible refine Blk.drew1 ?_) | (with_reducible refine Kept.blk hkf ?_) | (with_reducible refine Kept.blk hko ?_) )); exact (by repeat (first | (with_reducible exact Blk.new _ _ _) | (with_reducible refine Blk.alloc ?_ _) | (with_reducible refine Blk.drew1 ?_) | (with_reducible refine Kept.blk hkf ?_) | (with_reducible refine Kept.blk hko ?_) )); omega; exact (by simp; omega))
                case rest =>
                  obtain ⟨g2, alB, capB, rfl, rfl, rfl, hIB, hQB⟩ := hcut
                  have p1 : (g2, u) ∈ ([(g2, u), (g, u), (w.heap.size, v)] : List (Nat × (Nat → Int))) := by simp
                  have p2 : (g, u) ∈ ([(g2, u), (g, u), (w.heap.size, v)] : List (Nat × (Nat → Int))) := by simp
                  have HIB := Lib.hid hIB
                  have HQB := Lib.hid hQB
                  have he : ∀ w, (Op.equalIn 10000 35 (.agg #[.int .u32 (u 0), .int .u32 (u 1), .int .u32 (u 2), .int .u32 (u 3), .int .u32 (u 4), .int .u32 (u 5), .int .u32 (u 6), .int .u32 (u 7)]) (.agg #[.int .u32 (u 0), .int .u32 (u 1), .int .u32 (u 2), .int .u32 (u 3), .int .u32 (u 4), .int .u32 (u 5), .int .u32 (u 6), .int .u32 (u 7)])).run Try.prog w = .ok true w := fun w => by rw [← show eqV u u = true from eqV_iff.2 fun _ _ => rfl]; exact eql_vec 9998 u u w
                  clear hIB hQB qr lr lg lv
                  obtain ⟨x0, x1, x2, x3, x4, x5, x6, x7, y0, y1, y2, y3, y4, y5, y6, y7, _, _, _⟩ := QS.all2 p1 p2 HQB.out
                  go_wp2_with fail
                  refine (same_any alB al9 nR capB nR cap9 R R _ HIB.out (HQB.out.get HMR.out)).mono ?_
                  rw [decide_eq_true rfl]
                  rintro e wz ⟨rfl, bz⟩
                  have HQZ := Lib.hid (HQB.out.next bz); clear bz
                  go_wp2
                  go_ret
                  exact ⟨rfl, HQZ.out.bel⟩
      · have hn : (chkV v != 0) = true := by simpa using hkv
        generalize chkV v = c at hn ⊢
        clear hkv
        rintro e w5 ⟨rfl, b5⟩
        have HQ5 := Lib.hid (HQ4.out.next b5); clear b5
        go_wp2
        go_ret
        exact ⟨rfl, HQ5.out.bel⟩
    · have hn1 : (mkC L != 0) = true := by simpa using hc
      generalize mkC L = c at hn1 ⊢
      clear hc
      go_wp2
      go_ret
      exact ⟨rfl, H4.out.bel⟩
end Go.Proofs.Ytgcmlefalilodaa
