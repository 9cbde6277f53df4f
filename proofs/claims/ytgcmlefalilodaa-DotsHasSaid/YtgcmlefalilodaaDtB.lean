/-
  The walk of the law DotsHas.
  Conditions: none.
-/
import Derived.Test.YtgcmlefalilodaaDtA
import Derived.Test.YtgcmlefalilodaaDotU
namespace Go.Proofs.Ytgcmlefalilodaa
open Go.RowKit Go.Shelf Go.Lib Go.Sort

theorem hasS_minus (A B : List (Int × Int)) (h : twoC A B = 0) (x : Int × Int) : hasS (miS A B) x = (hasS A x && !hasS B x) := by
  rw [mi_ok h]
  unfold hasS
  rw [Bool.eq_iff_iff, decide_eq_true_iff, List.mem_filter, Bool.and_eq_true, Bool.not_eq_true', decide_eq_true_iff, decide_eq_false_iff_not, decide_eq_true_iff]
theorem chkS_minus {A B : List (Int × Int)} (h : twoC A B = 0) : chkS (miS A B) = 0 := by
  obtain ⟨h1, _⟩ := two_zero h
  obtain ⟨l, v, a⟩ := chkS_zero h1
  rw [mi_ok h]
  refine chkS_ok ?_ ?_ ?_
  · have := List.length_filter_le (fun x => decide (x ∉ B)) A; omega
  · unfold valS at *; rw [List.all_eq_true] at *
    exact fun x hx => v x (List.mem_filter.1 hx).1
  · exact List.Pairwise.filter _ a
theorem un_facts {A B : List (Int × Int)} (h : twoC A B = 0) : (unC A B = 0 ∧ chkS (unS A B) = 0 ∧ ∀ x, hasS (unS A B) x = (hasS A x || hasS B x)) ∨ unC A B = 8 := by
  obtain ⟨h1, h2⟩ := two_zero h
  obtain ⟨la, va, aa⟩ := chkS_zero h1
  obtain ⟨lb, vb, ab⟩ := chkS_zero h2
  obtain ⟨u1, u2⟩ := un_ok h
  have l2 : ¬ 1024 < (A ++ B).length := by simp; omega
  by_cases h64 : 64 < (setS (A ++ B)).length
  · right; rw [u1]; exact (mkC_many l2 (valS_app va vb) h64).1
  · obtain ⟨p1, p2⟩ := mkC_ok l2 (valS_app va vb) h64
    refine .inl ⟨by rw [u1, p1], by rw [u2, p2]; exact (mkC_zero p1).2.2.2, fun x => ?_⟩
    rw [u2, p2]
    unfold hasS
    rw [Bool.eq_iff_iff, decide_eq_true_iff, setS_mem, List.mem_append, Bool.or_eq_true, decide_eq_true_iff, decide_eq_true_iff]

/-- What the law holds: a name in its block; some slices with their lists. -/
structure SH (w0 : World) (o q : Int) (Rs : List Sl) (w : World) : Prop where
  bel : Below w0.heap.size w0 w
  b : Blk w w0.heap.size #[.int .i64 o, .int .u32 q] 25
  rs : ∀ r, r ∈ Rs → Ids w r.1 r.2.1 r.2.2.1 r.2.2.2
section
variable {w0 w w' : World} {o q : Int} {Rs : List Sl}
theorem SH.next (h : SH w0 o q Rs w) (k : Below w.heap.size w w') : SH w0 o q Rs w' := ⟨below_then h.bel k, h.b.below k, fun r hr => (h.rs r hr).below k⟩
theorem SH.drew (h : SH w0 o q Rs w) : SH w0 o q Rs w.drew := h.next (Below.refl _ _).drew
theorem SH.add (h : SH w0 o q Rs w) {al : Option Addr} {len cap : Nat} {L : List (Int × Int)} (k : Ids w al len cap L) : SH w0 o q ((al, len, cap, L) :: Rs) w := ⟨h.bel, h.b, fun r hr => by
  rcases List.mem_cons.1 hr with rfl | hr
  · exact k
  · exact h.rs r hr⟩
theorem SH.get (h : SH w0 o q Rs w) {al : Option Addr} {len cap : Nat} {L : List (Int × Int)} (hr : (al, len, cap, L) ∈ Rs) : Ids w al len cap L := h.rs _ hr
theorem SH.all (h : SH w0 o q Rs w) : w.cell? ⟨w0.heap.size, 0, none⟩ = some (.int .i64 o) ∧ w.cell? ⟨w0.heap.size, 1, none⟩ = some (.int .u32 q) ∧ SH w0 o q Rs w :=
  ⟨by rw [Blk.cell h.b]; rfl, by rw [Blk.cell h.b]; rfl, h⟩
theorem SH.held {c0 c1 : Prop} (h : c0 ∧ c1 ∧ SH w0 o q Rs w) : SH w0 o q Rs w := h.2.2
theorem has_SH (al : Option Addr) (len cap : Nat) (L : List (Int × Int)) (x y : Int) (t : Bool) (hr : (al, len, cap, L) ∈ Rs) (ht : hasS L (x, y) = t) (h : SH w0 o q Rs w) :
    Calls Try.prog 15 #[.slice al len cap, .agg #[.int .i64 x, .int .u32 y]] w fun e w' => e = .returned (.bool t) ∧ SH w0 o q Rs w' :=
  (has_list al len cap L x y w (h.get hr)).mono fun _ _ ⟨h1, h2⟩ => ⟨ht ▸ h1, h.next h2⟩
end

set_option maxRecDepth 100000 in
set_option maxHeartbeats 8000000 in
theorem dotsHas_walk (al : Option Addr) (len cap : Nat) (L : List (Int × Int)) (al' : Option Addr) (len' cap' : Nat) (M : List (Int × Int)) (o q : Int) (w : World) (hL : Ids w al len cap L) (hM : Ids w al' len' cap' M) (_ho : (Lit.int .i64 o).wf = true) (_hq : (Lit.int .u32 q).wf = true) :
    Calls Try.prog 5 #[.slice al len cap, .slice al' len' cap', .agg #[.int .i64 o, .int .u32 q]] w fun e w' => e = .returned (.bool true) ∧ Below w.heap.size w w' := by
  have hcap := hL.bd
  have hfit := hL.fit
  have hcap' := hM.bd
  have hfit' := hM.fit
  have hb := (Below.refl w.heap.size w).alloc (Nat.le_refl _) (.cells #[.int .i64 o, .int .u32 q] 25)
  have hS : SH w o q [(al, len, cap, L), (al', len', cap', M)] (w.alloc (.cells #[.int .i64 o, .int .u32 q] 25)) := ⟨hb, Blk.new _ _ _, fun r hr => by
    simp only [List.mem_cons, List.not_mem_nil, or_false] at hr
    rcases hr with rfl | rfl
    · exact hL.below hb
    · exact hM.below hb⟩
  have H0 := Lib.hid hS; clear hS hb hL hM _ho _hq
  go_enter Try.func5, Try.ntmps5
  go_wp2_with fail
  refine (dworks_any _).mono ?_
  rintro e w1 ⟨rfl, b1⟩
  have H1 := Lib.hid (H0.out.next b1); clear b1
  go_wp2_with fail
  refine (great_any al len cap _ hfit hcap).mono ?_
  cases hg : greatB len with
  | true =>
    rintro e w2 ⟨rfl, b2⟩
    have H2 := Lib.hid (H1.out.next b2); clear b2 hg
    go_wp2
    go_ret
    exact ⟨rfl, H2.out.bel⟩
  | false =>
    have hle := great_le hg
    clear hg
    rintro e w2 ⟨rfl, b2⟩
    have H2 := Lib.hid (H1.out.next b2); clear b2
    go_wp2_with fail
    refine (great_any al' len' cap' _ hfit' hcap').mono ?_
    cases hg' : greatB len' with
    | true =>
      rintro e w3 ⟨rfl, b3⟩
      have H3 := Lib.hid (H2.out.next b3); clear b3 hg'
      go_wp2
      go_ret
      exact ⟨rfl, H3.out.bel⟩
    | false =>
      have hle' := great_le hg'
      clear hg'
      rintro e w3 ⟨rfl, b3⟩
      have H3 := Lib.hid (H2.out.next b3); clear b3
      go_wp2_with fail
      refine (own_any al len cap L _ (H3.out.get (by simp)) (by omega)).mono ?_
      rintro e w4 ⟨al4, cap4, rfl, hI4, hF4, b4⟩
      have H4 := Lib.hid ((H3.out.next b4).add hI4); clear b4 hI4
      go_wp2_with fail
      refine (make_any al4 len cap4 L _ (H4.out.get (by simp)) hF4).mono ?_
      rintro e w5 ⟨al5, cap5, rfl, hI5, _, b5⟩
      have H5 := Lib.hid ((H4.out.next b5).add hI5); clear b5 hI5
      clear hF4
      go_wp2_with fail
      refine (own_any al' len' cap' M _ (H5.out.get (by simp)) (by omega)).mono ?_
      rintro e w6 ⟨al6, cap6, rfl, hI6, hF6, b6⟩
      have H6 := Lib.hid ((H5.out.next b6).add hI6); clear b6 hI6
      go_wp2_with fail
      refine (make_any al6 len' cap6 M _ (H6.out.get (by simp)) hF6).mono ?_
      rintro e w7 ⟨al7, cap7, rfl, hI7, _, b7⟩
      have H7 := Lib.hid ((H6.out.next b7).add hI7); clear b7 hI7
      clear hF6
      by_cases hc1 : mkC L = 0
      · by_cases hc2 : mkC M = 0
        · obtain ⟨_, hA64, hA1, hA2⟩ := mkC_zero hc1
          obtain ⟨_, hB64, hB1, hB2⟩ := mkC_zero hc2
          have hT : twoC (setS L) (setS M) = 0 := by unfold twoC orZ; rw [hA2, if_pos rfl, hB2]
          rw [hc1, hc2]
          rw [hA1, hB1] at H7
          rw [hA1, hB1]
          clear hc1 hc2 hA1 hB1 hA2 hB2
          have HUF := Lib.hid (un_facts hT)
          have HTW := Lib.hid hT
          have HDM := Lib.hid (hasS_minus (setS L) (setS M) hT (o, q))
          have HDC := Lib.hid (chkS_minus hT)
          clear hT
          generalize setS L = A at hA64 H7 HUF HTW HDM HDC ⊢
          generalize setS M = B at hB64 H7 HUF HTW HDM HDC ⊢
          generalize hnA : A.length = nA at hA64 H7 ⊢
          generalize hnB : B.length = nB at hB64 H7 ⊢
          clear hnA hnB
          go_wp2_with fail
          refine (own_any al5 nA cap5 A _ (H7.out.get (by simp)) (by omega)).mono ?_
          rintro e w8 ⟨al8, cap8, rfl, hI8, _, b8⟩
          have H8 := Lib.hid ((H7.out.next b8).add hI8); clear b8 hI8
          go_wp2_with fail
          refine (own_any al7 nB cap7 B _ (H8.out.get (by simp)) (by omega)).mono ?_
          rintro e w9 ⟨al9, cap9, rfl, hI9, _, b9⟩
          have H9 := Lib.hid ((H8.out.next b9).add hI9); clear b9 hI9
          go_wp2_with fail
          refine (union_any al8 al9 nA cap8 nB cap9 A B _ (H9.out.get (by simp)) (H9.out.get (by simp))).mono ?_
          rintro e w10 ⟨al10, cap10, rfl, hI10, b10⟩
          have H10 := Lib.hid ((H9.out.next b10).add hI10); clear b10 hI10
          go_wp2_with fail
          refine (own_any al5 nA cap5 A _ (H10.out.get (by simp)) (by omega)).mono ?_
          rintro e w11 ⟨al11, cap11, rfl, hI11, _, b11⟩
          have H11 := Lib.hid ((H10.out.next b11).add hI11); clear b11 hI11
          go_wp2_with fail
          refine (own_any al7 nB cap7 B _ (H11.out.get (by simp)) (by omega)).mono ?_
          rintro e w12 ⟨al12, cap12, rfl, hI12, _, b12⟩
          have H12 := Lib.hid ((H11.out.next b12).add hI12); clear b12 hI12
          have hmi := minus_any al11 al12 nA cap11 nB cap12 A B w12 (H12.out.get (by simp)) (H12.out.get (by simp))
          rw [HTW.out] at hmi
          go_wp2_with fail
          refine hmi.mono ?_
          clear hmi
          rintro e w13 ⟨al13, cap13, rfl, hI13, b13⟩
          have H13 := Lib.hid ((H12.out.next b13).add hI13); clear b13 hI13
          generalize miS A B = D at H13 HDM HDC ⊢
          generalize D.length = nD at H13 ⊢
          obtain ⟨tA, hA⟩ : ∃ t, hasS A (o, q) = t := ⟨_, rfl⟩
          obtain ⟨tB, hB⟩ : ∃ t, hasS B (o, q) = t := ⟨_, rfl⟩
          rw [hA, hB] at HDM
          rcases HUF.out with ⟨hu1, hu2, hu3⟩ | hu1
          · have hu4 := hu3 (o, q)
            rw [hA, hB] at hu4
            rw [hu1]
            clear hu1 hu3
            have HUC := Lib.hid hu2; clear hu2 HUF
            generalize unS A B = U at H13 HUC hu4 ⊢
            generalize U.length = nU at H13 ⊢
            obtain ⟨tU, hU⟩ : ∃ t, hasS U (o, q) = t := ⟨_, rfl⟩
            have htu := hu4
            rw [hU] at htu
            have HTU := Lib.hid hU; clear hU hu4
            have HTUQ := Lib.hid htu; clear htu
            have HSA : (al5, nA, cap5, A) ∈ ([(al13, nD, cap13, D), (al12, nB, cap12, B), (al11, nA, cap11, A), (al10, nU, cap10, U), (al9, nB, cap9, B), (al8, nA, cap8, A), (al7, nB, cap7, B), (al6, len', cap6, M), (al5, nA, cap5, A), (al4, len, cap4, L), (al, len, cap, L), (al', len', cap', M)] : List Sl) := by simp
            have HSB : (al7, nB, cap7, B) ∈ ([(al13, nD, cap13, D), (al12, nB, cap12, B), (al11, nA, cap11, A), (al10, nU, cap10, U), (al9, nB, cap9, B), (al8, nA, cap8, A), (al7, nB, cap7, B), (al6, len', cap6, M), (al5, nA, cap5, A), (al4, len, cap4, L), (al, len, cap, L), (al', len', cap', M)] : List Sl) := by simp
            have HSAB := Lib.hid (And.intro HSA HSB)
            have HA := Lib.hid hA
            have HB := Lib.hid hB
            clear hA hB
            have h13 := H13.out
            go_wp2_with fail
            go_region_held3 (fun w' => w'.cell? ⟨w.heap.size, 0, none⟩ = some (.int .i64 o) ∧ w'.cell? ⟨w.heap.size, 1, none⟩ = some (.int .u32 q) ∧ SH w o q [(al13, nD, cap13, D), (al12, nB, cap12, B), (al11, nA, cap11, A), (al10, nU, cap10, U), (al9, nB, cap9, B), (al8, nA, cap8, A), (al7, nB, cap7, B), (al6, len', cap6, M), (al5, nA, cap5, A), (al4, len, cap4, L), (al, len, cap, L), (al', len', cap', M)] w') (first | exact SH.all (by assumption) | exact SH.all (SH.drew (by assumption)) | exact SH.all (SH.drew (SH.held (by assumption)))) ((go_at_call 15; refine (has_SH (w0 := w) (o := o) (q := q) (Rs := [(al13, nD, cap13, D), (al12, nB, cap12, B), (al11, nA, cap11, A), (al10, nU, cap10, U), (al9, nB, cap9, B), (al8, nA, cap8, A), (al7, nB, cap7, B), (al6, len', cap6, M), (al5, nA, cap5, A), (al4, len, cap4, L), (al, len, cap, L), (al', len', cap', M)]) _ _ _ _ _ _ _ (by first | exact (HSA : (al5, nA, cap5, A) ∈ [(al13, nD, cap13, D), (al12, nB, cap12, B), (al11, nA, cap11, A), (al10, nU, cap10, U), (al9, nB, cap9, B), (al8, nA, cap8, A), (al7, nB, cap7, B), (al6, len', cap6, M), (al5, nA, cap5, A), (al4, len, cap4, L), (al, len, cap, L), (al', len', cap', M)]) | exact (HSB : (al7, nB, cap7, B) ∈ [(al13, nD, cap13, D), (al12, nB, cap12, B), (al11, nA, cap11, A), (al10, nU, cap10, U), (al9, nB, cap9, B), (al8, nA, cap8, A), (al7, nB, cap7, B), (al6, len', cap6, M), (al5, nA, cap5, A), (al4, len, cap4, L), (al, len, cap, L), (al', len', cap', M)])) (by first | exact HA.out | exact HB.out) (by first | assumption | exact SH.held (by assumption))).mono ?_; rintro e w14 ⟨rfl, hJ⟩))
            all_goals
              have H14 := Lib.hid hJ
              obtain ⟨x0, x1, _⟩ := SH.all hJ
              clear hJ h13
              obtain ⟨tD, hD⟩ : ∃ t, hasS D (o, q) = t := ⟨_, rfl⟩
              have HDD := Lib.hid hD
              have hdm := HDM.out
              have htu := HTUQ.out
              clear HTUQ
              rw [hD] at hdm
              clear hD HDM
              cases tA <;> cases tB <;> (first | simp only [Bool.false_and, Bool.true_and, Bool.not_true, Bool.not_false, Bool.and_self, Bool.and_false, Bool.and_true, Bool.false_or, Bool.true_or, Bool.or_false, Bool.or_true, Bool.or_self] at hdm htu) <;> (subst hdm; subst htu) <;> skip
              all_goals
                go_wp2_with fail
                refine (has_SH (w0 := w) (o := o) (q := q) (Rs := [(al13, nD, cap13, D), (al12, nB, cap12, B), (al11, nA, cap11, A), (al10, nU, cap10, U), (al9, nB, cap9, B), (al8, nA, cap8, A), (al7, nB, cap7, B), (al6, len', cap6, M), (al5, nA, cap5, A), (al4, len, cap4, L), (al, len, cap, L), (al', len', cap', M)]) al13 nD cap13 D o q _ (by simp) HDD.out H14.out).mono ?_
                rintro e w15 ⟨rfl, hJ⟩
                have H15 := Lib.hid hJ
                obtain ⟨x0', x1', _⟩ := SH.all hJ
                clear hJ
                go_wp2_with fail
                refine (dCheck_any al13 nD cap13 D _ (H15.out.get (by simp))).mono ?_
                rw [HDC.out]
                rintro e w16 ⟨rfl, b16⟩
                have H16 := Lib.hid (H15.out.next b16); clear b16
                obtain ⟨y0, y1, _⟩ := SH.all H16.out
                go_wp2_with fail
                refine (has_SH (w0 := w) (o := o) (q := q) (Rs := [(al13, nD, cap13, D), (al12, nB, cap12, B), (al11, nA, cap11, A), (al10, nU, cap10, U), (al9, nB, cap9, B), (al8, nA, cap8, A), (al7, nB, cap7, B), (al6, len', cap6, M), (al5, nA, cap5, A), (al4, len, cap4, L), (al, len, cap, L), (al', len', cap', M)]) al10 nU cap10 U o q _ (by simp) HTU.out H16.out).mono ?_
                rintro e w17 ⟨rfl, hJ⟩
                have H17 := Lib.hid hJ
                clear hJ
                go_wp2_with fail
                refine (dCheck_any al10 nU cap10 U _ (H17.out.get (by simp))).mono ?_
                rw [HUC.out]
                rintro e w18 ⟨rfl, b18⟩
                have H18 := Lib.hid (H17.out.next b18); clear b18
                go_wp2
                go_ret
                exact ⟨rfl, H18.out.bel⟩
          · rw [hu1]
            clear hu1 HUF
            generalize unS A B = U at H13 ⊢
            generalize U.length = nU at H13 ⊢
            have HSA : (al5, nA, cap5, A) ∈ ([(al13, nD, cap13, D), (al12, nB, cap12, B), (al11, nA, cap11, A), (al10, nU, cap10, U), (al9, nB, cap9, B), (al8, nA, cap8, A), (al7, nB, cap7, B), (al6, len', cap6, M), (al5, nA, cap5, A), (al4, len, cap4, L), (al, len, cap, L), (al', len', cap', M)] : List Sl) := by simp
            have HSB : (al7, nB, cap7, B) ∈ ([(al13, nD, cap13, D), (al12, nB, cap12, B), (al11, nA, cap11, A), (al10, nU, cap10, U), (al9, nB, cap9, B), (al8, nA, cap8, A), (al7, nB, cap7, B), (al6, len', cap6, M), (al5, nA, cap5, A), (al4, len, cap4, L), (al, len, cap, L), (al', len', cap', M)] : List Sl) := by simp
            have HSAB := Lib.hid (And.intro HSA HSB)
            have HA := Lib.hid hA
            have HB := Lib.hid hB
            clear hA hB
            have h13 := H13.out
            go_wp2_with fail
            go_region_held3 (fun w' => w'.cell? ⟨w.heap.size, 0, none⟩ = some (.int .i64 o) ∧ w'.cell? ⟨w.heap.size, 1, none⟩ = some (.int .u32 q) ∧ SH w o q [(al13, nD, cap13, D), (al12, nB, cap12, B), (al11, nA, cap11, A), (al10, nU, cap10, U), (al9, nB, cap9, B), (al8, nA, cap8, A), (al7, nB, cap7, B), (al6, len', cap6, M), (al5, nA, cap5, A), (al4, len, cap4, L), (al, len, cap, L), (al', len', cap', M)] w') (first | exact SH.all (by assumption) | exact SH.all (SH.drew (by assumption)) | exact SH.all (SH.drew (SH.held (by assumption)))) ((go_at_call 15; refine (has_SH (w0 := w) (o := o) (q := q) (Rs := [(al13, nD, cap13, D), (al12, nB, cap12, B), (al11, nA, cap11, A), (al10, nU, cap10, U), (al9, nB, cap9, B), (al8, nA, cap8, A), (al7, nB, cap7, B), (al6, len', cap6, M), (al5, nA, cap5, A), (al4, len, cap4, L), (al, len, cap, L), (al', len', cap', M)]) _ _ _ _ _ _ _ (by first | exact (HSA : (al5, nA, cap5, A) ∈ [(al13, nD, cap13, D), (al12, nB, cap12, B), (al11, nA, cap11, A), (al10, nU, cap10, U), (al9, nB, cap9, B), (al8, nA, cap8, A), (al7, nB, cap7, B), (al6, len', cap6, M), (al5, nA, cap5, A), (al4, len, cap4, L), (al, len, cap, L), (al', len', cap', M)]) | exact (HSB : (al7, nB, cap7, B) ∈ [(al13, nD, cap13, D), (al12, nB, cap12, B), (al11, nA, cap11, A), (al10, nU, cap10, U), (al9, nB, cap9, B), (al8, nA, cap8, A), (al7, nB, cap7, B), (al6, len', cap6, M), (al5, nA, cap5, A), (al4, len, cap4, L), (al, len, cap, L), (al', len', cap', M)])) (by first | exact HA.out | exact HB.out) (by first | assumption | exact SH.held (by assumption))).mono ?_; rintro e w14 ⟨rfl, hJ⟩))
            all_goals
              have H14 := Lib.hid hJ
              obtain ⟨x0, x1, _⟩ := SH.all hJ
              clear hJ h13
              obtain ⟨tD, hD⟩ : ∃ t, hasS D (o, q) = t := ⟨_, rfl⟩
              have HDD := Lib.hid hD
              have hdm := HDM.out
              rw [hD] at hdm
              clear hD HDM
              cases tA <;> cases tB <;> (first | simp only [Bool.false_and, Bool.true_and, Bool.not_true, Bool.not_false, Bool.and_self, Bool.and_false, Bool.and_true, Bool.false_or, Bool.true_or, Bool.or_false, Bool.or_true, Bool.or_self] at hdm) <;> (subst hdm) <;> skip
              all_goals
                go_wp2_with fail
                refine (has_SH (w0 := w) (o := o) (q := q) (Rs := [(al13, nD, cap13, D), (al12, nB, cap12, B), (al11, nA, cap11, A), (al10, nU, cap10, U), (al9, nB, cap9, B), (al8, nA, cap8, A), (al7, nB, cap7, B), (al6, len', cap6, M), (al5, nA, cap5, A), (al4, len, cap4, L), (al, len, cap, L), (al', len', cap', M)]) al13 nD cap13 D o q _ (by simp) HDD.out H14.out).mono ?_
                rintro e w15 ⟨rfl, hJ⟩
                have H15 := Lib.hid hJ
                obtain ⟨x0', x1', _⟩ := SH.all hJ
                clear hJ
                go_wp2_with fail
                refine (dCheck_any al13 nD cap13 D _ (H15.out.get (by simp))).mono ?_
                rw [HDC.out]
                rintro e w16 ⟨rfl, b16⟩
                have H16 := Lib.hid (H15.out.next b16); clear b16
                obtain ⟨y0, y1, _⟩ := SH.all H16.out
                go_wp2
                go_ret
                exact ⟨rfl, H16.out.bel⟩
        · have hn2 : (mkC M != 0) = true := by simpa using hc2
          rw [hc1]
          generalize mkC M = c at hn2 ⊢
          clear hc1 hc2
          go_wp2
          go_ret
          exact ⟨rfl, H7.out.bel⟩
      · have hn1 : (mkC L != 0) = true := by simpa using hc1
        generalize mkC L = c at hn1 ⊢
        clear hc1
        go_wp2
        go_ret
        exact ⟨rfl, H7.out.bel⟩
end Go.Proofs.Ytgcmlefalilodaa
