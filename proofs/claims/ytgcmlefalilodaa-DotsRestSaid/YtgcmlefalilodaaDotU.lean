/-
  The walk of the law DotsTwo.
  Conditions: none.
-/
import Derived.Test.YtgcmlefalilodaaDotT
import Derived.Test.YtgcmlefalilodaaDotK
import Derived.Test.YtgcmlefalilodaaVecG
namespace Go.Proofs.Ytgcmlefalilodaa
open Go.RowKit Go.Shelf Go.Lib Go.Sort

/-- A slice and the list that it holds. -/
abbrev Sl := Option Addr × Nat × Nat × List (Int × Int)
/-- What the laws hold: a vector in its block; some slices with their lists. -/
structure ST (w0 : World) (v : Nat → Int) (Rs : List Sl) (w : World) : Prop where
  bel : Below w0.heap.size w0 w
  bv : Blk w w0.heap.size #[.int .u32 (v 0), .int .u32 (v 1), .int .u32 (v 2), .int .u32 (v 3), .int .u32 (v 4), .int .u32 (v 5), .int .u32 (v 6), .int .u32 (v 7)] 35
  rs : ∀ r, r ∈ Rs → Ids w r.1 r.2.1 r.2.2.1 r.2.2.2
section
variable {w0 w w' : World} {v : Nat → Int} {Rs : List Sl}
theorem ST.next (h : ST w0 v Rs w) (k : Below w.heap.size w w') : ST w0 v Rs w' := ⟨below_then h.bel k, h.bv.below k, fun r hr => (h.rs r hr).below k⟩
theorem ST.drew (h : ST w0 v Rs w) : ST w0 v Rs w.drew := h.next (Below.refl _ _).drew
theorem ST.add (h : ST w0 v Rs w) {al : Option Addr} {len cap : Nat} {L : List (Int × Int)} (k : Ids w al len cap L) : ST w0 v ((al, len, cap, L) :: Rs) w := ⟨h.bel, h.bv, fun r hr => by
  rcases List.mem_cons.1 hr with rfl | hr
  · exact k
  · exact h.rs r hr⟩
theorem ST.get (h : ST w0 v Rs w) {al : Option Addr} {len cap : Nat} {L : List (Int × Int)} (hr : (al, len, cap, L) ∈ Rs) : Ids w al len cap L := h.rs _ hr
theorem ST.all (h : ST w0 v Rs w) : w.cell? ⟨w0.heap.size, 0, none⟩ = some (.int .u32 (v 0)) ∧ w.cell? ⟨w0.heap.size, 1, none⟩ = some (.int .u32 (v 1)) ∧ w.cell? ⟨w0.heap.size, 2, none⟩ = some (.int .u32 (v 2)) ∧ w.cell? ⟨w0.heap.size, 3, none⟩ = some (.int .u32 (v 3)) ∧ w.cell? ⟨w0.heap.size, 4, none⟩ = some (.int .u32 (v 4)) ∧ w.cell? ⟨w0.heap.size, 5, none⟩ = some (.int .u32 (v 5)) ∧ w.cell? ⟨w0.heap.size, 6, none⟩ = some (.int .u32 (v 6)) ∧ w.cell? ⟨w0.heap.size, 7, none⟩ = some (.int .u32 (v 7)) ∧ ST w0 v Rs w :=
  ⟨vec_cell h.bv 0 (by omega), vec_cell h.bv 1 (by omega), vec_cell h.bv 2 (by omega), vec_cell h.bv 3 (by omega), vec_cell h.bv 4 (by omega), vec_cell h.bv 5 (by omega), vec_cell h.bv 6 (by omega), vec_cell h.bv 7 (by omega), h⟩
theorem ST.held {c0 c1 c2 c3 c4 c5 c6 c7 : Prop} (h : c0 ∧ c1 ∧ c2 ∧ c3 ∧ c4 ∧ c5 ∧ c6 ∧ c7 ∧ ST w0 v Rs w) : ST w0 v Rs w := h.2.2.2.2.2.2.2.2
theorem own_ST (al : Option Addr) (len cap : Nat) (L : List (Int × Int)) (hr : (al, len, cap, L) ∈ Rs) (hl : len ≤ 1048576) (h : ST w0 v Rs w) :
    Calls Try.prog 9 #[.slice al len cap] w fun e w' => ∃ al' cap', e = .returned (.slice al' len cap') ∧ Ids w' al' len cap' L ∧ Flat al' ∧ ST w0 v Rs w' :=
  (own_any al len cap L w (h.get hr) hl).mono fun _ _ ⟨a, c, h1, h2, h3, h4⟩ => ⟨a, c, h1, h2, h3, h.next h4⟩
theorem beyond_ST (al : Option Addr) (len cap : Nat) (L : List (Int × Int)) (hI : Ids w al len cap L) (h : ST w0 v Rs w) :
    Calls Try.prog 21 #[.slice al len cap, .agg #[.int .u32 (v 0), .int .u32 (v 1), .int .u32 (v 2), .int .u32 (v 3), .int .u32 (v 4), .int .u32 (v 5), .int .u32 (v 6), .int .u32 (v 7)]] w fun e w' => ∃ al2 cap2, e = .returned (.tuple #[.slice al2 (byR v L).length cap2, .int .i64 (chkS L)]) ∧ Ids w' al2 (byR v L).length cap2 (byR v L) ∧ ST w0 v Rs w' :=
  (beyond_any al len cap L v w hI).mono fun _ _ ⟨a, c, h1, h2, h3⟩ => ⟨a, c, h1, h2, h.next h3⟩
end

set_option maxRecDepth 100000 in
set_option maxHeartbeats 4000000 in
theorem dotsTwo_walk (al : Option Addr) (len cap : Nat) (L : List (Int × Int)) (al' : Option Addr) (len' cap' : Nat) (M : List (Int × Int)) (v : Nat → Int) (w : World) (hL : Ids w al len cap L) (hM : Ids w al' len' cap' M) (_hv : ∀ i, i < 8 → (Lit.int .u32 (v i)).wf = true) :
    Calls Try.prog 4 #[.slice al len cap, .slice al' len' cap', .agg #[.int .u32 (v 0), .int .u32 (v 1), .int .u32 (v 2), .int .u32 (v 3), .int .u32 (v 4), .int .u32 (v 5), .int .u32 (v 6), .int .u32 (v 7)]] w fun e w' => e = .returned (.bool true) ∧ Below w.heap.size w w' := by
  have hcap := hL.bd
  have hfit := hL.fit
  have hcap' := hM.bd
  have hfit' := hM.fit
  have hb := (Below.refl w.heap.size w).alloc (Nat.le_refl _) (.cells #[.int .u32 (v 0), .int .u32 (v 1), .int .u32 (v 2), .int .u32 (v 3), .int .u32 (v 4), .int .u32 (v 5), .int .u32 (v 6), .int .u32 (v 7)] 35)
  have hS : ST w v [(al, len, cap, L), (al', len', cap', M)] (w.alloc (.cells #[.int .u32 (v 0), .int .u32 (v 1), .int .u32 (v 2), .int .u32 (v 3), .int .u32 (v 4), .int .u32 (v 5), .int .u32 (v 6), .int .u32 (v 7)] 35)) := ⟨hb, Blk.new _ _ _, fun r hr => by
    simp only [List.mem_cons, List.not_mem_nil, or_false] at hr
    rcases hr with rfl | rfl
    · exact hL.below hb
    · exact hM.below hb⟩
  have H0 := Lib.hid hS; clear hS hb hL hM _hv
  cases hg : greatB len with
  | true =>
    have HG := Lib.hid hg; clear hg
    go_enter Try.func4, Try.ntmps4
    go_wp2_with fail
    refine (great_any al len cap _ hfit hcap).mono ?_
    rw [HG.out]
    rintro e w1 ⟨rfl, b1⟩
    have H1 := Lib.hid (H0.out.next b1); clear b1
    go_wp2
    go_ret
    exact ⟨rfl, H1.out.bel⟩
  | false =>
    have hle := great_le hg
    have HG := Lib.hid hg; clear hg
    cases hg' : greatB len' with
    | true =>
      have HG' := Lib.hid hg'; clear hg'
      go_enter Try.func4, Try.ntmps4
      go_wp2_with fail
      refine (great_any al len cap _ hfit hcap).mono ?_
      rw [HG.out]
      rintro e w1 ⟨rfl, b1⟩
      have H1 := Lib.hid (H0.out.next b1); clear b1
      go_wp2_with fail
      refine (great_any al' len' cap' _ hfit' hcap').mono ?_
      rw [HG'.out]
      rintro e w2 ⟨rfl, b2⟩
      have H2 := Lib.hid (H1.out.next b2); clear b2
      go_wp2
      go_ret
      exact ⟨rfl, H2.out.bel⟩
    | false =>
      have hle' := great_le hg'
      have HG' := Lib.hid hg'; clear hg'
      go_enter Try.func4, Try.ntmps4
      go_wp2_with fail
      refine (great_any al len cap _ hfit hcap).mono ?_
      rw [HG.out]
      rintro e w1 ⟨rfl, b1⟩
      have H1 := Lib.hid (H0.out.next b1); clear b1
      go_wp2_with fail
      refine (great_any al' len' cap' _ hfit' hcap').mono ?_
      rw [HG'.out]
      rintro e w2 ⟨rfl, b2⟩
      have H2 := Lib.hid (H1.out.next b2); clear b2
      go_wp2_with fail
      refine (own_any al len cap L _ (H2.out.get (by simp)) (by omega)).mono ?_
      rintro e w3 ⟨al3, cap3, rfl, hI3, _, b3⟩
      have H3 := Lib.hid ((H2.out.next b3).add hI3); clear b3 hI3
      go_wp2_with fail
      refine (own_any al' len' cap' M _ (H3.out.get (by simp)) (by omega)).mono ?_
      rintro e w4 ⟨al4, cap4, rfl, hI4, _, b4⟩
      have H4 := Lib.hid ((H3.out.next b4).add hI4); clear b4 hI4
      go_wp2_with fail
      refine (union_any al3 al4 len cap3 len' cap4 L M _ (H4.out.get (by simp)) (H4.out.get (by simp))).mono ?_
      rintro e w5 ⟨al5, cap5, rfl, hI5, b5⟩
      have H5 := Lib.hid ((H4.out.next b5).add hI5); clear b5 hI5
      go_wp2_with fail
      refine (rUnion_any al al' len cap len' cap' L M _ (H5.out.get (by simp)) (H5.out.get (by simp))).mono ?_
      rintro e w6 ⟨al6, cap6, rfl, hI6, b6⟩
      have H6 := Lib.hid ((H5.out.next b6).add hI6); clear b6 hI6
      go_wp2_with fail
      refine (own_any al len cap L _ (H6.out.get (by simp)) (by omega)).mono ?_
      rintro e w7 ⟨al7, cap7, rfl, hI7, _, b7⟩
      have H7 := Lib.hid ((H6.out.next b7).add hI7); clear b7 hI7
      go_wp2_with fail
      refine (own_any al' len' cap' M _ (H7.out.get (by simp)) (by omega)).mono ?_
      rintro e w8 ⟨al8, cap8, rfl, hI8, _, b8⟩
      have H8 := Lib.hid ((H7.out.next b8).add hI8); clear b8 hI8
      go_wp2_with fail
      refine (minus_any al7 al8 len cap7 len' cap8 L M _ (H8.out.get (by simp)) (H8.out.get (by simp))).mono ?_
      rintro e w9 ⟨al9, cap9, rfl, hI9, b9⟩
      have H9 := Lib.hid ((H8.out.next b9).add hI9); clear b9 hI9
      go_wp2_with fail
      refine (rMinus_any al al' len cap len' cap' L M _ (H9.out.get (by simp)) (H9.out.get (by simp))).mono ?_
      rintro e w10 ⟨al10, cap10, rfl, hI10, b10⟩
      have H10 := Lib.hid ((H9.out.next b10).add hI10); clear b10 hI10
      have h10 := H10.out
      go_wp2_with fail
      go_region_held3 (fun w' => w'.cell? ⟨w.heap.size, 0, none⟩ = some (.int .u32 (v 0)) ∧ w'.cell? ⟨w.heap.size, 1, none⟩ = some (.int .u32 (v 1)) ∧ w'.cell? ⟨w.heap.size, 2, none⟩ = some (.int .u32 (v 2)) ∧ w'.cell? ⟨w.heap.size, 3, none⟩ = some (.int .u32 (v 3)) ∧ w'.cell? ⟨w.heap.size, 4, none⟩ = some (.int .u32 (v 4)) ∧ w'.cell? ⟨w.heap.size, 5, none⟩ = some (.int .u32 (v 5)) ∧ w'.cell? ⟨w.heap.size, 6, none⟩ = some (.int .u32 (v 6)) ∧ w'.cell? ⟨w.heap.size, 7, none⟩ = some (.int .u32 (v 7)) ∧ ST w v [(al10, (miS L M).length, cap10, miS L M), (al9, (miS L M).length, cap9, miS L M), (al8, len', cap8, M), (al7, len, cap7, L), (al6, (unS L M).length, cap6, unS L M), (al5, (unS L M).length, cap5, unS L M), (al4, len', cap4, M), (al3, len, cap3, L), (al, len, cap, L), (al', len', cap', M)] w') (first | exact ST.all (by assumption) | exact ST.all (ST.drew (by assumption)) | exact ST.all (ST.drew (ST.held (by assumption)))) (first | (go_at_call 9; refine (own_ST (w0 := w) (v := v) (Rs := [(al10, (miS L M).length, cap10, miS L M), (al9, (miS L M).length, cap9, miS L M), (al8, len', cap8, M), (al7, len, cap7, L), (al6, (unS L M).length, cap6, unS L M), (al5, (unS L M).length, cap5, unS L M), (al4, len', cap4, M), (al3, len, cap3, L), (al, len, cap, L), (al', len', cap', M)]) al len cap L (by simp) (by omega) (by first | assumption | exact ST.held (by assumption))).mono ?_; rintro e w11 ⟨al11, cap11, rfl, hI11, _, hJ11⟩) | (go_at_call 21; refine (beyond_ST (w0 := w) (v := v) (Rs := [(al10, (miS L M).length, cap10, miS L M), (al9, (miS L M).length, cap9, miS L M), (al8, len', cap8, M), (al7, len, cap7, L), (al6, (unS L M).length, cap6, unS L M), (al5, (unS L M).length, cap5, unS L M), (al4, len', cap4, M), (al3, len, cap3, L), (al, len, cap, L), (al', len', cap', M)]) al11 len cap11 L hI11 (by first | assumption | exact ST.held (by assumption))).mono ?_; rintro e w12 ⟨al12, cap12, rfl, hI12, hJ12⟩))
      all_goals
        have H12 := Lib.hid (hJ12.add hI12)
        obtain ⟨q0, q1, q2, q3, q4, q5, q6, q7, _⟩ := ST.all hJ12
        clear hJ12 hI12
        go_wp2_with fail
        refine (rBeyond_any al len cap L v _ (H12.out.get (by simp))).mono ?_
        rintro e w13 ⟨al13, cap13, rfl, hI13, b13⟩
        have H13 := Lib.hid ((H12.out.next b13).add hI13); clear b13 hI13
        generalize hA : unS L M = A at H13 ⊢
        generalize hB : miS L M = B at H13 ⊢
        generalize hC : byR v L = C at H13 ⊢
        generalize A.length = nA at H13 ⊢
        generalize B.length = nB at H13 ⊢
        generalize C.length = nC at H13 ⊢
        generalize unC L M = c1
        generalize twoC L M = c2
        generalize chkS L = c3
        go_wp2_with fail
        refine (same_any al5 al6 nA cap5 nA cap6 A A _ (H13.out.get (by simp)) (H13.out.get (by simp))).mono ?_
        rw [decide_eq_true rfl]
        rintro e w14 ⟨rfl, b14⟩
        have H14 := Lib.hid (H13.out.next b14); clear b14
        go_wp2_with fail
        refine (same_any al9 al10 nB cap9 nB cap10 B B _ (H14.out.get (by simp)) (H14.out.get (by simp))).mono ?_
        rw [decide_eq_true rfl]
        rintro e w15 ⟨rfl, b15⟩
        have H15 := Lib.hid (H14.out.next b15); clear b15
        go_wp2_with fail
        refine (same_any al12 al13 nC cap12 nC cap13 C C _ (H15.out.get (by simp)) (H15.out.get (by simp))).mono ?_
        rw [decide_eq_true rfl]
        rintro e w16 ⟨rfl, b16⟩
        have H16 := Lib.hid (H15.out.next b16); clear b16
        go_wp2
        go_ret
        exact ⟨rfl, H16.out.bel⟩
end Go.Proofs.Ytgcmlefalilodaa
