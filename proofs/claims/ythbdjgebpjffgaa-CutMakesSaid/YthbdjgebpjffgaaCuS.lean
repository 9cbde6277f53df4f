/-
  The document's LE of layer 8.
  Conditions: none.
-/
import Derived.Test.YthbdjgebpjffgaaCuR
set_option linter.unusedVariables false
set_option linter.unusedSimpArgs false
namespace Go.Proofs.Ythbdjgebpjffgaa
open Go.RowKit Go.Shelf Go.Lib Go.Sort

/-- What the document's LE tells. -/
def leD (a : Nat → Int) (A : List (Int × Int)) (b : Nat → Int) (B : List (Int × Int)) : Bool := decide (ckD a A = 0) && (decide (ckD b B = 0) && leC a A b B)
theorem leD_a {a b : Nat → Int} {A B : List (Int × Int)} (h : ¬ ckD a A = 0) : leD a A b B = false := by unfold leD; rw [decide_eq_false h]; rfl
theorem leD_b {a b : Nat → Int} {A B : List (Int × Int)} (h : ¬ ckD b B = 0) : leD a A b B = false := by unfold leD; rw [decide_eq_false h, Bool.false_and, Bool.and_false]
theorem leD_c {a b : Nat → Int} {A B : List (Int × Int)} (h : ckD a A = 0) (k : ckD b B = 0) : leD a A b B = leC a A b B := by unfold leD; rw [decide_eq_true h, decide_eq_true k]; rfl
theorem cut_cell {w : World} {g : Nat} {v : Nat → Int} {al : Option Addr} {len cap : Nat} {T : TypeId} (h : Blk w g #[.int .u32 (v 0), .int .u32 (v 1), .int .u32 (v 2), .int .u32 (v 3), .int .u32 (v 4), .int .u32 (v 5), .int .u32 (v 6), .int .u32 (v 7), .slice al len cap] T) (k : Nat) (hk : k < 8) : w.cell? ⟨g, k, none⟩ = some (.int .u32 (v k)) := by
  obtain ⟨x0, x1, x2, x3, x4, x5, x6, x7, _⟩ := cut_cells h
  match k, hk with
  | 0, _ => exact x0
  | 1, _ => exact x1
  | 2, _ => exact x2
  | 3, _ => exact x3
  | 4, _ => exact x4
  | 5, _ => exact x5
  | 6, _ => exact x6
  | 7, _ => exact x7
theorem ids_elem {w : World} {bb off len cap : Nat} {A : List (Int × Int)} (h : Ids w (some ⟨bb, off, none⟩) len cap A) {k : Nat} (hk : k < len) {o q : Int} (hx : A[k]? = some (o, q)) : w.cell? ⟨bb, off + k * 2, none⟩ = some (.int .i64 o) ∧ w.cell? ⟨bb, off + k * 2 + 1, none⟩ = some (.int .u32 q) := by
  obtain ⟨b', off', o', q', e, hx', i0, i1⟩ := h.nth k hk
  simp only [Option.some.injEq, Addr.mk.injEq, and_true] at e
  obtain ⟨rfl, rfl⟩ := e
  rw [hx] at hx'
  cases hx'
  exact ⟨i0, i1⟩
/-- Beyond the other's vector a next one is not known. -/
theorem leC_gap {a b : Nat → Int} {A B : List (Int × Int)} {k : Nat} (hk : k < 8) (h : b k < a k) : leC a A b B = false := leC_vec (leV_no hk h)

set_option maxRecDepth 100000 in
set_option maxHeartbeats 4000000 in
theorem rLE_cut (a b : Nat → Int) (al al' : Option Addr) (len cap len' cap' : Nat) (A B : List (Int × Int)) (w : World) (hA : Ids w al len cap A) (hB : Ids w al' len' cap' B) (ha : InB a) (hb : InB b) :
    Calls Try.prog 24 #[.agg #[.int .u32 (a 0), .int .u32 (a 1), .int .u32 (a 2), .int .u32 (a 3), .int .u32 (a 4), .int .u32 (a 5), .int .u32 (a 6), .int .u32 (a 7), .slice al len cap], .agg #[.int .u32 (b 0), .int .u32 (b 1), .int .u32 (b 2), .int .u32 (b 3), .int .u32 (b 4), .int .u32 (b 5), .int .u32 (b 6), .int .u32 (b 7), .slice al' len' cap']] w fun e w' => e = .returned (.bool (leD a A b B)) ∧ Below w.heap.size w w' := by
  have h0 := ((((KS.nil w).add hA).add hB).box rfl #[.int .u32 (a 0), .int .u32 (a 1), .int .u32 (a 2), .int .u32 (a 3), .int .u32 (a 4), .int .u32 (a 5), .int .u32 (a 6), .int .u32 (a 7), .slice al len cap] 27).box (g := w.heap.size + 1) (by simp) #[.int .u32 (b 0), .int .u32 (b 1), .int .u32 (b 2), .int .u32 (b 3), .int .u32 (b 4), .int .u32 (b 5), .int .u32 (b 6), .int .u32 (b 7), .slice al' len' cap'] 27
  have H0 := Lib.hid h0
  have HX := Lib.hid (h0.blk 1 rfl)
  have hck := rCheck_any a al len cap A _ (h0.ids 1 rfl) ha
  have HIN := Lib.hid ha
  have HIN' := Lib.hid hb
  have hcap := hA.bd
  have hfit := hA.fit
  have HLN := Lib.hid hA.ln
  clear h0 hA hB hb ha
  obtain ⟨c, hc⟩ : ∃ c, ckD a A = c := ⟨_, rfl⟩
  rw [hc] at hck
  by_cases hc0 : c = 0
  · subst hc0
    have HC := Lib.hid hc
    obtain ⟨d, hd⟩ : ∃ d, ckD b B = d := ⟨_, rfl⟩
    by_cases hd0 : d = 0
    · subst hd0
      have HD := Lib.hid hd
      have HLP := Lib.hid (leD_c hc hd)
      have HOK := Lib.hid (okV_of ((ckD_iff HIN'.out).1 hd).v0)
      have HISB := Lib.hid ((ckD_iff HIN'.out).1 hd)
      clear hc hd
      go_enter Try.func24, Try.ntmps24
      go_wp2_with (refine wpList_load_row rfl 27 _ rfl (w.heap.size) rfl 27 #[.int .u32 (a 0), .int .u32 (a 1), .int .u32 (a 2), .int .u32 (a 3), .int .u32 (a 4), .int .u32 (a 5), .int .u32 (a 6), .int .u32 (a 7), .slice al len cap] (0, 0) _ HX.out Try.underlying27 rfl (by kernel_rfl) ?_)
      refine hck.mono ?_
      clear hck
      rintro e w1 ⟨rfl, b1⟩
      have h1 := H0.out.next b1
      have H1 := Lib.hid h1
      obtain ⟨y0, y1, y2, y3, y4, y5, y6, y7, y8⟩ := cut_cells (h1.blk 0 rfl)
      have hck := rCheck_any b al' len' cap' B _ (h1.ids 0 rfl) HIN'.out
      rw [HD.out] at hck
      clear b1 h1
      go_wp2_with fail
      refine hck.mono ?_
      clear hck
      rintro e w2 ⟨rfl, b2⟩
      have H2 := Lib.hid (H1.out.next b2)
      clear b2 y0 y1 y2 y3 y4 y5 y6 y7 y8
      go_wp2
      go_loopw [5] (fun s5 wr => ∃ k : Nat, s5 = .int .i64 k ∧ k ≤ 8 ∧ (∀ i, i < k → a i ≤ b i) ∧ KS w [(w.heap.size + 1, #[.int .u32 (b 0), .int .u32 (b 1), .int .u32 (b 2), .int .u32 (b 3), .int .u32 (b 4), .int .u32 (b 5), .int .u32 (b 6), .int .u32 (b 7), .slice al' len' cap'], 27), (w.heap.size, #[.int .u32 (a 0), .int .u32 (a 1), .int .u32 (a 2), .int .u32 (a 3), .int .u32 (a 4), .int .u32 (a 5), .int .u32 (a 6), .int .u32 (a 7), .slice al len cap], 27)] [(al', len', cap', B), (al, len, cap, A)] wr) (fun s5 _ => 8 - (intOf s5).toNat)
      case atStart => exact ⟨0, rfl, by omega, fun i hi => by omega, H2.out⟩
      case round =>
        obtain ⟨k, rfl, hk, hold, hks⟩ := hrel
        have HO := Lib.hid hold; clear hold
        by_cases hk8 : k < 8
        · have xa := cut_cell (hks.blk 1 rfl) k hk8
          have xb := cut_cell (hks.blk 0 rfl) k hk8
          have hbk := HIN'.out k hk8
          have hak := HIN.out k hk8
          have hokb := okV_iff.1 HOK.out k hk8
          have hwr : IntKind.u32.wrap (b k + 1) = b k + 1 := wrap_u32 (by omega) (by omega)
          have hk0 : (0 : Int) ≤ (k : Int) := by omega
          have hk8' : (k : Int) < 8 := by omega
          by_cases hle : a k ≤ b k
          · have hn : ¬ (b k + 1 ≤ a k) := by omega
            have HLE := Lib.hid hle
            have HK := Lib.hid hks
            clear hks hle hbk hak hokb hk8
            go_wp2
            refine wp_loop_rounds 2 ?_
            rw [rounds_succ]
            go_wp2
            go_roundw
            case rel => exact ⟨k + 1, by go_num, by omega, fun i hi => by
              by_cases e : i = k
              · subst e; exact HLE.out
              · exact HO.out i (by omega), HK.out⟩
            case measure => simp [intOf]; omega
          · have hn : b k + 1 ≤ a k := by omega
            have HLE : Hid (leC a A b B = false) := Lib.hid (leC_gap (by omega) (by omega))
            have hhs := rHas_cut b al' len' cap' B (k : Int) (b k + 1) wr (hks.ids 0 rfl)
            rw [is_gap HISB.out hk8] at hhs
            have HY := Lib.hid (hks.blk 0 rfl)
            have HK := Lib.hid hks
            clear hks hle hbk hak hokb hk8
            go_wp2
            refine wp_loop_rounds 2 ?_
            rw [rounds_succ]
            go_wp2_with (refine wpList_load_row rfl 27 _ rfl (w.heap.size + 1) rfl 27 #[.int .u32 (b 0), .int .u32 (b 1), .int .u32 (b 2), .int .u32 (b 3), .int .u32 (b 4), .int .u32 (b 5), .int .u32 (b 6), .int .u32 (b 7), .slice al' len' cap'] (0, 0) _ HY.out Try.underlying27 rfl (by kernel_rfl) ?_)
            refine hhs.mono ?_
            clear hhs
            rintro e w5 ⟨rfl, b5⟩
            have H5 := Lib.hid (HK.out.next b5); clear b5
            go_wp2
            go_ret
            exact ⟨by rw [HLP.out, HLE.out]; rfl, H5.out.bel⟩
        · have HV : Hid (leV a b = true) := Lib.hid (leV_iff.2 fun i hi => HO.out i (by omega))
          have hge : (8 : Int) ≤ (k : Int) := by omega
          have HKS := Lib.hid hks
          clear hks hk hk8 HO
          go_wp2
          clear hge
          go_loopw [7] (fun s7 wr => ∃ k : Nat, s7 = .int .i64 k ∧ k ≤ len ∧ (∀ j x, j < k → A[j]? = some x → hasC b B x.1 x.2 = true) ∧ KS w [(w.heap.size + 1, #[.int .u32 (b 0), .int .u32 (b 1), .int .u32 (b 2), .int .u32 (b 3), .int .u32 (b 4), .int .u32 (b 5), .int .u32 (b 6), .int .u32 (b 7), .slice al' len' cap'], 27), (w.heap.size, #[.int .u32 (a 0), .int .u32 (a 1), .int .u32 (a 2), .int .u32 (a 3), .int .u32 (a 4), .int .u32 (a 5), .int .u32 (a 6), .int .u32 (a 7), .slice al len cap], 27)] [(al', len', cap', B), (al, len, cap, A)] wr) (fun s7 _ => len - (intOf s7).toNat)
          case atStart => exact ⟨0, rfl, by omega, fun j x hj => by omega, HKS.out⟩
          case round =>
            obtain ⟨k, rfl, hk, hold, hks⟩ := hrel
            have HO := Lib.hid hold; clear hold
            have HK := Lib.hid hks
            have x8 := (cut_cells (hks.blk 1 rfl)).2.2.2.2.2.2.2.2
            by_cases hkl : k < len
            · obtain ⟨bb, off, o, q, rfl, hx, i0, i1⟩ := (hks.ids 1 rfl).nth k hkl
              have HXX := Lib.hid hx
              have hk0 : (0 : Int) ≤ (k : Int) := by omega
              have hkl' : (k : Int) < len := by omega
              have HKL := Lib.hid hkl
              clear hks hx i0 i1
              obtain ⟨t, hh⟩ : ∃ t, hasC b B o q = t := ⟨_, rfl⟩
              have HH := Lib.hid hh; clear hh
              go_wp2_with fail
              refine wp_region_held_drew (S := KS w [(w.heap.size + 1, #[.int .u32 (b 0), .int .u32 (b 1), .int .u32 (b 2), .int .u32 (b 3), .int .u32 (b 4), .int .u32 (b 5), .int .u32 (b 6), .int .u32 (b 7), .slice al' len' cap'], 27), (w.heap.size, #[.int .u32 (a 0), .int .u32 (a 1), .int .u32 (a 2), .int .u32 (a 3), .int .u32 (a 4), .int .u32 (a 5), .int .u32 (a 6), .int .u32 (a 7), .slice (some ⟨bb, off, none⟩) len cap], 27)] [(al', len', cap', B), (some ⟨bb, off, none⟩, len, cap, A)]) (by kernel_rfl) HK.out.drew (fun _ => ?_)
              have HS := Lib.hid HK.out.drew
              refine wpAnyH_take (i := 0) (oi := ⟨some 46, _, _, _, _, _⟩) (v := ?_) rfl (by kernel_rfl) (by kernel_rfl) (by kernel_rfl) (fun _ _ _ h => h) (Or.inl ⟨by rfl, ?_⟩) HS.out ?_
              rotate_left
              · intro w' hSw; obtain ⟨y0, y1, y2, y3, y4, y5, y6, y7, y8⟩ := cut_cells (hSw.blk 0 rfl); have z8 := (cut_cells (hSw.blk 1 rfl)).2.2.2.2.2.2.2.2; obtain ⟨j0, j1⟩ := ids_elem (hSw.ids 1 rfl) HKL.out HXX.out; go_simp; try (with_reducible rfl)
              try simp only [Act.put, List.setIfInBounds_toArray, List.set_cons_zero, List.set_cons_succ]
              refine wpAnyH_take (i := 1) (oi := ⟨some 47, _, _, _, _, _⟩) (v := ?_) rfl (by kernel_rfl) (by kernel_rfl) (by kernel_rfl) (fun _ _ _ h => h) (Or.inl ⟨by rfl, ?_⟩) HS.out ?_
              rotate_left
              · intro w' hSw; clear hSw; go_simp; try (with_reducible rfl)
              try simp only [Act.put, List.setIfInBounds_toArray, List.set_cons_zero, List.set_cons_succ]
              refine wpAnyH_take (i := 2) (oi := ⟨some 48, _, _, _, _, _⟩) (v := ?_) rfl (by kernel_rfl) (by kernel_rfl) (by kernel_rfl) (fun _ _ _ h => h) (Or.inl ⟨by rfl, ?_⟩) HS.out ?_
              rotate_left
              · intro w' hSw; obtain ⟨y0, y1, y2, y3, y4, y5, y6, y7, y8⟩ := cut_cells (hSw.blk 0 rfl); have z8 := (cut_cells (hSw.blk 1 rfl)).2.2.2.2.2.2.2.2; obtain ⟨j0, j1⟩ := ids_elem (hSw.ids 1 rfl) HKL.out HXX.out; go_simp; try (with_reducible rfl)
              try simp only [Act.put, List.setIfInBounds_toArray, List.set_cons_zero, List.set_cons_succ]
              refine wpAnyH_take (i := 3) (oi := ⟨some 49, _, _, _, _, _⟩) (v := ?_) rfl (by kernel_rfl) (by kernel_rfl) (by kernel_rfl) (fun _ _ _ h => h) (Or.inl ⟨by rfl, ?_⟩) HS.out ?_
              rotate_left
              · intro w' hSw; clear hSw; go_simp; try (with_reducible rfl)
              try simp only [Act.put, List.setIfInBounds_toArray, List.set_cons_zero, List.set_cons_succ]
              refine wpAnyH_take (i := 4) (oi := ⟨some 50, _, _, _, _, _⟩) (v := ?_) rfl (by kernel_rfl) (by kernel_rfl) (by kernel_rfl) (fun _ _ _ h => h) (Or.inl ⟨by rfl, ?_⟩) HS.out ?_
              rotate_left
              · intro w' hSw; clear hSw; go_simp; try (with_reducible rfl)
              try simp only [Act.put, List.setIfInBounds_toArray, List.set_cons_zero, List.set_cons_succ]
              refine wpAnyH_take (i := 5) (oi := ⟨some 51, _, _, _, _, _⟩) (v := ?_) rfl (by kernel_rfl) (by kernel_rfl) (by kernel_rfl) (fun _ _ _ h => h) (Or.inl ⟨by rfl, ?_⟩) HS.out ?_
              rotate_left
              · intro w' hSw; obtain ⟨y0, y1, y2, y3, y4, y5, y6, y7, y8⟩ := cut_cells (hSw.blk 0 rfl); have z8 := (cut_cells (hSw.blk 1 rfl)).2.2.2.2.2.2.2.2; obtain ⟨j0, j1⟩ := ids_elem (hSw.ids 1 rfl) HKL.out HXX.out; go_simp; try (with_reducible rfl)
              try simp only [Act.put, List.setIfInBounds_toArray, List.set_cons_zero, List.set_cons_succ]
              refine wpAnyH_ready (rs := [6]) (by kernel_rfl) (by simp) ?_
              refine AllReadyH.cons (o := ⟨some 52, _, _, _, _, _⟩) rfl (fun K hK => ?_) AllReadyH.nil
              go_simp
              go_at_call 19
              refine (rHas_cut b al' len' cap' B o q _ (HS.out.ids 0 rfl)).mono ?_
              rw [HH.out]
              rintro e w5 ⟨rfl, b5⟩
              have HS := Lib.hid (HS.out.next b5)
              clear b5
              go_wp2_with fail
              refine hK.out _ _ HS.out (fun _ => ?_)
              clear hK K
              try simp only [Act.put, List.setIfInBounds_toArray, List.set_cons_zero, List.set_cons_succ]
              refine wpAnyH_take (i := 7) (oi := ⟨some 53, _, _, _, _, _⟩) (v := ?_) rfl (by kernel_rfl) (by kernel_rfl) (by kernel_rfl) (fun _ _ _ h => h) (Or.inl ⟨by rfl, ?_⟩) HS.out ?_
              rotate_left
              · intro w' hSw; clear hSw; go_simp; try (with_reducible rfl)
              try simp only [Act.put, List.setIfInBounds_toArray, List.set_cons_zero, List.set_cons_succ]
              refine wpAnyH_done (by kernel_rfl) ?_ _
              cases t with
              | true =>
                go_wp2
                go_roundw
                case rel => exact ⟨k + 1, by go_num, by omega, fun j x hj hx => by
                  by_cases e : j = k
                  · subst e; rw [HXX.out] at hx; cases hx; exact HH.out
                  · exact HO.out j x (by omega) hx, HS.out⟩
                case measure => simp [intOf]; omega
              | false =>
                have HLE := Lib.hid (leC_no (a := a) (B := B) (b := b) HXX.out HH.out)
                go_wp2
                go_ret
                exact ⟨by rw [HLP.out, HLE.out]; rfl, HS.out.bel⟩
            · have HLE : Hid (leC a A b B = true) := Lib.hid (leC_yes HV.out fun j x hj hx => HO.out j x (by have := HLN.out; omega) hx)
              have hkk : (len : Int) ≤ k := by omega
              clear hks
              go_wp2
              go_ret
              exact ⟨by rw [HLP.out, HLE.out]; rfl, HK.out.bel⟩
    · have HLP : Hid (leD a A b B = false) := Lib.hid (leD_b (by rw [hd]; exact hd0))
      have HD := Lib.hid hd
      have hn : (d != 0) = true := by simpa using hd0
      clear hc hd hd0
      go_enter Try.func24, Try.ntmps24
      go_wp2_with (refine wpList_load_row rfl 27 _ rfl (w.heap.size) rfl 27 #[.int .u32 (a 0), .int .u32 (a 1), .int .u32 (a 2), .int .u32 (a 3), .int .u32 (a 4), .int .u32 (a 5), .int .u32 (a 6), .int .u32 (a 7), .slice al len cap] (0, 0) _ HX.out Try.underlying27 rfl (by kernel_rfl) ?_)
      refine hck.mono ?_
      clear hck
      rintro e w1 ⟨rfl, b1⟩
      have h1 := H0.out.next b1
      have H1 := Lib.hid h1
      obtain ⟨y0, y1, y2, y3, y4, y5, y6, y7, y8⟩ := cut_cells (h1.blk 0 rfl)
      have hck := rCheck_any b al' len' cap' B _ (h1.ids 0 rfl) HIN'.out
      rw [HD.out] at hck
      clear b1 h1
      go_wp2_with fail
      refine hck.mono ?_
      clear hck
      rintro e w2 ⟨rfl, b2⟩
      have H2 := Lib.hid (H1.out.next b2); clear b2
      go_wp2
      go_ret
      exact ⟨by rw [HLP.out]; rfl, H2.out.bel⟩
  · have HLP : Hid (leD a A b B = false) := Lib.hid (leD_a (by rw [hc]; exact hc0))
    have hn : (c != 0) = true := by simpa using hc0
    clear hc hc0
    go_enter Try.func24, Try.ntmps24
    go_wp2_with (refine wpList_load_row rfl 27 _ rfl (w.heap.size) rfl 27 #[.int .u32 (a 0), .int .u32 (a 1), .int .u32 (a 2), .int .u32 (a 3), .int .u32 (a 4), .int .u32 (a 5), .int .u32 (a 6), .int .u32 (a 7), .slice al len cap] (0, 0) _ HX.out Try.underlying27 rfl (by kernel_rfl) ?_)
    refine hck.mono ?_
    clear hck
    rintro e w1 ⟨rfl, b1⟩
    have H1 := Lib.hid (H0.out.next b1); clear b1
    go_wp2
    go_ret
    exact ⟨by rw [HLP.out]; rfl, H1.out.bel⟩
end Go.Proofs.Ythbdjgebpjffgaa
