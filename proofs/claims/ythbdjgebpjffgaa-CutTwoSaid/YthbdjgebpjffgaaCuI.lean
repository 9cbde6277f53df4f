/-
  Package cut's LE.
  Conditions: none.
-/
import Derived.Test.YthbdjgebpjffgaaCuF
set_option linter.unusedVariables false
set_option linter.unusedSimpArgs false
namespace Go.Proofs.Ythbdjgebpjffgaa
open Go.RowKit Go.Shelf Go.Lib Go.Sort

/-- What LE tells. -/
def leP (a : Nat → Int) (A : List (Int × Int)) (b : Nat → Int) (B : List (Int × Int)) : Bool := decide (ckC a A = 0) && (decide (ckC b B = 0) && leC a A b B)
theorem leP_a {a b : Nat → Int} {A B : List (Int × Int)} (h : ¬ ckC a A = 0) : leP a A b B = false := by unfold leP; rw [decide_eq_false h]; rfl
theorem leP_b {a b : Nat → Int} {A B : List (Int × Int)} (h : ¬ ckC b B = 0) : leP a A b B = false := by unfold leP; rw [decide_eq_false h, Bool.false_and, Bool.and_false]
theorem leP_c {a b : Nat → Int} {A B : List (Int × Int)} (h : ckC a A = 0) (k : ckC b B = 0) : leP a A b B = leC a A b B := by unfold leP; rw [decide_eq_true h, decide_eq_true k]; rfl
theorem leC_vec {a b : Nat → Int} {A B : List (Int × Int)} (h : leV a b = false) : leC a A b B = false := by unfold leC; rw [h]; rfl
theorem leC_no {a b : Nat → Int} {A B : List (Int × Int)} {k : Nat} {o q : Int} (hx : A[k]? = some (o, q)) (h : hasC b B o q = false) : leC a A b B = false := by
  cases e : leC a A b B
  · rfl
  · rw [(leC_iff.1 e).2 o q (List.mem_of_getElem? hx)] at h; exact absurd h (by decide)
theorem leC_yes {a b : Nat → Int} {A B : List (Int × Int)} (h : leV a b = true) (k : ∀ j x, j < A.length → A[j]? = some x → hasC b B x.1 x.2 = true) : leC a A b B = true :=
  leC_iff.2 ⟨h, fun o q hx => by
    obtain ⟨j, hj, e⟩ := List.mem_iff_getElem.1 hx
    exact k j (o, q) hj (by rw [List.getElem?_eq_getElem hj, e])⟩

set_option maxRecDepth 100000 in
set_option maxHeartbeats 4000000 in
theorem cLE_any (a b : Nat → Int) (al al' : Option Addr) (len cap len' cap' : Nat) (A B : List (Int × Int)) (w : World) (hA : Ids w al len cap A) (hB : Ids w al' len' cap' B) (hF : Flat al) (hF' : Flat al') (ha : InB a) (hb : InB b) :
    Calls Try.prog 23 #[.agg #[.int .u32 (a 0), .int .u32 (a 1), .int .u32 (a 2), .int .u32 (a 3), .int .u32 (a 4), .int .u32 (a 5), .int .u32 (a 6), .int .u32 (a 7), .slice al len cap], .agg #[.int .u32 (b 0), .int .u32 (b 1), .int .u32 (b 2), .int .u32 (b 3), .int .u32 (b 4), .int .u32 (b 5), .int .u32 (b 6), .int .u32 (b 7), .slice al' len' cap']] w fun e w' => e = .returned (.bool (leP a A b B)) ∧ Below w.heap.size w w' := by
  have h0 := ((((KS.nil w).add hA).add hB).box rfl #[.int .u32 (a 0), .int .u32 (a 1), .int .u32 (a 2), .int .u32 (a 3), .int .u32 (a 4), .int .u32 (a 5), .int .u32 (a 6), .int .u32 (a 7), .slice al len cap] 31).box (g := w.heap.size + 1) (by simp) #[.int .u32 (b 0), .int .u32 (b 1), .int .u32 (b 2), .int .u32 (b 3), .int .u32 (b 4), .int .u32 (b 5), .int .u32 (b 6), .int .u32 (b 7), .slice al' len' cap'] 31
  have H0 := Lib.hid h0
  have HX := Lib.hid (h0.blk 1 rfl)
  have hck := cCheck_any a al len cap A _ (h0.ids 1 rfl) hF ha
  have HIN' := Lib.hid hb
  have hcap := hA.bd
  have hfit := hA.fit
  have HLN := Lib.hid hA.ln
  clear h0 hA hB hb
  obtain ⟨c, hc⟩ : ∃ c, ckC a A = c := ⟨_, rfl⟩
  rw [hc] at hck
  by_cases hc0 : c = 0
  · subst hc0
    have HC := Lib.hid hc
    obtain ⟨d, hd⟩ : ∃ d, ckC b B = d := ⟨_, rfl⟩
    by_cases hd0 : d = 0
    · subst hd0
      have HD := Lib.hid hd
      have HLP := Lib.hid (leP_c hc hd)
      clear hc hd
      cases hv : leV a b with
      | false =>
        have HLE := Lib.hid (leC_vec (A := A) (B := B) hv)
        have HV := Lib.hid hv; clear hv
        go_enter Try.func23, Try.ntmps23
        go_wp2_with (refine wpList_load_row rfl 31 _ rfl w.heap.size rfl 31 #[.int .u32 (a 0), .int .u32 (a 1), .int .u32 (a 2), .int .u32 (a 3), .int .u32 (a 4), .int .u32 (a 5), .int .u32 (a 6), .int .u32 (a 7), .slice al len cap] (0, 0) _ HX.out Try.underlying31 rfl (by kernel_rfl) ?_)
        refine hck.mono ?_
        clear hck
        rintro e w1 ⟨rfl, b1⟩
        have h1 := H0.out.next b1
        have H1 := Lib.hid h1
        have HY := Lib.hid (h1.blk 0 rfl)
        have hck := cCheck_any b al' len' cap' B _ (h1.ids 0 rfl) hF' HIN'.out
        rw [HD.out] at hck
        clear b1 h1
        obtain ⟨y0, y1, y2, y3, y4, y5, y6, y7, y8⟩ := cut_cells HY.out
        go_wp2_with fail
        refine hck.mono ?_
        clear hck
        rintro e w2 ⟨rfl, b2⟩
        have h2 := H1.out.next b2
        have H2 := Lib.hid h2
        obtain ⟨x0, x1, x2, x3, x4, x5, x6, x7, x8⟩ := cut_cells (h2.blk 1 rfl)
        obtain ⟨y0, y1, y2, y3, y4, y5, y6, y7, y8⟩ := cut_cells (h2.blk 0 rfl)
        clear b2 h2
        go_wp2_with fail
        refine (le_any a b _).mono ?_
        rw [HV.out]
        rintro e w3 ⟨rfl, b3⟩
        have H3 := Lib.hid (H2.out.next b3); clear b3
        go_wp2
        go_ret
        exact ⟨by rw [HLP.out, HLE.out]; rfl, H3.out.bel⟩
      | true =>
        have HV := Lib.hid hv; clear hv
        go_enter Try.func23, Try.ntmps23
        go_wp2_with (refine wpList_load_row rfl 31 _ rfl w.heap.size rfl 31 #[.int .u32 (a 0), .int .u32 (a 1), .int .u32 (a 2), .int .u32 (a 3), .int .u32 (a 4), .int .u32 (a 5), .int .u32 (a 6), .int .u32 (a 7), .slice al len cap] (0, 0) _ HX.out Try.underlying31 rfl (by kernel_rfl) ?_)
        refine hck.mono ?_
        clear hck
        rintro e w1 ⟨rfl, b1⟩
        have h1 := H0.out.next b1
        have H1 := Lib.hid h1
        have HY := Lib.hid (h1.blk 0 rfl)
        have hck := cCheck_any b al' len' cap' B _ (h1.ids 0 rfl) hF' HIN'.out
        rw [HD.out] at hck
        clear b1 h1
        obtain ⟨y0, y1, y2, y3, y4, y5, y6, y7, y8⟩ := cut_cells HY.out
        go_wp2_with fail
        refine hck.mono ?_
        clear hck
        rintro e w2 ⟨rfl, b2⟩
        have h2 := H1.out.next b2
        have H2 := Lib.hid h2
        obtain ⟨x0, x1, x2, x3, x4, x5, x6, x7, x8⟩ := cut_cells (h2.blk 1 rfl)
        obtain ⟨y0, y1, y2, y3, y4, y5, y6, y7, y8⟩ := cut_cells (h2.blk 0 rfl)
        clear b2 h2
        go_wp2_with fail
        refine (le_any a b _).mono ?_
        rw [HV.out]
        rintro e w3 ⟨rfl, b3⟩
        have h3 := H2.out.next b3
        have H3 := Lib.hid h3
        have x8' := (cut_cells (h3.blk 1 rfl)).2.2.2.2.2.2.2.2
        clear b3 h3 x0 x1 x2 x3 x4 x5 x6 x7 x8 y0 y1 y2 y3 y4 y5 y6 y7 y8
        go_wp2
        go_loopw [24] (fun i wr => ∃ k : Nat, i = .int .i64 k ∧ k ≤ len ∧ (∀ j x, j < k → A[j]? = some x → hasC b B x.1 x.2 = true) ∧ KS w [(w.heap.size + 1, #[.int .u32 (b 0), .int .u32 (b 1), .int .u32 (b 2), .int .u32 (b 3), .int .u32 (b 4), .int .u32 (b 5), .int .u32 (b 6), .int .u32 (b 7), .slice al' len' cap'], 31), (w.heap.size, #[.int .u32 (a 0), .int .u32 (a 1), .int .u32 (a 2), .int .u32 (a 3), .int .u32 (a 4), .int .u32 (a 5), .int .u32 (a 6), .int .u32 (a 7), .slice al len cap], 31)] [(al', len', cap', B), (al, len, cap, A)] wr) (fun i _ => len - (intOf i).toNat)
        case atStart => exact ⟨0, rfl, by omega, fun j x hj => by omega, H3.out⟩
        case round =>
          obtain ⟨k, rfl, hk, hold, hks⟩ := hrel
          have HO := Lib.hid hold; clear hold
          have HK := Lib.hid hks
          by_cases hkl : k < len
          · obtain ⟨bb, off, o, q, rfl, hx, i0, i1⟩ := (hks.ids 1 rfl).nth k hkl
            have h4 := hks.box (g := wr.heap.size) rfl #[.int .i64 o, .int .u32 q] 29
            have H4 := Lib.hid h4
            have HY4 := Lib.hid (h4.blk 1 rfl)
            have HXX := Lib.hid hx
            clear hks hx h4 x8'
            have hhs := cHas_cut b al' len' cap' B o q _ (H4.out.ids 0 rfl)
            cases hh : hasC b B o q with
            | true =>
              have HH := Lib.hid hh
              rw [hh] at hhs
              clear hh
              go_wp2_with (refine wpList_load_row rfl 31 _ rfl (w.heap.size + 1) rfl 31 #[.int .u32 (b 0), .int .u32 (b 1), .int .u32 (b 2), .int .u32 (b 3), .int .u32 (b 4), .int .u32 (b 5), .int .u32 (b 6), .int .u32 (b 7), .slice al' len' cap'] (0, 0) _ HY4.out Try.underlying31 rfl (by kernel_rfl) ?_)
              refine hhs.mono ?_
              clear hhs
              rintro e w5 ⟨rfl, b5⟩
              have H5 := Lib.hid ((H4.out.next b5).drop (Bs' := [(w.heap.size + 1, #[.int .u32 (b 0), .int .u32 (b 1), .int .u32 (b 2), .int .u32 (b 3), .int .u32 (b 4), .int .u32 (b 5), .int .u32 (b 6), .int .u32 (b 7), .slice al' len' cap'], 31), (w.heap.size, #[.int .u32 (a 0), .int .u32 (a 1), .int .u32 (a 2), .int .u32 (a 3), .int .u32 (a 4), .int .u32 (a 5), .int .u32 (a 6), .int .u32 (a 7), .slice (some ⟨bb, off, none⟩) len cap], 31)]) (fun x hx => List.mem_cons_of_mem _ hx) (fun r hr => hr)); clear b5
              go_wp2
              go_roundw
              case rel => exact ⟨k + 1, by go_num, by omega, fun j x hj hx => by
                by_cases e : j = k
                · subst e; rw [HXX.out] at hx; cases hx; exact HH.out
                · exact HO.out j x (by omega) hx, H5.out⟩
              case measure => simp [intOf]; omega
            | false =>
              have HLE := Lib.hid (leC_no (a := a) (B := B) (b := b) HXX.out hh)
              rw [hh] at hhs
              clear hh
              go_wp2_with (refine wpList_load_row rfl 31 _ rfl (w.heap.size + 1) rfl 31 #[.int .u32 (b 0), .int .u32 (b 1), .int .u32 (b 2), .int .u32 (b 3), .int .u32 (b 4), .int .u32 (b 5), .int .u32 (b 6), .int .u32 (b 7), .slice al' len' cap'] (0, 0) _ HY4.out Try.underlying31 rfl (by kernel_rfl) ?_)
              refine hhs.mono ?_
              clear hhs
              rintro e w5 ⟨rfl, b5⟩
              have H5 := Lib.hid (H4.out.next b5); clear b5
              go_wp2
              go_ret
              exact ⟨by rw [HLP.out, HLE.out]; rfl, H5.out.bel⟩
          · have HLE : Hid (leC a A b B = true) := Lib.hid (leC_yes HV.out fun j x hj hx => HO.out j x (by have := HLN.out; omega) hx)
            have hkk : (len : Int) ≤ k := by omega
            clear hks
            go_wp2
            go_ret
            exact ⟨by rw [HLP.out, HLE.out]; rfl, HK.out.bel⟩
    · have HLP : Hid (leP a A b B = false) := Lib.hid (leP_b (by rw [hd]; exact hd0))
      have HD := Lib.hid hd
      have hn : (d != 0) = true := by simpa using hd0
      clear hc hd hd0
      go_enter Try.func23, Try.ntmps23
      go_wp2_with (refine wpList_load_row rfl 31 _ rfl w.heap.size rfl 31 #[.int .u32 (a 0), .int .u32 (a 1), .int .u32 (a 2), .int .u32 (a 3), .int .u32 (a 4), .int .u32 (a 5), .int .u32 (a 6), .int .u32 (a 7), .slice al len cap] (0, 0) _ HX.out Try.underlying31 rfl (by kernel_rfl) ?_)
      refine hck.mono ?_
      clear hck
      rintro e w1 ⟨rfl, b1⟩
      have h1 := H0.out.next b1
      have H1 := Lib.hid h1
      have HY := Lib.hid (h1.blk 0 rfl)
      have hck := cCheck_any b al' len' cap' B _ (h1.ids 0 rfl) hF' HIN'.out
      rw [HD.out] at hck
      clear b1 h1
      obtain ⟨y0, y1, y2, y3, y4, y5, y6, y7, y8⟩ := cut_cells HY.out
      go_wp2_with fail
      refine hck.mono ?_
      clear hck
      rintro e w2 ⟨rfl, b2⟩
      have H2 := Lib.hid (H1.out.next b2); clear b2
      go_wp2
      go_ret
      exact ⟨by rw [HLP.out]; rfl, H2.out.bel⟩
  · have HLP : Hid (leP a A b B = false) := Lib.hid (leP_a (by rw [hc]; exact hc0))
    have hn : (c != 0) = true := by simpa using hc0
    clear hc hc0
    go_enter Try.func23, Try.ntmps23
    go_wp2_with (refine wpList_load_row rfl 31 _ rfl w.heap.size rfl 31 #[.int .u32 (a 0), .int .u32 (a 1), .int .u32 (a 2), .int .u32 (a 3), .int .u32 (a 4), .int .u32 (a 5), .int .u32 (a 6), .int .u32 (a 7), .slice al len cap] (0, 0) _ HX.out Try.underlying31 rfl (by kernel_rfl) ?_)
    refine hck.mono ?_
    clear hck
    rintro e w1 ⟨rfl, b1⟩
    have H1 := Lib.hid (H0.out.next b1); clear b1
    go_wp2
    go_ret
    exact ⟨by rw [HLP.out]; rfl, H1.out.bel⟩
end Go.Proofs.Ythbdjgebpjffgaa
