/-
  Package dots' Minus.
  Conditions: none.
-/
import Derived.Test.YtgcmlefalilodaaDotP
namespace Go.Proofs.Ytgcmlefalilodaa
open Go.RowKit Go.Shelf Go.Lib Go.Sort
attribute [local go_sem] Oper.semAt_some

set_option maxRecDepth 100000 in
set_option maxHeartbeats 4000000 in
theorem minus_any (al al' : Option Addr) (len cap len' cap' : Nat) (L M : List (Int × Int)) (w : World) (hL : Ids w al len cap L) (hM : Ids w al' len' cap' M) :
    Calls Try.prog 19 #[.slice al len cap, .slice al' len' cap'] w fun e w' => ∃ al2 cap2, e = .returned (.tuple #[.slice al2 (miS L M).length cap2, .int .i64 (twoC L M)]) ∧ Ids w' al2 (miS L M).length cap2 (miS L M) ∧ Below w.heap.size w w' := by
  obtain ⟨ti, hi, hz0, hz1, hz2⟩ := info_parts Try.infoId
  have HL := Lib.hid hL; clear hL
  have HM := Lib.hid hM; clear hM
  refine (callsIn_wide (n := 3)).1 ?_
  refine callsIn_of_wp_marks Try.func19 rfl trivial ?_ rfl
  simp only [Try.ntmps19, List.size_toArray, List.length_cons, List.length_nil, Nat.reduceAdd, Nat.reduceSub, Array.replicate_succ, Array.replicate_zero, List.push_toArray, List.append_toArray, List.nil_append, List.cons_append]
  refine wpIn_wide.2 ?_
  go_wp2_with fail
  refine (dCheck_any al len cap L _ HL.out).mono ?_
  rintro e w1 ⟨rfl, b1⟩
  have HB1 := Lib.hid b1; clear b1
  go_wp2_with fail
  refine (dCheck_any al' len' cap' M _ (HM.out.below HB1.out)).mono ?_
  rintro e w2 ⟨rfl, b2⟩
  have HB2 := Lib.hid (below_then HB1.out b2); clear b2
  go_wp2_with fail
  refine (orE_any w2.heap.size _ _ _ (Blk.new _ _ _)).mono ?_
  rintro e w3 ⟨rfl, rfl⟩
  have HC : Hid (orZ (chkS L) (chkS M) = twoC L M) := Lib.hid rfl
  rw [HC.out]
  by_cases hc : twoC L M = 0
  · have HT := Lib.hid hc
    rw [hc]
    clear hc
    go_wp2_with fail
    refine (merge_any al al' len cap len' cap' _).mono ?_
    rintro e w5 ⟨rfl, rfl⟩
    go_wp2_with fail
    refine (wpIn_wide (n := 3)).1 ?_
    have hb4 : Below w.heap.size w ((((w2.alloc (.cells #[.int .i64 (chkS L), .int .i64 (chkS M)] 28)).alloc (.cells #[.slice none 0 0] 22)).alloc (.cells #[.slice al len cap] 22)).alloc (.cells #[.slice al' len' cap'] 22)) := below_new (below_new (below_new (below_new HB2.out _) _) _) _
    have hx1 : Boxed ((((w2.alloc (.cells #[.int .i64 (chkS L), .int .i64 (chkS M)] 28)).alloc (.cells #[.slice none 0 0] 22)).alloc (.cells #[.slice al len cap] 22)).alloc (.cells #[.slice al' len' cap'] 22)) (w2.heap.size + 1) 22 (.slice none 0 0) := by
      have := Boxed.new (w2.alloc (.cells #[.int .i64 (chkS L), .int .i64 (chkS M)] 28)) 22 (.slice none 0 0)
      rw [World.size_alloc] at this
      exact (this.alloc _).alloc _
    have hx2 : Boxed ((((w2.alloc (.cells #[.int .i64 (chkS L), .int .i64 (chkS M)] 28)).alloc (.cells #[.slice none 0 0] 22)).alloc (.cells #[.slice al len cap] 22)).alloc (.cells #[.slice al' len' cap'] 22)) (w2.heap.size + 1 + 1) 22 (.slice al len cap) := by
      have := Boxed.new ((w2.alloc (.cells #[.int .i64 (chkS L), .int .i64 (chkS M)] 28)).alloc (.cells #[.slice none 0 0] 22)) 22 (.slice al len cap)
      rw [World.size_alloc, World.size_alloc] at this
      exact this.alloc _
    have hx3 : Boxed ((((w2.alloc (.cells #[.int .i64 (chkS L), .int .i64 (chkS M)] 28)).alloc (.cells #[.slice none 0 0] 22)).alloc (.cells #[.slice al len cap] 22)).alloc (.cells #[.slice al' len' cap'] 22)) (w2.heap.size + 1 + 1 + 1) 22 (.slice al' len' cap') := by
      have := Boxed.new (((w2.alloc (.cells #[.int .i64 (chkS L), .int .i64 (chkS M)] 28)).alloc (.cells #[.slice none 0 0] 22)).alloc (.cells #[.slice al len cap] 22)) 22 (.slice al' len' cap')
      rw [World.size_alloc, World.size_alloc, World.size_alloc] at this
      exact this
    have hgw := HB2.out.size
    generalize hW5 : ((((w2.alloc (.cells #[.int .i64 (chkS L), .int .i64 (chkS M)] 28)).alloc (.cells #[.slice none 0 0] 22)).alloc (.cells #[.slice al len cap] 22)).alloc (.cells #[.slice al' len' cap'] 22)) = W5 at hb4 hx1 hx2 hx3 ⊢
    have hsz : W5.heap.size = w2.heap.size + 4 := by rw [← hW5]; simp
    clear hW5
    generalize w2.heap.size = g at hx1 hx2 hx3 hgw hsz ⊢
    have hlen : (mrg L M).length ≤ 128 := by
      obtain ⟨c1, c2⟩ := two_zero HT.out
      have := (chkS_zero c1).1
      have := (chkS_zero c2).1
      have := mrg_len L M
      omega
    have HSZ := Lib.hid hsz; clear hsz
    have HB4 := Lib.hid hb4
    have HX1 := Lib.hid hx1
    have HLEN := Lib.hid hlen; clear hlen
    refine wpIn_rangeFunc_ownH rfl (by omega) (gf := 65) (lb := #[.pointer (some ⟨g + 1 + 1, 0, none⟩), .pointer (some ⟨g + 1 + 1 + 1, 0, none⟩)]) rfl trivial (enters_of Try.func65 (by kernel_rfl) rfl)
      (encs := encM) (Kp := Below w.heap.size) (S := fun ys => ys = mrg L M) (Sp := fun pre => pre <+: mrg L M) (N := (mrg L M).length) (w0 := W5)
      (fun l J Jx W hWW hJ _ hY h0 => merge1_in 2 (by omega) l (g + 1 + 1) (g + 1 + 1 + 1) w al al' len cap len' cap' L M J Jx _ hJ hY W (HB4.out.trans (hWW.mono (by have := HB4.out.size; omega))) HL.out HM.out ((hWW.cell (p := ⟨g + 1 + 1, 0, none⟩) hx2.lt).trans hx2.cell) ((hWW.cell (p := ⟨g + 1 + 1 + 1, 0, none⟩) hx3.lt).trans hx3.cell) h0)
      belowK_t (belowK_b (by have := HB4.out.size; omega)) (Below.refl _ _) (fun _ => rfl)
      (fun pre W => (∃ v, Boxed W (g + 1) 22 v ∧ W.ownsRow w.heap.size 25 2 v (onlyA pre).length (idCs (onlyA pre)) ∧ True) ∧ Below w.heap.size w W)
      (fun _ _ _ => False)
      (OwnFrom.and (Go.Own.from (holdsRow_own w.heap.size (g + 1) 22 25 2 (fun pre : List ((Int × Int) × Nat) => (onlyA pre).length) (fun pre => idCs (onlyA pre)) (fun _ _ => True)) _) (ownFrom_below (Nat.le_refl _) (by have := HB4.out.size; omega)))
      (fun _ _ _ _ _ hs _ _ => hs)
      ⟨⟨_, hx1, World.ownsRow_nil _ _ _ _, trivial⟩, hb4⟩
      (fun x a' W => ∃ Bv, g + 1 < Bv ∧ Blk W Bv #[.int .i64 x.1.1, .int .u32 x.1.2] 25 ∧ a' = { tmps := #[.slice al len cap, .slice al' len' cap', undef, undef, .slice none 0 0, .int .i64 0, .int .i64 0, .pointer (some ⟨g + 1, 0, none⟩), .pointer (some ⟨Bv, 0, none⟩), .int .u8 (x.2 : Int), .slice al len cap, .int .i64 (chkS L), .slice al' len' cap', .int .i64 (chkS M), .slice (some ⟨g, 0, none⟩) 2 2, .int .i64 0, .int .i64 0, .bool false, undef, .slice al len cap, .slice al' len' cap', .func (.func 65) #[] #[.pointer (some ⟨g + 1 + 1, 0, none⟩), .pointer (some ⟨g + 1 + 1 + 1, 0, none⟩)], .agg #[.int .i64 x.1.1, .int .u32 x.1.2], .int .u8 (x.2 : Int), undef, undef, undef, undef, undef, undef, undef], defers := [] })
      (fun x a' => Go.Own.from (fun s A B row ⟨Bv, h1, h2, h3⟩ hg hr => ⟨Bv, h1, blk_own (β := Unit) Bv _ _ s A B row h2 hg hr, h3⟩) _)
      ?assign ?body ?done ?stop
    case assign =>
      rintro l pre x W K ⟨⟨v, hv, hrow, _⟩, hB⟩ hK
      have hvl := hv.lt
      simp only [encM]
      gi_wp2
      exact hK _ _ ((KeepsOthers.alloc _ _).from _) ((Below.refl _ W).alloc hB.size _) ⟨⟨v, hv.alloc _, hrow.alloc _, trivial⟩, below_new hB _⟩ ⟨W.heap.size, hvl, Blk.new _ _ _, rfl⟩
    case body =>
      rintro l pre x a' W hl ⟨r, hr⟩ ⟨⟨v, hv, hrow, _⟩, hB⟩ ⟨Bv, hBv, hblk, rfl⟩ hlt
      have hc := hv.cell
      have d0 : W.cell? ⟨Bv, 0, none⟩ = some (.int .i64 x.1.1) := by rw [Blk.cell hblk]; rfl
      have d1 : W.cell? ⟨Bv, 1, none⟩ = some (.int .u32 x.1.2) := by rw [Blk.cell hblk]; rfl
      have hbs := hB.size
      have hll := HLEN.out
      have hol : (onlyA pre).length ≤ pre.length := by unfold onlyA; rw [List.length_map]; exact List.length_filter_le _ _
      by_cases hx : x.2 = 1
      · have hx1 : ((x.2 : Int) == 1) = true := by simp; omega
        gi_wp2_with (gi_at_builtin; refine wpListIn_append_own _ rfl _ _ 22 rfl w.heap.size 25 ti (.agg #[.int .i64 0, .int .u32 0]) 2 16 Try.underlying22 hi hz0 hz1 hz2 rfl (by decide) _ _ _ rfl (hrow.alloc _) ⟨W.heap.size, 0, none⟩ 1 1 [.int .i64 x.1.1, .int .u32 x.1.2] rfl rfl (newId_at _ _ _ _ rfl) (by intro u hu; simp at hu; rcases hu with rfl | rfl <;> rfl) (by unfold maxLen; omega) (by omega) (by simp; omega) ?_; intro v' w1 hown' hgrow _; obtain ⟨g', cap', rfl⟩ := ownsRow_succ hown'; obtain ⟨hv1, hv2, hr2, hk2, hb2⟩ := hv.appended (by decide) hrow hB.size (by omega) hown' hgrow; have hc1 := hv1.cell; have hf1 := hv1.frozen)
        exact ⟨hk2.from _, hb2, ⟨⟨_, hv2, by rw [onlyA_hit pre hx, idCs_app, List.length_append]; exact hr2, trivial⟩, hB.trans hb2⟩⟩
      · have hx1 : ((x.2 : Int) == 1) = false := by simp; omega
        gi_wp2
        exact ⟨KeepsFrom.refl _ _, Below.refl _ _, ⟨⟨_, hv, by rw [onlyA_miss pre hx]; exact hrow, trivial⟩, hB⟩⟩
    case done =>
      rintro D ys W hD rfl ⟨⟨v, hv, hrow, _⟩, hB⟩ hK
      have hc := hv.cell
      have hmm : onlyA (mrg L M) = miS L M := by
        obtain ⟨c1, c2⟩ := two_zero HT.out
        rw [mi_ok HT.out]; exact mrg_minus (chkS_zero c1).2.2 (chkS_zero c2).2.2
      rw [hmm] at hrow
      obtain ⟨_, al4, cap4, rfl, hI4, hF4⟩ := own_ids hrow
      have HI4 := Lib.hid hI4
      have HB6 := Lib.hid hB
      clear hrow hv hB hI4 hF4 hmm
      generalize hn : (miS L M).length = n at HI4 hc ⊢
      have HN := Lib.hid hn; clear hn
      go_wp2
      refine ⟨by simp, .inl ⟨_, _, rfl, run_takeDeferred hK, ?_⟩⟩
      exact ⟨_, results_tmp2 rfl _ _ _, al4, cap4, by rw [HN.out, HT.out]; rfl, by rw [HN.out]; exact ids_put HI4.out hK _, HB6.out.trans (belowK_b (w := w) (Nat.le_refl _) W D _ _ (by have := HB4.out.size; omega) hK rfl rfl)⟩
    case stop =>
      rintro D c pre W _ _ h _
      exact h.elim
  · have hn : (twoC L M != 0) = true := by simpa using hc
    have HT := Lib.hid hc; clear hc
    generalize hcc : twoC L M = c at hn ⊢
    have HCC := Lib.hid hcc; clear hcc
    go_wp2
    have e2 := mi_bad (a := L) (b := M) HT.out
    exact ⟨_, results_tmp2 rfl _ _ _, none, 0, by rw [e2, HCC.out]; rfl, by rw [e2]; exact Ids.nil _, below_new HB2.out _⟩
end Go.Proofs.Ytgcmlefalilodaa
