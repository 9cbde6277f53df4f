/-
  Package dots' Union.
  Conditions: none.
-/
import Derived.Test.YtgcmlefalilodaaDotO
import Derived.Test.YtgcmlefalilodaaDotJ
namespace Go.Proofs.Ytgcmlefalilodaa
open Go.RowKit Go.Shelf Go.Lib Go.Sort
attribute [local go_sem] Oper.semAt_some

/-- cmp.Or at two errors that lie in a block of their own: the first one that is not OK. -/
theorem orE_any (g : Nat) (x y : Int) (w : World) (h : Blk w g #[.int .i64 x, .int .i64 y] 28) :
    Calls Try.prog 42 #[.slice (some ⟨g, 0, none⟩) 2 2] w fun e w' => e = .returned (.int .i64 (orZ x y)) ∧ w = w' := by
  have c0 : w.cell? ⟨g, 0, none⟩ = some (.int .i64 x) := by rw [Blk.cell h]; rfl
  have c1 : w.cell? ⟨g, 1, none⟩ = some (.int .i64 y) := by rw [Blk.cell h]; rfl
  clear h
  by_cases h1 : x = 0
  · have HC : Hid (orZ x y = y) := Lib.hid (by unfold orZ; rw [if_pos h1])
    have t1 : (x != 0) = false := by simpa using h1
    by_cases h2 : y = 0
    · have t2 : (y != 0) = false := by simpa using h2
      have HY := Lib.hid h2
      clear h1 h2
      go_enter Try.func42, Try.ntmps42
      go_wp2
      refine wp_loop_rounds 3 ?_
      rw [rounds_succ]
      go_wp2
      rw [rounds_succ]
      go_wp2
      rw [rounds_succ]
      go_wp2
      go_ret
      exact ⟨by rw [HC.out, HY.out]; rfl, rfl⟩
    · have t2 : (y != 0) = true := by simpa using h2
      clear h1 h2
      go_enter Try.func42, Try.ntmps42
      go_wp2
      refine wp_loop_rounds 3 ?_
      rw [rounds_succ]
      go_wp2
      rw [rounds_succ]
      go_wp2
      go_ret
      exact ⟨by rw [HC.out]; rfl, rfl⟩
  · have HC : Hid (orZ x y = x) := Lib.hid (by unfold orZ; rw [if_neg h1])
    have t1 : (x != 0) = true := by simpa using h1
    clear h1
    go_enter Try.func42, Try.ntmps42
    go_wp2
    refine wp_loop_rounds 3 ?_
    rw [rounds_succ]
    go_wp2
    go_ret
    exact ⟨by rw [HC.out]; rfl, rfl⟩

/-- What is wrong with two sets. -/
def twoC (a b : List (Int × Int)) : Int := orZ (chkS a) (chkS b)
def unC (a b : List (Int × Int)) : Int := if twoC a b = 0 then mkC (a ++ b) else twoC a b
def unS (a b : List (Int × Int)) : List (Int × Int) := if twoC a b = 0 then mkR (a ++ b) else []
def miS (a b : List (Int × Int)) : List (Int × Int) := if twoC a b = 0 then a.filter fun x => decide (x ∉ b) else []
theorem un_bad {a b : List (Int × Int)} (h : ¬ twoC a b = 0) : unC a b = twoC a b ∧ unS a b = [] := ⟨by unfold unC; rw [if_neg h], by unfold unS; rw [if_neg h]⟩
theorem un_ok {a b : List (Int × Int)} (h : twoC a b = 0) : unC a b = mkC (a ++ b) ∧ unS a b = mkR (a ++ b) := ⟨by unfold unC; rw [if_pos h], by unfold unS; rw [if_pos h]⟩
theorem mi_bad {a b : List (Int × Int)} (h : ¬ twoC a b = 0) : miS a b = [] := by unfold miS; rw [if_neg h]
theorem mi_ok {a b : List (Int × Int)} (h : twoC a b = 0) : miS a b = a.filter fun x => decide (x ∉ b) := by unfold miS; rw [if_pos h]
theorem two_zero {a b : List (Int × Int)} (h : twoC a b = 0) : chkS a = 0 ∧ chkS b = 0 := by
  unfold twoC orZ at h
  by_cases h1 : chkS a = 0
  · rw [if_pos h1] at h; exact ⟨h1, h⟩
  · rw [if_neg h1] at h; exact absurd h h1
theorem valS_app {a b : List (Int × Int)} (ha : valS a = true) (hb : valS b = true) : valS (a ++ b) = true := by unfold valS at *; rw [List.all_append, ha, hb]; rfl
/-- Make of what goes through both is Make of both. -/
theorem mk_mrg {a b : List (Int × Int)} (h : twoC a b = 0) : mkC ((mrg a b).map Prod.fst) = mkC (a ++ b) ∧ mkR ((mrg a b).map Prod.fst) = mkR (a ++ b) := by
  obtain ⟨h1, h2⟩ := two_zero h
  obtain ⟨la, va, aa⟩ := chkS_zero h1
  obtain ⟨lb, vb, ab⟩ := chkS_zero h2
  have e := mrg_set aa ab
  have hS : setS ((mrg a b).map Prod.fst) = setS (a ++ b) := by rw [setS_same (mrg_asc aa ab), e]
  have l1 : ¬ 1024 < ((mrg a b).map Prod.fst).length := by have := mrg_len a b; simp; omega
  have l2 : ¬ 1024 < (a ++ b).length := by simp; omega
  have v2 := valS_app va vb
  have v1 : valS ((mrg a b).map Prod.fst) = true := by rw [e]; exact setS_val v2
  by_cases h64 : 64 < (setS (a ++ b)).length
  · obtain ⟨p1, p2⟩ := mkC_many l1 v1 (by rw [hS]; exact h64)
    obtain ⟨q1, q2⟩ := mkC_many l2 v2 h64
    exact ⟨by rw [p1, q1], by rw [p2, q2]⟩
  · obtain ⟨p1, p2⟩ := mkC_ok l1 v1 (by rw [hS]; exact h64)
    obtain ⟨q1, q2⟩ := mkC_ok l2 v2 h64
    exact ⟨by rw [p1, q1], by rw [p2, q2, hS]⟩

theorem blk_own {β : Type} (B : Nat) (cs : Array Value) (t : TypeId) : Go.Own (fun (_ : β) W => Blk W B cs t) := fun s X Y row hs hg hrow =>
  (hg.block B (Blk.lt hs) (fun e' => by obtain ⟨o, ho, hc⟩ := hrow B e'.symm; rw [show X.heap[B]? = _ from hs] at ho; cases ho; cases hc)).trans hs
theorem ids_put {W : World} {D : Nat} {x : Option (List Deferred)} {al : Option Addr} {len cap : Nat} {L : List (Int × Int)} (h : Ids W al len cap L) (hK : W.heap[D]? = some (.deferred x)) (o : Obj) : Ids (W.putObj D o) al len cap L :=
  ⟨h.ln, h.fit, h.bd, h.nn, fun k hk => by
    obtain ⟨b, off, u, v, h1, h2, h3, h4⟩ := h.nth k hk
    exact ⟨b, off, u, v, h1, h2, cell_kept h3 (grownBy_putObj' W D o) (fun r e => by cases e; exact ⟨_, hK, rfl⟩), cell_kept h4 (grownBy_putObj' W D o) (fun r e => by cases e; exact ⟨_, hK, rfl⟩)⟩⟩

set_option maxRecDepth 100000 in
set_option maxHeartbeats 4000000 in
theorem union_any (al al' : Option Addr) (len cap len' cap' : Nat) (L M : List (Int × Int)) (w : World) (hL : Ids w al len cap L) (hM : Ids w al' len' cap' M) :
    Calls Try.prog 17 #[.slice al len cap, .slice al' len' cap'] w fun e w' => ∃ al2 cap2, e = .returned (.tuple #[.slice al2 (unS L M).length cap2, .int .i64 (unC L M)]) ∧ Ids w' al2 (unS L M).length cap2 (unS L M) ∧ Below w.heap.size w w' := by
  obtain ⟨ti, hi, hz0, hz1, hz2⟩ := info_parts Try.infoId
  have HL := Lib.hid hL; clear hL
  have HM := Lib.hid hM; clear hM
  refine (callsIn_wide (n := 3)).1 ?_
  refine callsIn_of_wp_marks Try.func17 rfl trivial ?_ rfl
  simp only [Try.ntmps17, List.size_toArray, List.length_cons, List.length_nil, Nat.reduceAdd, Nat.reduceSub, Array.replicate_succ, Array.replicate_zero, List.push_toArray, List.append_toArray, List.nil_append, List.cons_append]
  refine wpIn_wide.2 ?_
  go_wp2_with fail
  refine (dCheck_any al len cap L _ HL.out).mono ?_
  rintro e w1 ⟨rfl, b1⟩
  have HB1 := Lib.hid b1; clear b1
  go_wp2_with fail
  refine (dCheck_any al' len' cap' M _ (HM.out.below HB1.out)).mono ?_
  rintro e w2 ⟨rfl, b2⟩
  have HB2 := Lib.hid (below_then HB1.out b2); clear b2
  go_wp2_with fail
  refine (orE_any w2.heap.size _ _ _ (Blk.new _ _ _)).mono ?_
  rintro e w3 ⟨rfl, rfl⟩
  have HC : Hid (orZ (chkS L) (chkS M) = twoC L M) := Lib.hid rfl
  rw [HC.out]
  by_cases hc : twoC L M = 0
  · have HT := Lib.hid hc
    rw [hc]
    clear hc
    go_wp2_with fail
    refine (merge_any al al' len cap len' cap' _).mono ?_
    rintro e w5 ⟨rfl, rfl⟩
    go_wp2_with fail
    refine (wpIn_wide (n := 3)).1 ?_
    have hb4 : Below w.heap.size w ((((w2.alloc (.cells #[.int .i64 (chkS L), .int .i64 (chkS M)] 28)).alloc (.cells #[.slice none 0 0] 22)).alloc (.cells #[.slice al len cap] 22)).alloc (.cells #[.slice al' len' cap'] 22)) := below_new (below_new (below_new (below_new HB2.out _) _) _) _
    have hx1 : Boxed ((((w2.alloc (.cells #[.int .i64 (chkS L), .int .i64 (chkS M)] 28)).alloc (.cells #[.slice none 0 0] 22)).alloc (.cells #[.slice al len cap] 22)).alloc (.cells #[.slice al' len' cap'] 22)) (w2.heap.size + 1) 22 (.slice none 0 0) := by
      have := Boxed.new (w2.alloc (.cells #[.int .i64 (chkS L), .int .i64 (chkS M)] 28)) 22 (.slice none 0 0)
      rw [World.size_alloc] at this
      exact (this.alloc _).alloc _
    have hx2 : Boxed ((((w2.alloc (.cells #[.int .i64 (chkS L), .int .i64 (chkS M)] 28)).alloc (.cells #[.slice none 0 0] 22)).alloc (.cells #[.slice al len cap] 22)).alloc (.cells #[.slice al' len' cap'] 22)) (w2.heap.size + 1 + 1) 22 (.slice al len cap) := by
      have := Boxed.new ((w2.alloc (.cells #[.int .i64 (chkS L), .int .i64 (chkS M)] 28)).alloc (.cells #[.slice none 0 0] 22)) 22 (.slice al len cap)
      rw [World.size_alloc, World.size_alloc] at this
      exact this.alloc _
    have hx3 : Boxed ((((w2.alloc (.cells #[.int .i64 (chkS L), .int .i64 (chkS M)] 28)).alloc (.cells #[.slice none 0 0] 22)).alloc (.cells #[.slice al len cap] 22)).alloc (.cells #[.slice al' len' cap'] 22)) (w2.heap.size + 1 + 1 + 1) 22 (.slice al' len' cap') := by
      have := Boxed.new (((w2.alloc (.cells #[.int .i64 (chkS L), .int .i64 (chkS M)] 28)).alloc (.cells #[.slice none 0 0] 22)).alloc (.cells #[.slice al len cap] 22)) 22 (.slice al' len' cap')
      rw [World.size_alloc, World.size_alloc, World.size_alloc] at this
      exact this
    have hgw := HB2.out.size
    generalize hW5 : ((((w2.alloc (.cells #[.int .i64 (chkS L), .int .i64 (chkS M)] 28)).alloc (.cells #[.slice none 0 0] 22)).alloc (.cells #[.slice al len cap] 22)).alloc (.cells #[.slice al' len' cap'] 22)) = W5 at hb4 hx1 hx2 hx3 ⊢
    have hsz : W5.heap.size = w2.heap.size + 4 := by rw [← hW5]; simp
    clear hW5
    generalize w2.heap.size = g at hx1 hx2 hx3 hgw hsz ⊢
    have hlen : (mrg L M).length ≤ 128 := by
      obtain ⟨c1, c2⟩ := two_zero HT.out
      have := (chkS_zero c1).1
      have := (chkS_zero c2).1
      have := mrg_len L M
      omega
    have HSZ := Lib.hid hsz; clear hsz
    have HB4 := Lib.hid hb4
    have HX1 := Lib.hid hx1
    have HLEN := Lib.hid hlen; clear hlen
    refine wpIn_rangeFunc_ownH rfl (by omega) (gf := 65) (lb := #[.pointer (some ⟨g + 1 + 1, 0, none⟩), .pointer (some ⟨g + 1 + 1 + 1, 0, none⟩)]) rfl trivial (enters_of Try.func65 (by kernel_rfl) rfl)
      (encs := encM) (Kp := Below w.heap.size) (S := fun ys => ys = mrg L M) (Sp := fun pre => pre <+: mrg L M) (N := (mrg L M).length) (w0 := W5)
      (fun l J Jx W hWW hJ _ hY h0 => merge1_in 2 (by omega) l (g + 1 + 1) (g + 1 + 1 + 1) w al al' len cap len' cap' L M J Jx _ hJ hY W (HB4.out.trans (hWW.mono (by have := HB4.out.size; omega))) HL.out HM.out ((hWW.cell (p := ⟨g + 1 + 1, 0, none⟩) hx2.lt).trans hx2.cell) ((hWW.cell (p := ⟨g + 1 + 1 + 1, 0, none⟩) hx3.lt).trans hx3.cell) h0)
      belowK_t (belowK_b (by have := HB4.out.size; omega)) (Below.refl _ _) (fun _ => rfl)
      (fun pre W => (∃ v, Boxed W (g + 1) 22 v ∧ W.ownsRow w.heap.size 25 2 v pre.length (idCs (pre.map Prod.fst)) ∧ True) ∧ Below w.heap.size w W)
      (fun _ _ _ => False)
      (OwnFrom.and (Go.Own.from (holdsRow_own w.heap.size (g + 1) 22 25 2 (fun pre : List ((Int × Int) × Nat) => pre.length) (fun pre => idCs (pre.map Prod.fst)) (fun _ _ => True)) _) (ownFrom_below (Nat.le_refl _) (by have := HB4.out.size; omega)))
      (fun _ _ _ _ _ hs _ _ => hs)
      ⟨⟨_, hx1, World.ownsRow_nil _ _ _ _, trivial⟩, hb4⟩
      (fun x a' W => ∃ Bv, g + 1 < Bv ∧ Blk W Bv #[.int .i64 x.1.1, .int .u32 x.1.2] 25 ∧ a' = { tmps := #[.slice al len cap, .slice al' len' cap', undef, undef, .slice none 0 0, .int .i64 0, .int .i64 0, .pointer (some ⟨g + 1, 0, none⟩), .pointer (some ⟨Bv, 0, none⟩), .slice al len cap, .int .i64 (chkS L), .slice al' len' cap', .int .i64 (chkS M), .slice (some ⟨g, 0, none⟩) 2 2, .int .i64 0, .int .i64 0, .bool false, undef, .slice al len cap, .slice al' len' cap', .func (.func 65) #[] #[.pointer (some ⟨g + 1 + 1, 0, none⟩), .pointer (some ⟨g + 1 + 1 + 1, 0, none⟩)], .agg #[.int .i64 x.1.1, .int .u32 x.1.2], .int .u8 (x.2 : Int), undef, undef, undef, undef, undef, undef, undef, undef], defers := [] })
      (fun x a' => Go.Own.from (fun s A B row ⟨Bv, h1, h2, h3⟩ hg hr => ⟨Bv, h1, blk_own (β := Unit) Bv _ _ s A B row h2 hg hr, h3⟩) _)
      ?assign ?body ?done ?stop
    case assign =>
      rintro l pre x W K ⟨⟨v, hv, hrow, _⟩, hB⟩ hK
      have hvl := hv.lt
      simp only [encM]
      gi_wp2
      exact hK _ _ ((KeepsOthers.alloc _ _).from _) ((Below.refl _ W).alloc hB.size _) ⟨⟨v, hv.alloc _, hrow.alloc _, trivial⟩, below_new hB _⟩ ⟨W.heap.size, hvl, Blk.new _ _ _, rfl⟩
    case body =>
      rintro l pre x a' W hl ⟨r, hr⟩ ⟨⟨v, hv, hrow, _⟩, hB⟩ ⟨Bv, hBv, hblk, rfl⟩ hlt
      have hc := hv.cell
      have d0 : W.cell? ⟨Bv, 0, none⟩ = some (.int .i64 x.1.1) := by rw [Blk.cell hblk]; rfl
      have d1 : W.cell? ⟨Bv, 1, none⟩ = some (.int .u32 x.1.2) := by rw [Blk.cell hblk]; rfl
      have hbs := hB.size
      have hll := HLEN.out
      gi_wp2_with (gi_at_builtin; refine wpListIn_append_own _ rfl _ _ 22 rfl w.heap.size 25 ti (.agg #[.int .i64 0, .int .u32 0]) 2 16 Try.underlying22 hi hz0 hz1 hz2 rfl (by decide) _ _ _ rfl (hrow.alloc _) ⟨W.heap.size, 0, none⟩ 1 1 [.int .i64 x.1.1, .int .u32 x.1.2] rfl rfl (newId_at _ _ _ _ rfl) (by intro u hu; simp at hu; rcases hu with rfl | rfl <;> rfl) (by unfold maxLen; omega) (by omega) (by simp; omega) ?_; intro v' w1 hown' hgrow _; obtain ⟨g', cap', rfl⟩ := ownsRow_succ hown'; obtain ⟨hv1, hv2, hr2, hk2, hb2⟩ := hv.appended (by decide) hrow hB.size (by omega) hown' hgrow; have hc1 := hv1.cell; have hf1 := hv1.frozen)
      exact ⟨hk2.from _, hb2, ⟨⟨_, hv2, by rw [List.map_append, idCs_app, List.length_append]; exact hr2, trivial⟩, hB.trans hb2⟩⟩
    case done =>
      rintro D ys W hD rfl ⟨⟨v, hv, hrow, _⟩, hB⟩ hK
      have hc := hv.cell
      have hmm := mk_mrg HT.out
      obtain ⟨U, hU⟩ : ∃ U, (mrg L M).map Prod.fst = U := ⟨_, rfl⟩
      rw [hU] at hrow hmm
      obtain ⟨_, al4, cap4, rfl, hI4, hF4⟩ := own_ids hrow
      clear hU
      have hDl : D < W.heap.size := (Array.getElem?_eq_some_iff.1 hK).1
      have hMk := make_any al4 _ cap4 _ W hI4 hF4
      rw [hmm.1, hmm.2] at hMk
      have HUN := Lib.hid (un_ok HT.out)
      have HB6 := Lib.hid hB
      clear hrow hv hB hI4 hF4 hmm
      go_wp2_with fail
      refine hMk.mono ?_
      rintro e w7 ⟨al7, cap7, rfl, hI7, _, b7⟩
      clear hMk
      have hK7 : w7.heap[D]? = some (.deferred (some [])) := (b7.block D hDl).trans hK
      go_wp2
      refine ⟨by simp, .inl ⟨_, _, rfl, run_takeDeferred hK7, ?_⟩⟩
      exact ⟨_, results_tmp2 rfl _ _ _, al7, cap7, by rw [HUN.out.1, HUN.out.2]; rfl, by rw [HUN.out.2]; exact ids_put hI7 hK7 _, (HB6.out.trans (b7.mono HB6.out.size)).trans (belowK_b (w := w) (Nat.le_refl _) w7 D _ _ (by have := HB4.out.size; omega) hK7 rfl rfl)⟩
    case stop =>
      rintro D c pre W _ _ h _
      exact h.elim
  · have hn : (twoC L M != 0) = true := by simpa using hc
    have HT := Lib.hid hc; clear hc
    generalize hcc : twoC L M = c at hn ⊢
    have HCC := Lib.hid hcc; clear hcc
    go_wp2
    obtain ⟨e1, e2⟩ := un_bad (a := L) (b := M) HT.out
    exact ⟨_, results_tmp2 rfl _ _ _, none, 0, by rw [e1, e2, HCC.out]; rfl, by rw [e2]; exact Ids.nil _, below_new HB2.out _⟩
end Go.Proofs.Ytgcmlefalilodaa
