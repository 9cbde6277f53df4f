/-
  The document's Add and Join of layer 8.
  Conditions: none.
-/
import Derived.Test.YthbdjgebpjffgaaCuK
import Derived.Test.YthbdjgebpjffgaaVecD
set_option linter.unusedVariables false
set_option linter.unusedSimpArgs false
namespace Go.Proofs.Ythbdjgebpjffgaa
open Go.RowKit Go.Shelf Go.Lib Go.Sort

/-- What Add tells, where k is what is wrong with the cut; what Join tells, where k is what is wrong with the first or the second. -/
def adKC (k : Int) (v : Nat → Int) (L : List (Int × Int)) (o q : Int) : Int := if orZ k (chk o q) = 0 then (if hasC v L o q = true then 11 else cmC v (L ++ [(o, q)])) else orZ k (chk o q)
def adKV (k : Int) (v : Nat → Int) (L : List (Int × Int)) (o q : Int) : Nat → Int := if orZ k (chk o q) = 0 ∧ hasC v L o q = false then cmV v (L ++ [(o, q)]) else zV
def adKS (k : Int) (v : Nat → Int) (L : List (Int × Int)) (o q : Int) : List (Int × Int) := if orZ k (chk o q) = 0 ∧ hasC v L o q = false then cmS v (L ++ [(o, q)]) else []
theorem adK_bad {k : Int} {v : Nat → Int} {L : List (Int × Int)} {o q z : Int} (h : orZ k (chk o q) = z) (hz : ¬ z = 0) : adKV k v L o q = zV ∧ adKS k v L o q = [] ∧ adKC k v L o q = z := by
  have hn : ¬ (orZ k (chk o q) = 0 ∧ hasC v L o q = false) := fun j => hz (h ▸ j.1)
  exact ⟨by unfold adKV; rw [if_neg hn], by unfold adKS; rw [if_neg hn], by unfold adKC; rw [if_neg (by rw [h]; exact hz), h]⟩
theorem adK_twice {k : Int} {v : Nat → Int} {L : List (Int × Int)} {o q : Int} (h : orZ k (chk o q) = 0) (j : hasC v L o q = true) : adKV k v L o q = zV ∧ adKS k v L o q = [] ∧ adKC k v L o q = 11 := by
  have hn : ¬ (orZ k (chk o q) = 0 ∧ hasC v L o q = false) := fun i => by rw [j] at i; exact absurd i.2 (by decide)
  exact ⟨by unfold adKV; rw [if_neg hn], by unfold adKS; rw [if_neg hn], by unfold adKC; rw [if_pos h, if_pos j]⟩
theorem adK_ok {k : Int} {v : Nat → Int} {L : List (Int × Int)} {o q : Int} (h : orZ k (chk o q) = 0) (j : hasC v L o q = false) : adKV k v L o q = cmV v (L ++ [(o, q)]) ∧ adKS k v L o q = cmS v (L ++ [(o, q)]) ∧ adKC k v L o q = cmC v (L ++ [(o, q)]) :=
  ⟨by unfold adKV; rw [if_pos ⟨h, j⟩], by unfold adKS; rw [if_pos ⟨h, j⟩], by unfold adKC; rw [if_pos h, if_neg (by rw [j]; decide)]⟩
theorem ad_K (v : Nat → Int) (L : List (Int × Int)) (o q : Int) : adC v L o q = adKC (ckC v L) v L o q ∧ adV v L o q = adKV (ckC v L) v L o q ∧ adS v L o q = adKS (ckC v L) v L o q := ⟨rfl, rfl, rfl⟩
def joKC (k : Int) (a : Nat → Int) (A : List (Int × Int)) (b : Nat → Int) (B : List (Int × Int)) : Int := if k = 0 then cmC (joinV a b) (A ++ B) else k
def joKV (k : Int) (a : Nat → Int) (A : List (Int × Int)) (b : Nat → Int) (B : List (Int × Int)) : Nat → Int := if k = 0 then cmV (joinV a b) (A ++ B) else zV
def joKS (k : Int) (a : Nat → Int) (A : List (Int × Int)) (b : Nat → Int) (B : List (Int × Int)) : List (Int × Int) := if k = 0 then cmS (joinV a b) (A ++ B) else []
theorem joK_bad {a b : Nat → Int} {A B : List (Int × Int)} {k z : Int} (h : k = z) (hz : ¬ z = 0) : joKV k a A b B = zV ∧ joKS k a A b B = [] ∧ joKC k a A b B = z := by
  subst h
  exact ⟨by unfold joKV; rw [if_neg hz], by unfold joKS; rw [if_neg hz], by unfold joKC; rw [if_neg hz]⟩
theorem joK_ok {a b : Nat → Int} {A B : List (Int × Int)} {k : Int} (h : k = 0) : joKV k a A b B = cmV (joinV a b) (A ++ B) ∧ joKS k a A b B = cmS (joinV a b) (A ++ B) ∧ joKC k a A b B = cmC (joinV a b) (A ++ B) :=
  ⟨by unfold joKV; rw [if_pos h], by unfold joKS; rw [if_pos h], by unfold joKC; rw [if_pos h]⟩
theorem jo_K (a : Nat → Int) (A : List (Int × Int)) (b : Nat → Int) (B : List (Int × Int)) : joC a A b B = joKC (orZ (ckC a A) (ckC b B)) a A b B ∧ joV a A b B = joKV (orZ (ckC a A) (ckC b B)) a A b B ∧ joS a A b B = joKS (orZ (ckC a A) (ckC b B)) a A b B := ⟨rfl, rfl, rfl⟩
def Small (k : Int) (n : Nat) : Prop := k = 0 → n ≤ 64
theorem app2_got {w : World} {B : Nat} {v : Value} {n : Nat} {M : List (Int × Int)} (h : w.ownsRow B 29 2 v n (idCs M)) : ∃ al cap, v = .slice al n cap ∧ Ids w al n cap M ∧ Flat al := by
  obtain ⟨h1, al, cap, h2, h3, h4⟩ := own_ids h
  rw [← h1] at h2 h3
  exact ⟨al, cap, h2, h3, h4⟩

set_option maxRecDepth 100000 in
set_option maxHeartbeats 4000000 in
theorem rAdd_cut (v : Nat → Int) (al : Option Addr) (len cap : Nat) (L : List (Int × Int)) (o q : Int) (w : World) (hL : Ids w al len cap L) (hv : InB v) :
    Calls Try.prog 13 #[.agg #[.int .u32 (v 0), .int .u32 (v 1), .int .u32 (v 2), .int .u32 (v 3), .int .u32 (v 4), .int .u32 (v 5), .int .u32 (v 6), .int .u32 (v 7), .slice al len cap], .agg #[.int .i64 o, .int .u32 q]] w fun e w' => ∃ al2 cap2, e = .returned (.tuple #[.agg #[.int .u32 (adKV (ckD v L) v L o q 0), .int .u32 (adKV (ckD v L) v L o q 1), .int .u32 (adKV (ckD v L) v L o q 2), .int .u32 (adKV (ckD v L) v L o q 3), .int .u32 (adKV (ckD v L) v L o q 4), .int .u32 (adKV (ckD v L) v L o q 5), .int .u32 (adKV (ckD v L) v L o q 6), .int .u32 (adKV (ckD v L) v L o q 7), .slice al2 (adKS (ckD v L) v L o q).length cap2], .int .i64 (adKC (ckD v L) v L o q)]) ∧ Ids w' al2 (adKS (ckD v L) v L o q).length cap2 (adKS (ckD v L) v L o q) ∧ Below w.heap.size w w' := by
  obtain ⟨ti, hi, hz0, hz1, hz2⟩ := info_parts Try.infoId
  have h0 := ((((KS.nil w).add hL).box rfl #[.int .u32 (v 0), .int .u32 (v 1), .int .u32 (v 2), .int .u32 (v 3), .int .u32 (v 4), .int .u32 (v 5), .int .u32 (v 6), .int .u32 (v 7), .slice al len cap] 27).box (g := w.heap.size + 1) (by simp) #[.int .i64 o, .int .u32 q] 29).box (g := w.heap.size + 1 + 1) (by simp) #[.int .u32 0, .int .u32 0, .int .u32 0, .int .u32 0, .int .u32 0, .int .u32 0, .int .u32 0, .int .u32 0, .slice none 0 0] 27
  have H0 := Lib.hid h0
  have HX := Lib.hid (h0.blk 2 rfl)
  have HIN := Lib.hid hv
  have HLN := Lib.hid hL.ln
  have hcap := hL.bd
  have hfit := hL.fit
  have hck := rCheck_any v al len cap L _ (h0.ids 0 rfl) hv
  clear h0 hL hv
  obtain ⟨k, hk⟩ : ∃ k, ckD v L = k := ⟨_, rfl⟩
  rw [hk] at hck
  have HK := Lib.hid hk
  have HIS : Hid (k = 0 → L.length ≤ 64) := Lib.hid (fun e => (chkS_zero ((ckD_iff HIN.out).1 (hk.trans e)).s0).1)
  clear hk
  by_cases hk0 : k = 0
  · subst hk0
    have hl64 : len ≤ 64 := by have := HIS.out rfl; have := HLN.out; omega
    clear HIS
    obtain ⟨z, hz⟩ : ∃ z, chk o q = z := ⟨_, rfl⟩
    have HZQ := Lib.hid hz
    have HOZ : Hid (orZ 0 (chk o q) = z) := Lib.hid (by unfold orZ; rw [if_pos rfl, hz])
    clear hz
    go_enter Try.func13, Try.ntmps13
    go_wp2_with (refine wpList_load_row rfl 27 _ rfl w.heap.size rfl 27 #[.int .u32 (v 0), .int .u32 (v 1), .int .u32 (v 2), .int .u32 (v 3), .int .u32 (v 4), .int .u32 (v 5), .int .u32 (v 6), .int .u32 (v 7), .slice al len cap] (0, 0) _ HX.out Try.underlying27 rfl (by kernel_rfl) ?_)
    refine hck.mono ?_
    clear hck
    rintro e w1 ⟨rfl, b1⟩
    have H1 := Lib.hid (H0.out.next b1)
    obtain ⟨y0, y1⟩ := id_cells (H1.out.blk 1 rfl)
    clear b1
    go_wp2_with fail
    refine (ridCheck_any o q _).mono ?_
    rw [HZQ.out]
    rintro e w2 ⟨rfl, b2⟩
    have H2 := Lib.hid (H1.out.next b2)
    clear b2 y0 y1
    by_cases hz0 : z = 0
    · subst hz0
      have HCU := Lib.hid (H2.out.blk 2 rfl)
      obtain ⟨y0, y1⟩ := id_cells (H2.out.blk 1 rfl)
      have hhs := rHas_cut v al len cap L o q _ (H2.out.ids 0 rfl)
      cases hh : hasC v L o q with
      | true =>
        have HE := Lib.hid (adK_twice HOZ.out hh)
        rw [hh] at hhs
        clear hh
        go_wp2_with (refine wpList_load_row rfl 27 _ rfl w.heap.size rfl 27 #[.int .u32 (v 0), .int .u32 (v 1), .int .u32 (v 2), .int .u32 (v 3), .int .u32 (v 4), .int .u32 (v 5), .int .u32 (v 6), .int .u32 (v 7), .slice al len cap] (0, 0) _ HCU.out Try.underlying27 rfl (by kernel_rfl) ?_)
        refine hhs.mono ?_
        clear hhs
        rintro e w3 ⟨rfl, b3⟩
        have HZ := Lib.hid ((H2.out.next b3).blk 0 rfl)
        have HB := Lib.hid (H2.out.next b3).bel
        clear b3
        go_wp2_with (refine wpList_store_row rfl 27 _ _ rfl (w.heap.size + 1 + 1) #[.int .u32 0, .int .u32 0, .int .u32 0, .int .u32 0, .int .u32 0, .int .u32 0, .int .u32 0, .int .u32 0, .slice none 0 0] rfl rfl 27 _ HZ.out (by kernel_rfl) rfl (by kernel_rfl) ?_)
        have hR := setRow_heap _ _ _ #[.int .u32 0, .int .u32 0, .int .u32 0, .int .u32 0, .int .u32 0, .int .u32 0, .int .u32 0, .int .u32 0, .slice none 0 0] _ _ HZ.out
        obtain ⟨r0, r1, r2, r3, r4, r5, r6, r7, r8⟩ := cut_cells (v := zV) (al := none) (len := 0) (cap := 0) hR
        refine bodyPost_ret (v := .tuple #[.agg #[.int .u32 0, .int .u32 0, .int .u32 0, .int .u32 0, .int .u32 0, .int .u32 0, .int .u32 0, .int .u32 0, .slice none 0 0], .int .i64 11]) ?_ rfl ⟨none, 0, by rw [HK.out, HE.out.1, HE.out.2.1, HE.out.2.2]; rfl, by rw [HK.out, HE.out.2.1]; exact Ids.nil _, below_setRow HB.out (by omega) _⟩
        simp [results, Try.results13, go_sem, r0, r1, r2, r3, r4, r5, r6, r7, r8, zV]
      | false =>
        have HP := Lib.hid (adK_ok HOZ.out hh)
        rw [hh] at hhs
        clear hh
        obtain ⟨u, hu⟩ : ∃ u, cmV v (L ++ [(o, q)]) = u := ⟨_, rfl⟩
        obtain ⟨R, hr⟩ : ∃ R, cmS v (L ++ [(o, q)]) = R := ⟨_, rfl⟩
        obtain ⟨c, hc⟩ : ∃ c, cmC v (L ++ [(o, q)]) = c := ⟨_, rfl⟩
        obtain ⟨nr, hnr⟩ : ∃ n, R.length = n := ⟨_, rfl⟩
        rw [hu, hr, hc] at HP
        have HU := Lib.hid hu
        have HR := Lib.hid hr
        have HCC := Lib.hid hc
        have HNR := Lib.hid hnr
        clear hu hr hc hnr
        go_wp2_with (refine wpList_load_row rfl 27 _ rfl w.heap.size rfl 27 #[.int .u32 (v 0), .int .u32 (v 1), .int .u32 (v 2), .int .u32 (v 3), .int .u32 (v 4), .int .u32 (v 5), .int .u32 (v 6), .int .u32 (v 7), .slice al len cap] (0, 0) _ HCU.out Try.underlying27 rfl (by kernel_rfl) ?_)
        refine hhs.mono ?_
        clear hhs
        rintro e w3 ⟨rfl, b3⟩
        have H3 := Lib.hid (H2.out.next b3)
        clear b3 y0 y1 HCU
        go_wp2_with fail
        have h3 := KS.drop (Bs' := [(w.heap.size + 1, #[.int .i64 o, .int .u32 q], 29), (w.heap.size, #[.int .u32 (v 0), .int .u32 (v 1), .int .u32 (v 2), .int .u32 (v 3), .int .u32 (v 4), .int .u32 (v 5), .int .u32 (v 6), .int .u32 (v 7), .slice al len cap], 27)]) (Rs' := [(al, len, cap, L)]) H3.out (fun x hx => List.mem_cons_of_mem _ hx) (fun r hr => hr)
        refine wp_region_held_drew (S := KS w [(w.heap.size + 1, #[.int .i64 o, .int .u32 q], 29), (w.heap.size, #[.int .u32 (v 0), .int .u32 (v 1), .int .u32 (v 2), .int .u32 (v 3), .int .u32 (v 4), .int .u32 (v 5), .int .u32 (v 6), .int .u32 (v 7), .slice al len cap], 27)] [(al, len, cap, L)]) (by kernel_rfl) h3.drew (fun _ => ?_)
        have HSr := Lib.hid h3.drew
        have HZr := Lib.hid (H3.out.drew.blk 0 rfl)
        clear h3
        generalize hwr : w3.drew = wr at HSr HZr ⊢
        clear hwr
        have HS := HSr
        have HZ := HZr
        have HBr := Lib.hid (Below.refl wr.heap.size wr)
        refine wpAnyH_take (i := 0) (oi := ⟨some 23, _, _, _, _, _⟩) (v := ?_) rfl (by kernel_rfl) (by kernel_rfl) (by kernel_rfl) (fun _ _ _ h => h) (Or.inl ⟨by rfl, ?_⟩) HS.out ?_
        rotate_left
        · intro w' hSw; clear hSw; go_simp; try (with_reducible rfl)
        try simp only [Act.put, List.setIfInBounds_toArray, List.set_cons_zero, List.set_cons_succ]
        refine wpAnyH_take (i := 1) (oi := ⟨some 24, _, _, _, _, _⟩) (v := ?_) rfl (by kernel_rfl) (by kernel_rfl) (by kernel_rfl) (fun _ _ _ h => h) (Or.inl ⟨by rfl, ?_⟩) HS.out ?_
        rotate_left
        · intro w' hSw; obtain ⟨id_0, id_1⟩ := id_cells (hSw.blk 0 rfl); obtain ⟨a_0, a_1, a_2, a_3, a_4, a_5, a_6, a_7, a_8⟩ := cut_cells (hSw.blk 1 rfl); go_simp; try (with_reducible rfl)
        try simp only [Act.put, List.setIfInBounds_toArray, List.set_cons_zero, List.set_cons_succ]
        refine wpAnyH_take (i := 3) (oi := ⟨some 26, _, _, _, _, _⟩) (v := ?_) rfl (by kernel_rfl) (by kernel_rfl) (by kernel_rfl) (fun _ _ _ h => h) (Or.inl ⟨by rfl, ?_⟩) HS.out ?_
        rotate_left
        · intro w' hSw; clear hSw; go_simp; try (with_reducible rfl)
        try simp only [Act.put, List.setIfInBounds_toArray, List.set_cons_zero, List.set_cons_succ]
        refine wpAnyH_take (i := 4) (oi := ⟨some 27, _, _, _, _, _⟩) (v := ?_) rfl (by kernel_rfl) (by kernel_rfl) (by kernel_rfl) (fun _ _ _ h => h) (Or.inl ⟨by rfl, ?_⟩) HS.out ?_
        rotate_left
        · intro w' hSw; obtain ⟨id_0, id_1⟩ := id_cells (hSw.blk 0 rfl); obtain ⟨a_0, a_1, a_2, a_3, a_4, a_5, a_6, a_7, a_8⟩ := cut_cells (hSw.blk 1 rfl); go_simp; try (with_reducible rfl)
        try simp only [Act.put, List.setIfInBounds_toArray, List.set_cons_zero, List.set_cons_succ]
        refine wpAnyH_take (i := 6) (oi := ⟨some 29, _, _, _, _, _⟩) (v := ?_) rfl (by kernel_rfl) (by kernel_rfl) (by kernel_rfl) (fun _ _ _ h => h) (Or.inl ⟨by rfl, ?_⟩) HS.out ?_
        rotate_left
        · intro w' hSw; obtain ⟨id_0, id_1⟩ := id_cells (hSw.blk 0 rfl); obtain ⟨a_0, a_1, a_2, a_3, a_4, a_5, a_6, a_7, a_8⟩ := cut_cells (hSw.blk 1 rfl); go_simp; try (with_reducible rfl)
        try simp only [Act.put, List.setIfInBounds_toArray, List.set_cons_zero, List.set_cons_succ]
        refine wpAnyH_ready (rs := [2, 7]) (by kernel_rfl) (by simp) ?_
        refine AllReadyH.cons (o := ⟨some 25, _, _, _, _, _⟩) rfl (fun K hK => ?_) (AllReadyH.cons (o := ⟨some 30, _, _, _, _, _⟩) rfl (fun K hK => ?_) AllReadyH.nil)
        · go_simp
          refine hK.out _ _ (HS.out.alloc _) (fun _ => ?_)
          clear hK K
          try simp only [Act.put, List.setIfInBounds_toArray, List.set_cons_zero, List.set_cons_succ]
          have hsz : (wr.alloc (.cells #[] 29)).heap.size = wr.heap.size + 1 := by simp
          have HBr := Lib.hid (HBr.out.alloc HBr.out.size (.cells #[] 29))
          have HO := Lib.hid (lit_own wr)
          generalize wr.alloc (.cells #[] 29) = u1 at HBr hsz HO ⊢
          have hszu1 := Lib.hid hsz
          clear hsz
          have HS := Lib.hid (HSr.out.next HBr.out)
          have HZ := Lib.hid (HZr.out.below HBr.out)
          refine wpAnyH_ready (rs := [5, 7]) (by kernel_rfl) (by simp) ?_
          refine AllReadyH.cons (o := ⟨some 28, _, _, _, _, _⟩) rfl (fun K hK => ?_) (AllReadyH.cons (o := ⟨some 30, _, _, _, _, _⟩) rfl (fun K hK => ?_) AllReadyH.nil)
          · refine if_yes rfl ?_
            refine wp_append_list (.tmp 25) (.tmp 27) rfl wr.heap.size ti hi hz0 hz1 hz2 _ _ [] rfl HO.out al len cap L rfl (HS.out.ids 0 rfl) (by omega) (by have := hszu1.out; omega) ?_
            intro vau2 u2 hoa hga
            have hszu2 := Lib.hid hga.size
            have hbr := HBr.out.grown hga HBr.out.size (fun k hk => by have := own_base HO.out k hk; have := hszu1.out; omega)
            have HBr := Lib.hid hbr
            have HO := Lib.hid hoa
            clear hoa hga hbr
            have HS := Lib.hid (HSr.out.next HBr.out)
            have HZ := Lib.hid (HZr.out.below HBr.out)
            refine hK.out _ _ HS.out (fun _ => ?_)
            clear hK K
            try simp only [Act.put, List.setIfInBounds_toArray, List.set_cons_zero, List.set_cons_succ]
            refine wpAnyH_ready (rs := [7]) (by kernel_rfl) (by simp) ?_
            refine AllReadyH.cons (o := ⟨some 30, _, _, _, _, _⟩) rfl (fun K hK => ?_) AllReadyH.nil
            go_simp
            refine hK.out _ _ (HS.out.alloc _) (fun _ => ?_)
            clear hK K
            try simp only [Act.put, List.setIfInBounds_toArray, List.set_cons_zero, List.set_cons_succ]
            have hsz : (u2.alloc (.cells #[.int .i64 o, .int .u32 q] 29)).heap.size = u2.heap.size + 1 := by simp
            have HBr := Lib.hid (HBr.out.alloc HBr.out.size (.cells #[.int .i64 o, .int .u32 q] 29))
            have HO := Lib.hid (HO.out.alloc (.cells #[.int .i64 o, .int .u32 q] 29))
            have HN := Lib.hid (Blk.new u2 #[.int .i64 o, .int .u32 q] 29)
            generalize u2.alloc (.cells #[.int .i64 o, .int .u32 q] 29) = u3 at HBr hsz HO HN ⊢
            have hszu3 := Lib.hid hsz
            clear hsz
            have HS := Lib.hid (HSr.out.next HBr.out)
            have HZ := Lib.hid (HZr.out.below HBr.out)
            refine wpAnyH_ready (rs := [8]) (by kernel_rfl) (by simp) ?_
            refine AllReadyH.cons (o := ⟨some 31, _, _, _, _, _⟩) rfl (fun K hK => ?_) AllReadyH.nil
            have HN1 := Lib.hid (lit1 HN.out)
            refine if_yes rfl ?_
            refine wp_append_list (.tmp 28) (.tmp 30) rfl wr.heap.size ti hi hz0 hz1 hz2 _ (0 + len) ([] ++ L) rfl HO.out _ 1 1 [(o, q)] rfl HN1.out (by omega) (by have := hszu1.out; have := hszu2.out; have := hszu3.out; omega) ?_
            intro vau4 u4 hoa hga
            have hszu4 := Lib.hid hga.size
            have hbr := HBr.out.grown hga HBr.out.size (fun k hk => by have := own_base HO.out k hk; have := hszu1.out; have := hszu2.out; have := hszu3.out; omega)
            have HBr := Lib.hid hbr
            have HO := Lib.hid hoa
            clear hoa hga hbr
            have HS := Lib.hid (HSr.out.next HBr.out)
            have HZ := Lib.hid (HZr.out.below HBr.out)
            refine hK.out _ _ HS.out (fun _ => ?_)
            clear hK K
            try simp only [Act.put, List.setIfInBounds_toArray, List.set_cons_zero, List.set_cons_succ]
            refine wpAnyH_ready (rs := [9]) (by kernel_rfl) (by simp) ?_
            refine AllReadyH.cons (o := ⟨some 32, _, _, _, _, _⟩) rfl (fun K hK => ?_) AllReadyH.nil
            have hoz := HO.out
            generalize (0 + len + 1) = n3 at hoz
            obtain ⟨alc, capc, hvc, hIc, hFc⟩ := app2_got (M := (L ++ [(o, q)])) hoz
            subst hvc
            have HIc := Lib.hid hIc
            clear hIc hFc
            go_simp
            go_at_call 10
            have hmk := rMake_cut v alc _ capc (L ++ [(o, q)]) _ HIc.out HIN.out
            rw [HU.out, HR.out, HCC.out, HNR.out] at hmk
            refine hmk.mono ?_
            clear hmk
            rintro e u5 ⟨alr, capr, rfl, hIr, bu5⟩
            have HIR := Lib.hid hIr
            have HBr := Lib.hid (HBr.out.trans (bu5.mono HBr.out.size))
            clear bu5 hIr
            have HS := Lib.hid (HSr.out.next HBr.out)
            have HZ := Lib.hid (HZr.out.below HBr.out)
            go_wp2_with fail
            refine hK.out _ _ HS.out (fun _ => ?_)
            clear hK K
            try simp only [Act.put, List.setIfInBounds_toArray, List.set_cons_zero, List.set_cons_succ]
            refine wpAnyH_take (i := 10) (oi := ⟨some 33, _, _, _, _, _⟩) (v := ?_) rfl (by kernel_rfl) (by kernel_rfl) (by kernel_rfl) (fun _ _ _ h => h) (Or.inl ⟨by rfl, ?_⟩) HS.out ?_
            rotate_left
            · intro w' hSw; clear hSw; go_simp; try (with_reducible rfl)
            try simp only [Act.put, List.setIfInBounds_toArray, List.set_cons_zero, List.set_cons_succ]
            refine wpAnyH_take (i := 11) (oi := ⟨some 34, _, _, _, _, _⟩) (v := ?_) rfl (by kernel_rfl) (by kernel_rfl) (by kernel_rfl) (fun _ _ _ h => h) (Or.inl ⟨by rfl, ?_⟩) HS.out ?_
            rotate_left
            · intro w' hSw; clear hSw; go_simp; try (with_reducible rfl)
            try simp only [Act.put, List.setIfInBounds_toArray, List.set_cons_zero, List.set_cons_succ]
            refine wpAnyH_ready (rs := [12]) (by kernel_rfl) (by simp) ?_
            refine AllReadyH.cons (o := ⟨none, _, _, _, _, _⟩) rfl (fun K hK => ?_) AllReadyH.nil
            refine if_yes rfl ?_
            refine wp_store_row 27 (.tmp 4) (.tmp 33) rfl (w.heap.size + 1 + 1) #[.int .u32 (u 0), .int .u32 (u 1), .int .u32 (u 2), .int .u32 (u 3), .int .u32 (u 4), .int .u32 (u 5), .int .u32 (u 6), .int .u32 (u 7), .slice alr nr capr] rfl rfl 27 _ HZ.out (by kernel_rfl) rfl (cut_one _ _ _ _) ?_
            refine hK.out _ _ (HS.out.row HZ.out (by simp <;> omega) (by omega) _) (fun _ => ?_)
            clear hK K
            try simp only [Act.put, List.setIfInBounds_toArray, List.set_cons_zero, List.set_cons_succ]
            have HS := Lib.hid (HS.out.row HZ.out (by simp <;> omega) (by omega) #[.int .u32 (u 0), .int .u32 (u 1), .int .u32 (u 2), .int .u32 (u 3), .int .u32 (u 4), .int .u32 (u 5), .int .u32 (u 6), .int .u32 (u 7), .slice alr nr capr])
            refine wpAnyH_take (i := 13) (oi := ⟨some 5, _, _, _, _, _⟩) (v := ?_) rfl (by kernel_rfl) (by kernel_rfl) (by kernel_rfl) (fun _ _ _ h => h) (Or.inl ⟨by rfl, ?_⟩) HS.out ?_
            rotate_left
            · intro w' hSw; clear hSw; go_simp; try (with_reducible rfl)
            try simp only [Act.put, List.setIfInBounds_toArray, List.set_cons_zero, List.set_cons_succ]
            refine wpAnyH_done (by kernel_rfl) ?_ _
            have hR := setRow_heap _ _ _ #[.int .u32 (u 0), .int .u32 (u 1), .int .u32 (u 2), .int .u32 (u 3), .int .u32 (u 4), .int .u32 (u 5), .int .u32 (u 6), .int .u32 (u 7), .slice alr nr capr] _ _ HZ.out
            obtain ⟨r0, r1, r2, r3, r4, r5, r6, r7, r8⟩ := cut_cells hR
            go_wp2_with fail
            refine bodyPost_ret (v := .tuple #[.agg #[.int .u32 (u 0), .int .u32 (u 1), .int .u32 (u 2), .int .u32 (u 3), .int .u32 (u 4), .int .u32 (u 5), .int .u32 (u 6), .int .u32 (u 7), .slice alr nr capr], .int .i64 c]) ?_ rfl ⟨alr, capr, by rw [HK.out, HP.out.1, HP.out.2.1, HP.out.2.2, HNR.out], by rw [HK.out, HP.out.2.1, HNR.out]; exact ids_rowC HIR.out HZ.out _, HS.out.bel⟩
            simp [results, Try.results13, go_sem, r0, r1, r2, r3, r4, r5, r6, r7, r8]
          · go_simp
            refine hK.out _ _ (HS.out.alloc _) (fun _ => ?_)
            clear hK K
            try simp only [Act.put, List.setIfInBounds_toArray, List.set_cons_zero, List.set_cons_succ]
            have hsz : (u1.alloc (.cells #[.int .i64 o, .int .u32 q] 29)).heap.size = u1.heap.size + 1 := by simp
            have HBr := Lib.hid (HBr.out.alloc HBr.out.size (.cells #[.int .i64 o, .int .u32 q] 29))
            have HO := Lib.hid (HO.out.alloc (.cells #[.int .i64 o, .int .u32 q] 29))
            have HN := Lib.hid (Blk.new u1 #[.int .i64 o, .int .u32 q] 29)
            generalize u1.alloc (.cells #[.int .i64 o, .int .u32 q] 29) = u2 at HBr hsz HO HN ⊢
            have hszu2 := Lib.hid hsz
            clear hsz
            have HS := Lib.hid (HSr.out.next HBr.out)
            have HZ := Lib.hid (HZr.out.below HBr.out)
            refine wpAnyH_ready (rs := [5]) (by kernel_rfl) (by simp) ?_
            refine AllReadyH.cons (o := ⟨some 28, _, _, _, _, _⟩) rfl (fun K hK => ?_) AllReadyH.nil
            refine if_yes rfl ?_
            refine wp_append_list (.tmp 25) (.tmp 27) rfl wr.heap.size ti hi hz0 hz1 hz2 _ _ [] rfl HO.out al len cap L rfl (HS.out.ids 0 rfl) (by omega) (by have := hszu1.out; have := hszu2.out; omega) ?_
            intro vau3 u3 hoa hga
            have hszu3 := Lib.hid hga.size
            have hbr := HBr.out.grown hga HBr.out.size (fun k hk => by have := own_base HO.out k hk; have := hszu1.out; have := hszu2.out; omega)
            have HN := Lib.hid ((hga.block _ HN.out.lt (by first | exact own_part HO.out (by have := hszu1.out; have := hszu2.out; omega) | exact lit_block (by have := hszu1.out; have := hszu2.out; omega))).trans HN.out)
            have HBr := Lib.hid hbr
            have HO := Lib.hid hoa
            clear hoa hga hbr
            have HS := Lib.hid (HSr.out.next HBr.out)
            have HZ := Lib.hid (HZr.out.below HBr.out)
            refine hK.out _ _ HS.out (fun _ => ?_)
            clear hK K
            try simp only [Act.put, List.setIfInBounds_toArray, List.set_cons_zero, List.set_cons_succ]
            refine wpAnyH_ready (rs := [8]) (by kernel_rfl) (by simp) ?_
            refine AllReadyH.cons (o := ⟨some 31, _, _, _, _, _⟩) rfl (fun K hK => ?_) AllReadyH.nil
            have HN1 := Lib.hid (lit1 HN.out)
            refine if_yes rfl ?_
            refine wp_append_list (.tmp 28) (.tmp 30) rfl wr.heap.size ti hi hz0 hz1 hz2 _ (0 + len) ([] ++ L) rfl HO.out _ 1 1 [(o, q)] rfl HN1.out (by omega) (by have := hszu1.out; have := hszu2.out; have := hszu3.out; omega) ?_
            intro vau4 u4 hoa hga
            have hszu4 := Lib.hid hga.size
            have hbr := HBr.out.grown hga HBr.out.size (fun k hk => by have := own_base HO.out k hk; have := hszu1.out; have := hszu2.out; have := hszu3.out; omega)
            have HBr := Lib.hid hbr
            have HO := Lib.hid hoa
            clear hoa hga hbr
            have HS := Lib.hid (HSr.out.next HBr.out)
            have HZ := Lib.hid (HZr.out.below HBr.out)
            refine hK.out _ _ HS.out (fun _ => ?_)
            clear hK K
            try simp only [Act.put, List.setIfInBounds_toArray, List.set_cons_zero, List.set_cons_succ]
            refine wpAnyH_ready (rs := [9]) (by kernel_rfl) (by simp) ?_
            refine AllReadyH.cons (o := ⟨some 32, _, _, _, _, _⟩) rfl (fun K hK => ?_) AllReadyH.nil
            have hoz := HO.out
            generalize (0 + len + 1) = n3 at hoz
            obtain ⟨alc, capc, hvc, hIc, hFc⟩ := app2_got (M := (L ++ [(o, q)])) hoz
            subst hvc
            have HIc := Lib.hid hIc
            clear hIc hFc
            go_simp
            go_at_call 10
            have hmk := rMake_cut v alc _ capc (L ++ [(o, q)]) _ HIc.out HIN.out
            rw [HU.out, HR.out, HCC.out, HNR.out] at hmk
            refine hmk.mono ?_
            clear hmk
            rintro e u5 ⟨alr, capr, rfl, hIr, bu5⟩
            have HIR := Lib.hid hIr
            have HBr := Lib.hid (HBr.out.trans (bu5.mono HBr.out.size))
            clear bu5 hIr
            have HS := Lib.hid (HSr.out.next HBr.out)
            have HZ := Lib.hid (HZr.out.below HBr.out)
            go_wp2_with fail
            refine hK.out _ _ HS.out (fun _ => ?_)
            clear hK K
            try simp only [Act.put, List.setIfInBounds_toArray, List.set_cons_zero, List.set_cons_succ]
            refine wpAnyH_take (i := 10) (oi := ⟨some 33, _, _, _, _, _⟩) (v := ?_) rfl (by kernel_rfl) (by kernel_rfl) (by kernel_rfl) (fun _ _ _ h => h) (Or.inl ⟨by rfl, ?_⟩) HS.out ?_
            rotate_left
            · intro w' hSw; clear hSw; go_simp; try (with_reducible rfl)
            try simp only [Act.put, List.setIfInBounds_toArray, List.set_cons_zero, List.set_cons_succ]
            refine wpAnyH_take (i := 11) (oi := ⟨some 34, _, _, _, _, _⟩) (v := ?_) rfl (by kernel_rfl) (by kernel_rfl) (by kernel_rfl) (fun _ _ _ h => h) (Or.inl ⟨by rfl, ?_⟩) HS.out ?_
            rotate_left
            · intro w' hSw; clear hSw; go_simp; try (with_reducible rfl)
            try simp only [Act.put, List.setIfInBounds_toArray, List.set_cons_zero, List.set_cons_succ]
            refine wpAnyH_ready (rs := [12]) (by kernel_rfl) (by simp) ?_
            refine AllReadyH.cons (o := ⟨none, _, _, _, _, _⟩) rfl (fun K hK => ?_) AllReadyH.nil
            refine if_yes rfl ?_
            refine wp_store_row 27 (.tmp 4) (.tmp 33) rfl (w.heap.size + 1 + 1) #[.int .u32 (u 0), .int .u32 (u 1), .int .u32 (u 2), .int .u32 (u 3), .int .u32 (u 4), .int .u32 (u 5), .int .u32 (u 6), .int .u32 (u 7), .slice alr nr capr] rfl rfl 27 _ HZ.out (by kernel_rfl) rfl (cut_one _ _ _ _) ?_
            refine hK.out _ _ (HS.out.row HZ.out (by simp <;> omega) (by omega) _) (fun _ => ?_)
            clear hK K
            try simp only [Act.put, List.setIfInBounds_toArray, List.set_cons_zero, List.set_cons_succ]
            have HS := Lib.hid (HS.out.row HZ.out (by simp <;> omega) (by omega) #[.int .u32 (u 0), .int .u32 (u 1), .int .u32 (u 2), .int .u32 (u 3), .int .u32 (u 4), .int .u32 (u 5), .int .u32 (u 6), .int .u32 (u 7), .slice alr nr capr])
            refine wpAnyH_take (i := 13) (oi := ⟨some 5, _, _, _, _, _⟩) (v := ?_) rfl (by kernel_rfl) (by kernel_rfl) (by kernel_rfl) (fun _ _ _ h => h) (Or.inl ⟨by rfl, ?_⟩) HS.out ?_
            rotate_left
            · intro w' hSw; clear hSw; go_simp; try (with_reducible rfl)
            try simp only [Act.put, List.setIfInBounds_toArray, List.set_cons_zero, List.set_cons_succ]
            refine wpAnyH_done (by kernel_rfl) ?_ _
            have hR := setRow_heap _ _ _ #[.int .u32 (u 0), .int .u32 (u 1), .int .u32 (u 2), .int .u32 (u 3), .int .u32 (u 4), .int .u32 (u 5), .int .u32 (u 6), .int .u32 (u 7), .slice alr nr capr] _ _ HZ.out
            obtain ⟨r0, r1, r2, r3, r4, r5, r6, r7, r8⟩ := cut_cells hR
            go_wp2_with fail
            refine bodyPost_ret (v := .tuple #[.agg #[.int .u32 (u 0), .int .u32 (u 1), .int .u32 (u 2), .int .u32 (u 3), .int .u32 (u 4), .int .u32 (u 5), .int .u32 (u 6), .int .u32 (u 7), .slice alr nr capr], .int .i64 c]) ?_ rfl ⟨alr, capr, by rw [HK.out, HP.out.1, HP.out.2.1, HP.out.2.2, HNR.out], by rw [HK.out, HP.out.2.1, HNR.out]; exact ids_rowC HIR.out HZ.out _, HS.out.bel⟩
            simp [results, Try.results13, go_sem, r0, r1, r2, r3, r4, r5, r6, r7, r8]
        · go_simp
          refine hK.out _ _ (HS.out.alloc _) (fun _ => ?_)
          clear hK K
          try simp only [Act.put, List.setIfInBounds_toArray, List.set_cons_zero, List.set_cons_succ]
          have hsz : (wr.alloc (.cells #[.int .i64 o, .int .u32 q] 29)).heap.size = wr.heap.size + 1 := by simp
          have HBr := Lib.hid (HBr.out.alloc HBr.out.size (.cells #[.int .i64 o, .int .u32 q] 29))
          have HN := Lib.hid (Blk.new wr #[.int .i64 o, .int .u32 q] 29)
          generalize wr.alloc (.cells #[.int .i64 o, .int .u32 q] 29) = u1 at HBr hsz HN ⊢
          have hszu1 := Lib.hid hsz
          clear hsz
          have HS := Lib.hid (HSr.out.next HBr.out)
          have HZ := Lib.hid (HZr.out.below HBr.out)
          refine wpAnyH_ready (rs := [2]) (by kernel_rfl) (by simp) ?_
          refine AllReadyH.cons (o := ⟨some 25, _, _, _, _, _⟩) rfl (fun K hK => ?_) AllReadyH.nil
          go_simp
          refine hK.out _ _ (HS.out.alloc _) (fun _ => ?_)
          clear hK K
          try simp only [Act.put, List.setIfInBounds_toArray, List.set_cons_zero, List.set_cons_succ]
          have hsz : (u1.alloc (.cells #[] 29)).heap.size = u1.heap.size + 1 := by simp
          have HBr := Lib.hid (HBr.out.alloc HBr.out.size (.cells #[] 29))
          have HO := Lib.hid (lit_own u1)
          have HN := Lib.hid (HN.out.alloc (.cells #[] 29))
          generalize u1.alloc (.cells #[] 29) = u2 at HBr hsz HO HN ⊢
          have hszu2 := Lib.hid hsz
          clear hsz
          have HS := Lib.hid (HSr.out.next HBr.out)
          have HZ := Lib.hid (HZr.out.below HBr.out)
          refine wpAnyH_ready (rs := [5]) (by kernel_rfl) (by simp) ?_
          refine AllReadyH.cons (o := ⟨some 28, _, _, _, _, _⟩) rfl (fun K hK => ?_) AllReadyH.nil
          refine if_yes rfl ?_
          refine wp_append_list (.tmp 25) (.tmp 27) rfl u1.heap.size ti hi hz0 hz1 hz2 _ _ [] rfl HO.out al len cap L rfl (HS.out.ids 0 rfl) (by omega) (by have := hszu1.out; have := hszu2.out; omega) ?_
          intro vau3 u3 hoa hga
          have hszu3 := Lib.hid hga.size
          have hbr := HBr.out.grown hga HBr.out.size (fun k hk => by have := own_base HO.out k hk; have := hszu1.out; have := hszu2.out; omega)
          have HN := Lib.hid ((hga.block _ HN.out.lt (by first | exact own_part HO.out (by have := hszu1.out; have := hszu2.out; omega) | exact lit_block (by have := hszu1.out; have := hszu2.out; omega))).trans HN.out)
          have HBr := Lib.hid hbr
          have HO := Lib.hid hoa
          clear hoa hga hbr
          have HS := Lib.hid (HSr.out.next HBr.out)
          have HZ := Lib.hid (HZr.out.below HBr.out)
          refine hK.out _ _ HS.out (fun _ => ?_)
          clear hK K
          try simp only [Act.put, List.setIfInBounds_toArray, List.set_cons_zero, List.set_cons_succ]
          refine wpAnyH_ready (rs := [8]) (by kernel_rfl) (by simp) ?_
          refine AllReadyH.cons (o := ⟨some 31, _, _, _, _, _⟩) rfl (fun K hK => ?_) AllReadyH.nil
          have HN1 := Lib.hid (lit1 HN.out)
          refine if_yes rfl ?_
          refine wp_append_list (.tmp 28) (.tmp 30) rfl u1.heap.size ti hi hz0 hz1 hz2 _ (0 + len) ([] ++ L) rfl HO.out _ 1 1 [(o, q)] rfl HN1.out (by omega) (by have := hszu1.out; have := hszu2.out; have := hszu3.out; omega) ?_
          intro vau4 u4 hoa hga
          have hszu4 := Lib.hid hga.size
          have hbr := HBr.out.grown hga HBr.out.size (fun k hk => by have := own_base HO.out k hk; have := hszu1.out; have := hszu2.out; have := hszu3.out; omega)
          have HBr := Lib.hid hbr
          have HO := Lib.hid hoa
          clear hoa hga hbr
          have HS := Lib.hid (HSr.out.next HBr.out)
          have HZ := Lib.hid (HZr.out.below HBr.out)
          refine hK.out _ _ HS.out (fun _ => ?_)
          clear hK K
          try simp only [Act.put, List.setIfInBounds_toArray, List.set_cons_zero, List.set_cons_succ]
          refine wpAnyH_ready (rs := [9]) (by kernel_rfl) (by simp) ?_
          refine AllReadyH.cons (o := ⟨some 32, _, _, _, _, _⟩) rfl (fun K hK => ?_) AllReadyH.nil
          have hoz := HO.out
          generalize (0 + len + 1) = n3 at hoz
          obtain ⟨alc, capc, hvc, hIc, hFc⟩ := app2_got (M := (L ++ [(o, q)])) hoz
          subst hvc
          have HIc := Lib.hid hIc
          clear hIc hFc
          go_simp
          go_at_call 10
          have hmk := rMake_cut v alc _ capc (L ++ [(o, q)]) _ HIc.out HIN.out
          rw [HU.out, HR.out, HCC.out, HNR.out] at hmk
          refine hmk.mono ?_
          clear hmk
          rintro e u5 ⟨alr, capr, rfl, hIr, bu5⟩
          have HIR := Lib.hid hIr
          have HBr := Lib.hid (HBr.out.trans (bu5.mono HBr.out.size))
          clear bu5 hIr
          have HS := Lib.hid (HSr.out.next HBr.out)
          have HZ := Lib.hid (HZr.out.below HBr.out)
          go_wp2_with fail
          refine hK.out _ _ HS.out (fun _ => ?_)
          clear hK K
          try simp only [Act.put, List.setIfInBounds_toArray, List.set_cons_zero, List.set_cons_succ]
          refine wpAnyH_take (i := 10) (oi := ⟨some 33, _, _, _, _, _⟩) (v := ?_) rfl (by kernel_rfl) (by kernel_rfl) (by kernel_rfl) (fun _ _ _ h => h) (Or.inl ⟨by rfl, ?_⟩) HS.out ?_
          rotate_left
          · intro w' hSw; clear hSw; go_simp; try (with_reducible rfl)
          try simp only [Act.put, List.setIfInBounds_toArray, List.set_cons_zero, List.set_cons_succ]
          refine wpAnyH_take (i := 11) (oi := ⟨some 34, _, _, _, _, _⟩) (v := ?_) rfl (by kernel_rfl) (by kernel_rfl) (by kernel_rfl) (fun _ _ _ h => h) (Or.inl ⟨by rfl, ?_⟩) HS.out ?_
          rotate_left
          · intro w' hSw; clear hSw; go_simp; try (with_reducible rfl)
          try simp only [Act.put, List.setIfInBounds_toArray, List.set_cons_zero, List.set_cons_succ]
          refine wpAnyH_ready (rs := [12]) (by kernel_rfl) (by simp) ?_
          refine AllReadyH.cons (o := ⟨none, _, _, _, _, _⟩) rfl (fun K hK => ?_) AllReadyH.nil
          refine if_yes rfl ?_
          refine wp_store_row 27 (.tmp 4) (.tmp 33) rfl (w.heap.size + 1 + 1) #[.int .u32 (u 0), .int .u32 (u 1), .int .u32 (u 2), .int .u32 (u 3), .int .u32 (u 4), .int .u32 (u 5), .int .u32 (u 6), .int .u32 (u 7), .slice alr nr capr] rfl rfl 27 _ HZ.out (by kernel_rfl) rfl (cut_one _ _ _ _) ?_
          refine hK.out _ _ (HS.out.row HZ.out (by simp <;> omega) (by omega) _) (fun _ => ?_)
          clear hK K
          try simp only [Act.put, List.setIfInBounds_toArray, List.set_cons_zero, List.set_cons_succ]
          have HS := Lib.hid (HS.out.row HZ.out (by simp <;> omega) (by omega) #[.int .u32 (u 0), .int .u32 (u 1), .int .u32 (u 2), .int .u32 (u 3), .int .u32 (u 4), .int .u32 (u 5), .int .u32 (u 6), .int .u32 (u 7), .slice alr nr capr])
          refine wpAnyH_take (i := 13) (oi := ⟨some 5, _, _, _, _, _⟩) (v := ?_) rfl (by kernel_rfl) (by kernel_rfl) (by kernel_rfl) (fun _ _ _ h => h) (Or.inl ⟨by rfl, ?_⟩) HS.out ?_
          rotate_left
          · intro w' hSw; clear hSw; go_simp; try (with_reducible rfl)
          try simp only [Act.put, List.setIfInBounds_toArray, List.set_cons_zero, List.set_cons_succ]
          refine wpAnyH_done (by kernel_rfl) ?_ _
          have hR := setRow_heap _ _ _ #[.int .u32 (u 0), .int .u32 (u 1), .int .u32 (u 2), .int .u32 (u 3), .int .u32 (u 4), .int .u32 (u 5), .int .u32 (u 6), .int .u32 (u 7), .slice alr nr capr] _ _ HZ.out
          obtain ⟨r0, r1, r2, r3, r4, r5, r6, r7, r8⟩ := cut_cells hR
          go_wp2_with fail
          refine bodyPost_ret (v := .tuple #[.agg #[.int .u32 (u 0), .int .u32 (u 1), .int .u32 (u 2), .int .u32 (u 3), .int .u32 (u 4), .int .u32 (u 5), .int .u32 (u 6), .int .u32 (u 7), .slice alr nr capr], .int .i64 c]) ?_ rfl ⟨alr, capr, by rw [HK.out, HP.out.1, HP.out.2.1, HP.out.2.2, HNR.out], by rw [HK.out, HP.out.2.1, HNR.out]; exact ids_rowC HIR.out HZ.out _, HS.out.bel⟩
          simp [results, Try.results13, go_sem, r0, r1, r2, r3, r4, r5, r6, r7, r8]
    · have HE := Lib.hid (adK_bad (v := v) (L := L) HOZ.out hz0)
      have hn : (z != 0) = true := by simpa using hz0
      clear hz0
      have HZ := Lib.hid (H2.out.blk 0 rfl)
      have HB := Lib.hid H2.out.bel
      go_wp2_with (refine wpList_store_row rfl 27 _ _ rfl (w.heap.size + 1 + 1) #[.int .u32 0, .int .u32 0, .int .u32 0, .int .u32 0, .int .u32 0, .int .u32 0, .int .u32 0, .int .u32 0, .slice none 0 0] rfl rfl 27 _ HZ.out (by kernel_rfl) rfl (by kernel_rfl) ?_)
      have hR := setRow_heap _ _ _ #[.int .u32 0, .int .u32 0, .int .u32 0, .int .u32 0, .int .u32 0, .int .u32 0, .int .u32 0, .int .u32 0, .slice none 0 0] _ _ HZ.out
      obtain ⟨r0, r1, r2, r3, r4, r5, r6, r7, r8⟩ := cut_cells (v := zV) (al := none) (len := 0) (cap := 0) hR
      refine bodyPost_ret (v := .tuple #[.agg #[.int .u32 0, .int .u32 0, .int .u32 0, .int .u32 0, .int .u32 0, .int .u32 0, .int .u32 0, .int .u32 0, .slice none 0 0], .int .i64 z]) ?_ rfl ⟨none, 0, by rw [HK.out, HE.out.1, HE.out.2.1, HE.out.2.2]; rfl, by rw [HK.out, HE.out.2.1]; exact Ids.nil _, below_setRow HB.out (by omega) _⟩
      simp [results, Try.results13, go_sem, r0, r1, r2, r3, r4, r5, r6, r7, r8, zV]
  · have HE := Lib.hid (adK_bad (v := v) (L := L) (o := o) (q := q) (show orZ k (chk o q) = k by unfold orZ; rw [if_neg hk0]) hk0)
    have hn : (k != 0) = true := by simpa using hk0
    have hz : (k == 0) = false := by simpa using hk0
    clear hk0
    go_enter Try.func13, Try.ntmps13
    go_wp2_with (refine wpList_load_row rfl 27 _ rfl w.heap.size rfl 27 #[.int .u32 (v 0), .int .u32 (v 1), .int .u32 (v 2), .int .u32 (v 3), .int .u32 (v 4), .int .u32 (v 5), .int .u32 (v 6), .int .u32 (v 7), .slice al len cap] (0, 0) _ HX.out Try.underlying27 rfl (by kernel_rfl) ?_)
    refine hck.mono ?_
    clear hck
    rintro e w1 ⟨rfl, b1⟩
    have HZ := Lib.hid ((H0.out.next b1).blk 0 rfl)
    have HB := Lib.hid (H0.out.next b1).bel
    clear b1
    go_wp2_with (refine wpList_store_row rfl 27 _ _ rfl (w.heap.size + 1 + 1) #[.int .u32 0, .int .u32 0, .int .u32 0, .int .u32 0, .int .u32 0, .int .u32 0, .int .u32 0, .int .u32 0, .slice none 0 0] rfl rfl 27 _ HZ.out (by kernel_rfl) rfl (by kernel_rfl) ?_)
    have hR := setRow_heap _ _ _ #[.int .u32 0, .int .u32 0, .int .u32 0, .int .u32 0, .int .u32 0, .int .u32 0, .int .u32 0, .int .u32 0, .slice none 0 0] _ _ HZ.out
    obtain ⟨r0, r1, r2, r3, r4, r5, r6, r7, r8⟩ := cut_cells (v := zV) (al := none) (len := 0) (cap := 0) hR
    refine bodyPost_ret (v := .tuple #[.agg #[.int .u32 0, .int .u32 0, .int .u32 0, .int .u32 0, .int .u32 0, .int .u32 0, .int .u32 0, .int .u32 0, .slice none 0 0], .int .i64 k]) ?_ rfl ⟨none, 0, by rw [HK.out, HE.out.1, HE.out.2.1, HE.out.2.2]; rfl, by rw [HK.out, HE.out.2.1]; exact Ids.nil _, below_setRow HB.out (by omega) _⟩
    simp [results, Try.results13, go_sem, r0, r1, r2, r3, r4, r5, r6, r7, r8, zV]

set_option maxRecDepth 100000 in
set_option maxHeartbeats 4000000 in
theorem rJoin_cut (a b : Nat → Int) (al al' : Option Addr) (len cap len' cap' : Nat) (A B : List (Int × Int)) (w : World) (hA : Ids w al len cap A) (hB : Ids w al' len' cap' B) (ha : InB a) (hb : InB b) :
    Calls Try.prog 22 #[.agg #[.int .u32 (a 0), .int .u32 (a 1), .int .u32 (a 2), .int .u32 (a 3), .int .u32 (a 4), .int .u32 (a 5), .int .u32 (a 6), .int .u32 (a 7), .slice al len cap], .agg #[.int .u32 (b 0), .int .u32 (b 1), .int .u32 (b 2), .int .u32 (b 3), .int .u32 (b 4), .int .u32 (b 5), .int .u32 (b 6), .int .u32 (b 7), .slice al' len' cap']] w fun e w' => ∃ al2 cap2, e = .returned (.tuple #[.agg #[.int .u32 (joKV (orZ (ckD a A) (ckD b B)) a A b B 0), .int .u32 (joKV (orZ (ckD a A) (ckD b B)) a A b B 1), .int .u32 (joKV (orZ (ckD a A) (ckD b B)) a A b B 2), .int .u32 (joKV (orZ (ckD a A) (ckD b B)) a A b B 3), .int .u32 (joKV (orZ (ckD a A) (ckD b B)) a A b B 4), .int .u32 (joKV (orZ (ckD a A) (ckD b B)) a A b B 5), .int .u32 (joKV (orZ (ckD a A) (ckD b B)) a A b B 6), .int .u32 (joKV (orZ (ckD a A) (ckD b B)) a A b B 7), .slice al2 (joKS (orZ (ckD a A) (ckD b B)) a A b B).length cap2], .int .i64 (joKC (orZ (ckD a A) (ckD b B)) a A b B)]) ∧ Ids w' al2 (joKS (orZ (ckD a A) (ckD b B)) a A b B).length cap2 (joKS (orZ (ckD a A) (ckD b B)) a A b B) ∧ Below w.heap.size w w' := by
  obtain ⟨ti, hi, hz0, hz1, hz2⟩ := info_parts Try.infoId
  have h0 := (((((KS.nil w).add hA).add hB).box rfl #[.int .u32 (a 0), .int .u32 (a 1), .int .u32 (a 2), .int .u32 (a 3), .int .u32 (a 4), .int .u32 (a 5), .int .u32 (a 6), .int .u32 (a 7), .slice al len cap] 27).box (g := w.heap.size + 1) (by simp) #[.int .u32 (b 0), .int .u32 (b 1), .int .u32 (b 2), .int .u32 (b 3), .int .u32 (b 4), .int .u32 (b 5), .int .u32 (b 6), .int .u32 (b 7), .slice al' len' cap'] 27).box (g := w.heap.size + 1 + 1) (by simp) #[.int .u32 0, .int .u32 0, .int .u32 0, .int .u32 0, .int .u32 0, .int .u32 0, .int .u32 0, .int .u32 0, .slice none 0 0] 27
  have H0 := Lib.hid h0
  have HX := Lib.hid (h0.blk 2 rfl)
  have HIN := Lib.hid ha
  have HIN' := Lib.hid hb
  have HLN := Lib.hid hA.ln
  have HLN' := Lib.hid hB.ln
  have hcap := hA.bd
  have hfit := hA.fit
  have hcap' := hB.bd
  have hfit' := hB.fit
  have hck := rCheck_any a al len cap A _ (h0.ids 1 rfl) ha
  clear h0 hA hB ha hb
  obtain ⟨k1, hk1⟩ : ∃ k, ckD a A = k := ⟨_, rfl⟩
  obtain ⟨k2, hk2⟩ : ∃ k, ckD b B = k := ⟨_, rfl⟩
  rw [hk1] at hck
  have HK1 := Lib.hid hk1
  have HK2 := Lib.hid hk2
  have HIS : Hid (k1 = 0 → A.length ≤ 64) := Lib.hid (fun e => (chkS_zero ((ckD_iff HIN.out).1 (hk1.trans e)).s0).1)
  have HIS' : Hid (k2 = 0 → B.length ≤ 64) := Lib.hid (fun e => (chkS_zero ((ckD_iff HIN'.out).1 (hk2.trans e)).s0).1)
  clear hk1 hk2
  by_cases hz1 : k1 = 0
  · subst hz1
    have HK : Hid (orZ (ckD a A) (ckD b B) = k2) := Lib.hid (by rw [HK1.out, HK2.out]; unfold orZ; rw [if_pos rfl])
    have hl64 : len ≤ 64 := by have := HIS.out rfl; have := HLN.out; omega
    have HLL : Hid (Small k2 len') := Lib.hid (fun e => by have := HIS'.out e; have := HLN'.out; omega)
    clear HIS HIS'
    go_enter Try.func22, Try.ntmps22
    go_wp2_with (refine wpList_load_row rfl 27 _ rfl (w.heap.size) rfl 27 #[.int .u32 (a 0), .int .u32 (a 1), .int .u32 (a 2), .int .u32 (a 3), .int .u32 (a 4), .int .u32 (a 5), .int .u32 (a 6), .int .u32 (a 7), .slice al len cap] (0, 0) _ HX.out Try.underlying27 rfl (by kernel_rfl) ?_)
    refine hck.mono ?_
    clear hck
    rintro e w1 ⟨rfl, b1⟩
    have H1 := Lib.hid (H0.out.next b1)
    have HY := Lib.hid (H1.out.blk 1 rfl)
    have hck := rCheck_any b al' len' cap' B _ (H1.out.ids 0 rfl) HIN'.out
    rw [HK2.out] at hck
    clear b1
    go_wp2_with (refine wpList_load_row rfl 27 _ rfl (w.heap.size + 1) rfl 27 #[.int .u32 (b 0), .int .u32 (b 1), .int .u32 (b 2), .int .u32 (b 3), .int .u32 (b 4), .int .u32 (b 5), .int .u32 (b 6), .int .u32 (b 7), .slice al' len' cap'] (0, 0) _ HY.out Try.underlying27 rfl (by kernel_rfl) ?_)
    refine hck.mono ?_
    clear hck
    rintro e w3 ⟨rfl, b2⟩
    have H3 := Lib.hid (H1.out.next b2)
    clear b2 HY
    by_cases hz2 : k2 = 0
    · subst hz2
      have HP := Lib.hid (joK_ok (a := a) (b := b) (A := A) (B := B) (rfl : (0 : Int) = 0))
      obtain ⟨u, hu⟩ : ∃ u, cmV (joinV a b) (A ++ B) = u := ⟨_, rfl⟩
      obtain ⟨R, hr⟩ : ∃ R, cmS (joinV a b) (A ++ B) = R := ⟨_, rfl⟩
      obtain ⟨c, hc⟩ : ∃ c, cmC (joinV a b) (A ++ B) = c := ⟨_, rfl⟩
      obtain ⟨nr, hnr⟩ : ∃ n, R.length = n := ⟨_, rfl⟩
      rw [hu, hr, hc] at HP
      have HU := Lib.hid hu
      have HR := Lib.hid hr
      have HCC := Lib.hid hc
      have HNR := Lib.hid hnr
      clear hu hr hc hnr
      have hl64' : len' ≤ 64 := HLL.out rfl
      go_wp2_with fail
      have h3 := KS.drop (Bs' := [(w.heap.size + 1, #[.int .u32 (b 0), .int .u32 (b 1), .int .u32 (b 2), .int .u32 (b 3), .int .u32 (b 4), .int .u32 (b 5), .int .u32 (b 6), .int .u32 (b 7), .slice al' len' cap'], 27), (w.heap.size, #[.int .u32 (a 0), .int .u32 (a 1), .int .u32 (a 2), .int .u32 (a 3), .int .u32 (a 4), .int .u32 (a 5), .int .u32 (a 6), .int .u32 (a 7), .slice al len cap], 27)]) (Rs' := [(al', len', cap', B), (al, len, cap, A)]) H3.out (fun x hx => List.mem_cons_of_mem _ hx) (fun r hr => hr)
      refine wp_region_held_drew (S := KS w [(w.heap.size + 1, #[.int .u32 (b 0), .int .u32 (b 1), .int .u32 (b 2), .int .u32 (b 3), .int .u32 (b 4), .int .u32 (b 5), .int .u32 (b 6), .int .u32 (b 7), .slice al' len' cap'], 27), (w.heap.size, #[.int .u32 (a 0), .int .u32 (a 1), .int .u32 (a 2), .int .u32 (a 3), .int .u32 (a 4), .int .u32 (a 5), .int .u32 (a 6), .int .u32 (a 7), .slice al len cap], 27)] [(al', len', cap', B), (al, len, cap, A)]) (by kernel_rfl) h3.drew (fun _ => ?_)
      have HSr := Lib.hid h3.drew
      have HZr := Lib.hid (H3.out.drew.blk 0 rfl)
      clear h3
      generalize hwr : w3.drew = wr at HSr HZr ⊢
      clear hwr
      have HS := HSr
      have HZ := HZr
      have HBr := Lib.hid (Below.refl wr.heap.size wr)
      refine wpAnyH_take (i := 0) (oi := ⟨some 17, _, _, _, _, _⟩) (v := ?_) rfl (by kernel_rfl) (by kernel_rfl) (by kernel_rfl) (fun _ _ _ h => h) (Or.inl ⟨by rfl, ?_⟩) HS.out ?_
      rotate_left
      · intro w' hSw; clear hSw; go_simp; try (with_reducible rfl)
      try simp only [Act.put, List.setIfInBounds_toArray, List.set_cons_zero, List.set_cons_succ]
      refine wpAnyH_take (i := 1) (oi := ⟨some 18, _, _, _, _, _⟩) (v := ?_) rfl (by kernel_rfl) (by kernel_rfl) (by kernel_rfl) (fun _ _ _ h => h) (Or.inl ⟨by rfl, ?_⟩) HS.out ?_
      rotate_left
      · intro w' hSw; obtain ⟨b_0, b_1, b_2, b_3, b_4, b_5, b_6, b_7, b_8⟩ := cut_cells (hSw.blk 0 rfl); obtain ⟨a_0, a_1, a_2, a_3, a_4, a_5, a_6, a_7, a_8⟩ := cut_cells (hSw.blk 1 rfl); go_simp; try (with_reducible rfl)
      try simp only [Act.put, List.setIfInBounds_toArray, List.set_cons_zero, List.set_cons_succ]
      refine wpAnyH_take (i := 2) (oi := ⟨some 19, _, _, _, _, _⟩) (v := ?_) rfl (by kernel_rfl) (by kernel_rfl) (by kernel_rfl) (fun _ _ _ h => h) (Or.inl ⟨by rfl, ?_⟩) HS.out ?_
      rotate_left
      · intro w' hSw; clear hSw; go_simp; try (with_reducible rfl)
      try simp only [Act.put, List.setIfInBounds_toArray, List.set_cons_zero, List.set_cons_succ]
      refine wpAnyH_take (i := 3) (oi := ⟨some 20, _, _, _, _, _⟩) (v := ?_) rfl (by kernel_rfl) (by kernel_rfl) (by kernel_rfl) (fun _ _ _ h => h) (Or.inl ⟨by rfl, ?_⟩) HS.out ?_
      rotate_left
      · intro w' hSw; obtain ⟨b_0, b_1, b_2, b_3, b_4, b_5, b_6, b_7, b_8⟩ := cut_cells (hSw.blk 0 rfl); obtain ⟨a_0, a_1, a_2, a_3, a_4, a_5, a_6, a_7, a_8⟩ := cut_cells (hSw.blk 1 rfl); go_simp; try (with_reducible rfl)
      try simp only [Act.put, List.setIfInBounds_toArray, List.set_cons_zero, List.set_cons_succ]
      refine wpAnyH_take (i := 6) (oi := ⟨some 23, _, _, _, _, _⟩) (v := ?_) rfl (by kernel_rfl) (by kernel_rfl) (by kernel_rfl) (fun _ _ _ h => h) (Or.inl ⟨by rfl, ?_⟩) HS.out ?_
      rotate_left
      · intro w' hSw; clear hSw; go_simp; try (with_reducible rfl)
      try simp only [Act.put, List.setIfInBounds_toArray, List.set_cons_zero, List.set_cons_succ]
      refine wpAnyH_take (i := 7) (oi := ⟨some 24, _, _, _, _, _⟩) (v := ?_) rfl (by kernel_rfl) (by kernel_rfl) (by kernel_rfl) (fun _ _ _ h => h) (Or.inl ⟨by rfl, ?_⟩) HS.out ?_
      rotate_left
      · intro w' hSw; obtain ⟨b_0, b_1, b_2, b_3, b_4, b_5, b_6, b_7, b_8⟩ := cut_cells (hSw.blk 0 rfl); obtain ⟨a_0, a_1, a_2, a_3, a_4, a_5, a_6, a_7, a_8⟩ := cut_cells (hSw.blk 1 rfl); go_simp; try (with_reducible rfl)
      try simp only [Act.put, List.setIfInBounds_toArray, List.set_cons_zero, List.set_cons_succ]
      refine wpAnyH_take (i := 9) (oi := ⟨some 26, _, _, _, _, _⟩) (v := ?_) rfl (by kernel_rfl) (by kernel_rfl) (by kernel_rfl) (fun _ _ _ h => h) (Or.inl ⟨by rfl, ?_⟩) HS.out ?_
      rotate_left
      · intro w' hSw; clear hSw; go_simp; try (with_reducible rfl)
      try simp only [Act.put, List.setIfInBounds_toArray, List.set_cons_zero, List.set_cons_succ]
      refine wpAnyH_take (i := 10) (oi := ⟨some 27, _, _, _, _, _⟩) (v := ?_) rfl (by kernel_rfl) (by kernel_rfl) (by kernel_rfl) (fun _ _ _ h => h) (Or.inl ⟨by rfl, ?_⟩) HS.out ?_
      rotate_left
      · intro w' hSw; obtain ⟨b_0, b_1, b_2, b_3, b_4, b_5, b_6, b_7, b_8⟩ := cut_cells (hSw.blk 0 rfl); obtain ⟨a_0, a_1, a_2, a_3, a_4, a_5, a_6, a_7, a_8⟩ := cut_cells (hSw.blk 1 rfl); go_simp; try (with_reducible rfl)
      try simp only [Act.put, List.setIfInBounds_toArray, List.set_cons_zero, List.set_cons_succ]
      refine wpAnyH_ready (rs := [4, 5]) (by kernel_rfl) (by simp) ?_
      refine AllReadyH.cons (o := ⟨some 21, _, _, _, _, _⟩) rfl (fun K hK => ?_) (AllReadyH.cons (o := ⟨some 22, _, _, _, _, _⟩) rfl (fun K hK => ?_) AllReadyH.nil)
      · go_simp
        go_at_call 50
        have hcl := rjoin_any a b wr
        refine hcl.mono ?_
        clear hcl
        rintro e u1 ⟨rfl, bu1⟩
        have hszu1 := Lib.hid bu1.size
        have HBr := Lib.hid (HBr.out.trans (bu1.mono HBr.out.size))
        clear bu1
        have HS := Lib.hid (HSr.out.next HBr.out)
        have HZ := Lib.hid (HZr.out.below HBr.out)
        go_wp2_with fail
        refine hK.out _ _ HS.out (fun _ => ?_)
        clear hK K
        try simp only [Act.put, List.setIfInBounds_toArray, List.set_cons_zero, List.set_cons_succ]
        refine wpAnyH_ready (rs := [5]) (by kernel_rfl) (by simp) ?_
        refine AllReadyH.cons (o := ⟨some 22, _, _, _, _, _⟩) rfl (fun K hK => ?_) AllReadyH.nil
        go_simp
        refine hK.out _ _ (HS.out.alloc _) (fun _ => ?_)
        clear hK K
        try simp only [Act.put, List.setIfInBounds_toArray, List.set_cons_zero, List.set_cons_succ]
        have hsz : (u1.alloc (.cells #[] 29)).heap.size = u1.heap.size + 1 := by simp
        have HBr := Lib.hid (HBr.out.alloc HBr.out.size (.cells #[] 29))
        have HO := Lib.hid (lit_own u1)
        generalize u1.alloc (.cells #[] 29) = u2 at HBr hsz HO ⊢
        have hszu2 := Lib.hid hsz
        clear hsz
        have HS := Lib.hid (HSr.out.next HBr.out)
        have HZ := Lib.hid (HZr.out.below HBr.out)
        refine wpAnyH_ready (rs := [8]) (by kernel_rfl) (by simp) ?_
        refine AllReadyH.cons (o := ⟨some 25, _, _, _, _, _⟩) rfl (fun K hK => ?_) AllReadyH.nil
        refine if_yes rfl ?_
        refine wp_append_list (.tmp 22) (.tmp 24) rfl u1.heap.size ti hi hz0 hz1 hz2 _ _ [] rfl HO.out al len cap A rfl (HS.out.ids 1 rfl) (by omega) (by have := hszu1.out; have := hszu2.out; omega) ?_
        intro vau3 u3 hoa hga
        have hszu3 := Lib.hid hga.size
        have hbr := HBr.out.grown hga HBr.out.size (fun k hk => by have := own_base HO.out k hk; have := hszu1.out; have := hszu2.out; omega)
        have HBr := Lib.hid hbr
        have HO := Lib.hid hoa
        clear hoa hga hbr
        have HS := Lib.hid (HSr.out.next HBr.out)
        have HZ := Lib.hid (HZr.out.below HBr.out)
        refine hK.out _ _ HS.out (fun _ => ?_)
        clear hK K
        try simp only [Act.put, List.setIfInBounds_toArray, List.set_cons_zero, List.set_cons_succ]
        refine wpAnyH_ready (rs := [11]) (by kernel_rfl) (by simp) ?_
        refine AllReadyH.cons (o := ⟨some 28, _, _, _, _, _⟩) rfl (fun K hK => ?_) AllReadyH.nil
        refine if_yes rfl ?_
        refine wp_append_list (.tmp 25) (.tmp 27) rfl u1.heap.size ti hi hz0 hz1 hz2 _ (0 + len) ([] ++ A) rfl HO.out al' len' cap' B rfl (HS.out.ids 0 rfl) (by omega) (by have := hszu1.out; have := hszu2.out; have := hszu3.out; omega) ?_
        intro vau4 u4 hoa hga
        have hszu4 := Lib.hid hga.size
        have hbr := HBr.out.grown hga HBr.out.size (fun k hk => by have := own_base HO.out k hk; have := hszu1.out; have := hszu2.out; have := hszu3.out; omega)
        have HBr := Lib.hid hbr
        have HO := Lib.hid hoa
        clear hoa hga hbr
        have HS := Lib.hid (HSr.out.next HBr.out)
        have HZ := Lib.hid (HZr.out.below HBr.out)
        refine hK.out _ _ HS.out (fun _ => ?_)
        clear hK K
        try simp only [Act.put, List.setIfInBounds_toArray, List.set_cons_zero, List.set_cons_succ]
        refine wpAnyH_ready (rs := [12]) (by kernel_rfl) (by simp) ?_
        refine AllReadyH.cons (o := ⟨some 29, _, _, _, _, _⟩) rfl (fun K hK => ?_) AllReadyH.nil
        have hoz := HO.out
        generalize (0 + len + len') = n3 at hoz
        obtain ⟨alc, capc, hvc, hIc, hFc⟩ := app2_got (M := (A ++ B)) hoz
        subst hvc
        have HIc := Lib.hid hIc
        clear hIc hFc
        go_simp
        go_at_call 10
        have hmk := rMake_cut (joinV a b) alc _ capc (A ++ B) _ HIc.out (join_in HIN.out HIN'.out)
        rw [HU.out, HR.out, HCC.out, HNR.out] at hmk
        refine hmk.mono ?_
        clear hmk
        rintro e u5 ⟨alr, capr, rfl, hIr, bu5⟩
        have HIR := Lib.hid hIr
        have HBr := Lib.hid (HBr.out.trans (bu5.mono HBr.out.size))
        clear bu5 hIr
        have HS := Lib.hid (HSr.out.next HBr.out)
        have HZ := Lib.hid (HZr.out.below HBr.out)
        go_wp2_with fail
        refine hK.out _ _ HS.out (fun _ => ?_)
        clear hK K
        try simp only [Act.put, List.setIfInBounds_toArray, List.set_cons_zero, List.set_cons_succ]
        refine wpAnyH_take (i := 13) (oi := ⟨some 30, _, _, _, _, _⟩) (v := ?_) rfl (by kernel_rfl) (by kernel_rfl) (by kernel_rfl) (fun _ _ _ h => h) (Or.inl ⟨by rfl, ?_⟩) HS.out ?_
        rotate_left
        · intro w' hSw; clear hSw; go_simp; try (with_reducible rfl)
        try simp only [Act.put, List.setIfInBounds_toArray, List.set_cons_zero, List.set_cons_succ]
        refine wpAnyH_take (i := 14) (oi := ⟨some 31, _, _, _, _, _⟩) (v := ?_) rfl (by kernel_rfl) (by kernel_rfl) (by kernel_rfl) (fun _ _ _ h => h) (Or.inl ⟨by rfl, ?_⟩) HS.out ?_
        rotate_left
        · intro w' hSw; clear hSw; go_simp; try (with_reducible rfl)
        try simp only [Act.put, List.setIfInBounds_toArray, List.set_cons_zero, List.set_cons_succ]
        refine wpAnyH_ready (rs := [15]) (by kernel_rfl) (by simp) ?_
        refine AllReadyH.cons (o := ⟨none, _, _, _, _, _⟩) rfl (fun K hK => ?_) AllReadyH.nil
        refine if_yes rfl ?_
        refine wp_store_row 27 (.tmp 4) (.tmp 30) rfl (w.heap.size + 1 + 1) #[.int .u32 (u 0), .int .u32 (u 1), .int .u32 (u 2), .int .u32 (u 3), .int .u32 (u 4), .int .u32 (u 5), .int .u32 (u 6), .int .u32 (u 7), .slice alr nr capr] rfl rfl 27 _ HZ.out (by kernel_rfl) rfl (cut_one _ _ _ _) ?_
        refine hK.out _ _ (HS.out.row HZ.out (by simp <;> omega) (by omega) _) (fun _ => ?_)
        clear hK K
        try simp only [Act.put, List.setIfInBounds_toArray, List.set_cons_zero, List.set_cons_succ]
        have HS := Lib.hid (HS.out.row HZ.out (by simp <;> omega) (by omega) #[.int .u32 (u 0), .int .u32 (u 1), .int .u32 (u 2), .int .u32 (u 3), .int .u32 (u 4), .int .u32 (u 5), .int .u32 (u 6), .int .u32 (u 7), .slice alr nr capr])
        refine wpAnyH_take (i := 16) (oi := ⟨some 5, _, _, _, _, _⟩) (v := ?_) rfl (by kernel_rfl) (by kernel_rfl) (by kernel_rfl) (fun _ _ _ h => h) (Or.inl ⟨by rfl, ?_⟩) HS.out ?_
        rotate_left
        · intro w' hSw; clear hSw; go_simp; try (with_reducible rfl)
        try simp only [Act.put, List.setIfInBounds_toArray, List.set_cons_zero, List.set_cons_succ]
        refine wpAnyH_done (by kernel_rfl) ?_ _
        have hR := setRow_heap _ _ _ #[.int .u32 (u 0), .int .u32 (u 1), .int .u32 (u 2), .int .u32 (u 3), .int .u32 (u 4), .int .u32 (u 5), .int .u32 (u 6), .int .u32 (u 7), .slice alr nr capr] _ _ HZ.out
        obtain ⟨r0, r1, r2, r3, r4, r5, r6, r7, r8⟩ := cut_cells hR
        go_wp2_with fail
        refine bodyPost_ret (v := .tuple #[.agg #[.int .u32 (u 0), .int .u32 (u 1), .int .u32 (u 2), .int .u32 (u 3), .int .u32 (u 4), .int .u32 (u 5), .int .u32 (u 6), .int .u32 (u 7), .slice alr nr capr], .int .i64 c]) ?_ rfl ⟨alr, capr, by rw [HK.out, HP.out.1, HP.out.2.1, HP.out.2.2, HNR.out], by rw [HK.out, HP.out.2.1, HNR.out]; exact ids_rowC HIR.out HZ.out _, HS.out.bel⟩
        simp [results, Try.results22, go_sem, r0, r1, r2, r3, r4, r5, r6, r7, r8]
      · go_simp
        refine hK.out _ _ (HS.out.alloc _) (fun _ => ?_)
        clear hK K
        try simp only [Act.put, List.setIfInBounds_toArray, List.set_cons_zero, List.set_cons_succ]
        have hsz : (wr.alloc (.cells #[] 29)).heap.size = wr.heap.size + 1 := by simp
        have HBr := Lib.hid (HBr.out.alloc HBr.out.size (.cells #[] 29))
        have HO := Lib.hid (lit_own wr)
        generalize wr.alloc (.cells #[] 29) = u1 at HBr hsz HO ⊢
        have hszu1 := Lib.hid hsz
        clear hsz
        have HS := Lib.hid (HSr.out.next HBr.out)
        have HZ := Lib.hid (HZr.out.below HBr.out)
        refine wpAnyH_ready (rs := [4]) (by kernel_rfl) (by simp) ?_
        refine AllReadyH.cons (o := ⟨some 21, _, _, _, _, _⟩) rfl (fun K hK => ?_) AllReadyH.nil
        go_simp
        go_at_call 50
        have hcl := rjoin_any a b u1
        refine hcl.mono ?_
        clear hcl
        rintro e u2 ⟨rfl, bu2⟩
        have hszu2 := Lib.hid bu2.size
        have HBr := Lib.hid (HBr.out.trans (bu2.mono HBr.out.size))
        have HO := Lib.hid (own_below HO.out bu2)
        clear bu2
        have HS := Lib.hid (HSr.out.next HBr.out)
        have HZ := Lib.hid (HZr.out.below HBr.out)
        go_wp2_with fail
        refine hK.out _ _ HS.out (fun _ => ?_)
        clear hK K
        try simp only [Act.put, List.setIfInBounds_toArray, List.set_cons_zero, List.set_cons_succ]
        refine wpAnyH_ready (rs := [8]) (by kernel_rfl) (by simp) ?_
        refine AllReadyH.cons (o := ⟨some 25, _, _, _, _, _⟩) rfl (fun K hK => ?_) AllReadyH.nil
        refine if_yes rfl ?_
        refine wp_append_list (.tmp 22) (.tmp 24) rfl wr.heap.size ti hi hz0 hz1 hz2 _ _ [] rfl HO.out al len cap A rfl (HS.out.ids 1 rfl) (by omega) (by have := hszu1.out; have := hszu2.out; omega) ?_
        intro vau3 u3 hoa hga
        have hszu3 := Lib.hid hga.size
        have hbr := HBr.out.grown hga HBr.out.size (fun k hk => by have := own_base HO.out k hk; have := hszu1.out; have := hszu2.out; omega)
        have HBr := Lib.hid hbr
        have HO := Lib.hid hoa
        clear hoa hga hbr
        have HS := Lib.hid (HSr.out.next HBr.out)
        have HZ := Lib.hid (HZr.out.below HBr.out)
        refine hK.out _ _ HS.out (fun _ => ?_)
        clear hK K
        try simp only [Act.put, List.setIfInBounds_toArray, List.set_cons_zero, List.set_cons_succ]
        refine wpAnyH_ready (rs := [11]) (by kernel_rfl) (by simp) ?_
        refine AllReadyH.cons (o := ⟨some 28, _, _, _, _, _⟩) rfl (fun K hK => ?_) AllReadyH.nil
        refine if_yes rfl ?_
        refine wp_append_list (.tmp 25) (.tmp 27) rfl wr.heap.size ti hi hz0 hz1 hz2 _ (0 + len) ([] ++ A) rfl HO.out al' len' cap' B rfl (HS.out.ids 0 rfl) (by omega) (by have := hszu1.out; have := hszu2.out; have := hszu3.out; omega) ?_
        intro vau4 u4 hoa hga
        have hszu4 := Lib.hid hga.size
        have hbr := HBr.out.grown hga HBr.out.size (fun k hk => by have := own_base HO.out k hk; have := hszu1.out; have := hszu2.out; have := hszu3.out; omega)
        have HBr := Lib.hid hbr
        have HO := Lib.hid hoa
        clear hoa hga hbr
        have HS := Lib.hid (HSr.out.next HBr.out)
        have HZ := Lib.hid (HZr.out.below HBr.out)
        refine hK.out _ _ HS.out (fun _ => ?_)
        clear hK K
        try simp only [Act.put, List.setIfInBounds_toArray, List.set_cons_zero, List.set_cons_succ]
        refine wpAnyH_ready (rs := [12]) (by kernel_rfl) (by simp) ?_
        refine AllReadyH.cons (o := ⟨some 29, _, _, _, _, _⟩) rfl (fun K hK => ?_) AllReadyH.nil
        have hoz := HO.out
        generalize (0 + len + len') = n3 at hoz
        obtain ⟨alc, capc, hvc, hIc, hFc⟩ := app2_got (M := (A ++ B)) hoz
        subst hvc
        have HIc := Lib.hid hIc
        clear hIc hFc
        go_simp
        go_at_call 10
        have hmk := rMake_cut (joinV a b) alc _ capc (A ++ B) _ HIc.out (join_in HIN.out HIN'.out)
        rw [HU.out, HR.out, HCC.out, HNR.out] at hmk
        refine hmk.mono ?_
        clear hmk
        rintro e u5 ⟨alr, capr, rfl, hIr, bu5⟩
        have HIR := Lib.hid hIr
        have HBr := Lib.hid (HBr.out.trans (bu5.mono HBr.out.size))
        clear bu5 hIr
        have HS := Lib.hid (HSr.out.next HBr.out)
        have HZ := Lib.hid (HZr.out.below HBr.out)
        go_wp2_with fail
        refine hK.out _ _ HS.out (fun _ => ?_)
        clear hK K
        try simp only [Act.put, List.setIfInBounds_toArray, List.set_cons_zero, List.set_cons_succ]
        refine wpAnyH_take (i := 13) (oi := ⟨some 30, _, _, _, _, _⟩) (v := ?_) rfl (by kernel_rfl) (by kernel_rfl) (by kernel_rfl) (fun _ _ _ h => h) (Or.inl ⟨by rfl, ?_⟩) HS.out ?_
        rotate_left
        · intro w' hSw; clear hSw; go_simp; try (with_reducible rfl)
        try simp only [Act.put, List.setIfInBounds_toArray, List.set_cons_zero, List.set_cons_succ]
        refine wpAnyH_take (i := 14) (oi := ⟨some 31, _, _, _, _, _⟩) (v := ?_) rfl (by kernel_rfl) (by kernel_rfl) (by kernel_rfl) (fun _ _ _ h => h) (Or.inl ⟨by rfl, ?_⟩) HS.out ?_
        rotate_left
        · intro w' hSw; clear hSw; go_simp; try (with_reducible rfl)
        try simp only [Act.put, List.setIfInBounds_toArray, List.set_cons_zero, List.set_cons_succ]
        refine wpAnyH_ready (rs := [15]) (by kernel_rfl) (by simp) ?_
        refine AllReadyH.cons (o := ⟨none, _, _, _, _, _⟩) rfl (fun K hK => ?_) AllReadyH.nil
        refine if_yes rfl ?_
        refine wp_store_row 27 (.tmp 4) (.tmp 30) rfl (w.heap.size + 1 + 1) #[.int .u32 (u 0), .int .u32 (u 1), .int .u32 (u 2), .int .u32 (u 3), .int .u32 (u 4), .int .u32 (u 5), .int .u32 (u 6), .int .u32 (u 7), .slice alr nr capr] rfl rfl 27 _ HZ.out (by kernel_rfl) rfl (cut_one _ _ _ _) ?_
        refine hK.out _ _ (HS.out.row HZ.out (by simp <;> omega) (by omega) _) (fun _ => ?_)
        clear hK K
        try simp only [Act.put, List.setIfInBounds_toArray, List.set_cons_zero, List.set_cons_succ]
        have HS := Lib.hid (HS.out.row HZ.out (by simp <;> omega) (by omega) #[.int .u32 (u 0), .int .u32 (u 1), .int .u32 (u 2), .int .u32 (u 3), .int .u32 (u 4), .int .u32 (u 5), .int .u32 (u 6), .int .u32 (u 7), .slice alr nr capr])
        refine wpAnyH_take (i := 16) (oi := ⟨some 5, _, _, _, _, _⟩) (v := ?_) rfl (by kernel_rfl) (by kernel_rfl) (by kernel_rfl) (fun _ _ _ h => h) (Or.inl ⟨by rfl, ?_⟩) HS.out ?_
        rotate_left
        · intro w' hSw; clear hSw; go_simp; try (with_reducible rfl)
        try simp only [Act.put, List.setIfInBounds_toArray, List.set_cons_zero, List.set_cons_succ]
        refine wpAnyH_done (by kernel_rfl) ?_ _
        have hR := setRow_heap _ _ _ #[.int .u32 (u 0), .int .u32 (u 1), .int .u32 (u 2), .int .u32 (u 3), .int .u32 (u 4), .int .u32 (u 5), .int .u32 (u 6), .int .u32 (u 7), .slice alr nr capr] _ _ HZ.out
        obtain ⟨r0, r1, r2, r3, r4, r5, r6, r7, r8⟩ := cut_cells hR
        go_wp2_with fail
        refine bodyPost_ret (v := .tuple #[.agg #[.int .u32 (u 0), .int .u32 (u 1), .int .u32 (u 2), .int .u32 (u 3), .int .u32 (u 4), .int .u32 (u 5), .int .u32 (u 6), .int .u32 (u 7), .slice alr nr capr], .int .i64 c]) ?_ rfl ⟨alr, capr, by rw [HK.out, HP.out.1, HP.out.2.1, HP.out.2.2, HNR.out], by rw [HK.out, HP.out.2.1, HNR.out]; exact ids_rowC HIR.out HZ.out _, HS.out.bel⟩
        simp [results, Try.results22, go_sem, r0, r1, r2, r3, r4, r5, r6, r7, r8]
    · have HE := Lib.hid (joK_bad (a := a) (b := b) (A := A) (B := B) (rfl : k2 = k2) hz2)
      have hn : (k2 != 0) = true := by simpa using hz2
      clear hz2
      have HZ := Lib.hid (H3.out.blk 0 rfl)
      have HB := Lib.hid H3.out.bel
      go_wp2_with (refine wpList_store_row rfl 27 _ _ rfl (w.heap.size + 1 + 1) #[.int .u32 0, .int .u32 0, .int .u32 0, .int .u32 0, .int .u32 0, .int .u32 0, .int .u32 0, .int .u32 0, .slice none 0 0] rfl rfl 27 _ HZ.out (by kernel_rfl) rfl (by kernel_rfl) ?_)
      have hR := setRow_heap _ _ _ #[.int .u32 0, .int .u32 0, .int .u32 0, .int .u32 0, .int .u32 0, .int .u32 0, .int .u32 0, .int .u32 0, .slice none 0 0] _ _ HZ.out
      obtain ⟨r0, r1, r2, r3, r4, r5, r6, r7, r8⟩ := cut_cells (v := zV) (al := none) (len := 0) (cap := 0) hR
      refine bodyPost_ret (v := .tuple #[.agg #[.int .u32 0, .int .u32 0, .int .u32 0, .int .u32 0, .int .u32 0, .int .u32 0, .int .u32 0, .int .u32 0, .slice none 0 0], .int .i64 k2]) ?_ rfl ⟨none, 0, by rw [HK.out, HE.out.1, HE.out.2.1, HE.out.2.2]; rfl, by rw [HK.out, HE.out.2.1]; exact Ids.nil _, below_setRow HB.out (by omega) _⟩
      simp [results, Try.results22, go_sem, r0, r1, r2, r3, r4, r5, r6, r7, r8, zV]
  · have HK : Hid (orZ (ckD a A) (ckD b B) = k1) := Lib.hid (by rw [HK1.out]; unfold orZ; rw [if_neg hz1])
    have HE := Lib.hid (joK_bad (a := a) (b := b) (A := A) (B := B) (rfl : k1 = k1) hz1)
    have hn : (k1 != 0) = true := by simpa using hz1
    have hz : (k1 == 0) = false := by simpa using hz1
    clear hz1
    go_enter Try.func22, Try.ntmps22
    go_wp2_with (refine wpList_load_row rfl 27 _ rfl (w.heap.size) rfl 27 #[.int .u32 (a 0), .int .u32 (a 1), .int .u32 (a 2), .int .u32 (a 3), .int .u32 (a 4), .int .u32 (a 5), .int .u32 (a 6), .int .u32 (a 7), .slice al len cap] (0, 0) _ HX.out Try.underlying27 rfl (by kernel_rfl) ?_)
    refine hck.mono ?_
    clear hck
    rintro e w1 ⟨rfl, b1⟩
    have HZ := Lib.hid ((H0.out.next b1).blk 0 rfl)
    have HB := Lib.hid (H0.out.next b1).bel
    clear b1
    go_wp2_with (refine wpList_store_row rfl 27 _ _ rfl (w.heap.size + 1 + 1) #[.int .u32 0, .int .u32 0, .int .u32 0, .int .u32 0, .int .u32 0, .int .u32 0, .int .u32 0, .int .u32 0, .slice none 0 0] rfl rfl 27 _ HZ.out (by kernel_rfl) rfl (by kernel_rfl) ?_)
    have hR := setRow_heap _ _ _ #[.int .u32 0, .int .u32 0, .int .u32 0, .int .u32 0, .int .u32 0, .int .u32 0, .int .u32 0, .int .u32 0, .slice none 0 0] _ _ HZ.out
    obtain ⟨r0, r1, r2, r3, r4, r5, r6, r7, r8⟩ := cut_cells (v := zV) (al := none) (len := 0) (cap := 0) hR
    refine bodyPost_ret (v := .tuple #[.agg #[.int .u32 0, .int .u32 0, .int .u32 0, .int .u32 0, .int .u32 0, .int .u32 0, .int .u32 0, .int .u32 0, .slice none 0 0], .int .i64 k1]) ?_ rfl ⟨none, 0, by rw [HK.out, HE.out.1, HE.out.2.1, HE.out.2.2]; rfl, by rw [HK.out, HE.out.2.1]; exact Ids.nil _, below_setRow HB.out (by omega) _⟩
    simp [results, Try.results22, go_sem, r0, r1, r2, r3, r4, r5, r6, r7, r8, zV]
end Go.Proofs.Ythbdjgebpjffgaa
