/-
  Package cut's Add and Join.
  Conditions: none.
-/
import Derived.Test.YthbdjgebpjffgaaCuE
import Derived.Test.YthbdjgebpjffgaaCuF
set_option linter.unusedVariables false
set_option linter.unusedSimpArgs false
namespace Go.Proofs.Ythbdjgebpjffgaa
open Go.RowKit Go.Shelf Go.Lib Go.Sort

theorem KS.row {w0 W : World} {Bs : List Bx} {Rs : List Rl} {g : Nat} {T : TypeId} (h : KS w0 Bs Rs W) (hz : Blk W g #[.int .u32 0, .int .u32 0, .int .u32 0, .int .u32 0, .int .u32 0, .int .u32 0, .int .u32 0, .int .u32 0, .slice none 0 0] T) (hf : ∀ x, x ∈ Bs → x.1 ≠ g) (hg : w0.heap.size ≤ g) (cs : Array Value) : KS w0 Bs Rs (W.setRow g cs) :=
  ⟨below_setRow h.bel hg _, fun x hx => (setRow_other _ _ _ _ (hf x hx)).trans (h.bs x hx), fun r hr => ids_rowC (h.rs r hr) hz cs⟩
theorem if_yes {c : Bool} {A B : Prop} (hc : c = true) (h : A) : if c = true then A else B := by rw [if_pos hc]; exact h
theorem lit1 {W : World} {g : Nat} {o q : Int} (h : Blk W g #[.int .i64 o, .int .u32 q] 29) : Ids W (some ⟨g, 0, none⟩) 1 1 [(o, q)] :=
  ⟨rfl, Nat.le_refl _, by omega, nofun, fun k hk => by
    obtain rfl : k = 0 := by omega
    exact ⟨g, 0, o, q, rfl, rfl, (id_cells h).1, (id_cells h).2⟩⟩

/-- What Add tells. -/
def adC (v : Nat → Int) (L : List (Int × Int)) (o q : Int) : Int := if orZ (ckC v L) (chk o q) = 0 then (if hasC v L o q = true then 11 else cmC v (L ++ [(o, q)])) else orZ (ckC v L) (chk o q)
def adV (v : Nat → Int) (L : List (Int × Int)) (o q : Int) : Nat → Int := if orZ (ckC v L) (chk o q) = 0 ∧ hasC v L o q = false then cmV v (L ++ [(o, q)]) else zV
def adS (v : Nat → Int) (L : List (Int × Int)) (o q : Int) : List (Int × Int) := if orZ (ckC v L) (chk o q) = 0 ∧ hasC v L o q = false then cmS v (L ++ [(o, q)]) else []
theorem ad_bad {v : Nat → Int} {L : List (Int × Int)} {o q z : Int} (h : orZ (ckC v L) (chk o q) = z) (hz : ¬ z = 0) : adV v L o q = zV ∧ adS v L o q = [] ∧ adC v L o q = z := by
  have hn : ¬ (orZ (ckC v L) (chk o q) = 0 ∧ hasC v L o q = false) := fun k => hz (h ▸ k.1)
  exact ⟨by unfold adV; rw [if_neg hn], by unfold adS; rw [if_neg hn], by unfold adC; rw [if_neg (by rw [h]; exact hz), h]⟩
theorem ad_twice {v : Nat → Int} {L : List (Int × Int)} {o q : Int} (h : orZ (ckC v L) (chk o q) = 0) (k : hasC v L o q = true) : adV v L o q = zV ∧ adS v L o q = [] ∧ adC v L o q = 11 := by
  have hn : ¬ (orZ (ckC v L) (chk o q) = 0 ∧ hasC v L o q = false) := fun j => by rw [k] at j; exact absurd j.2 (by decide)
  exact ⟨by unfold adV; rw [if_neg hn], by unfold adS; rw [if_neg hn], by unfold adC; rw [if_pos h, if_pos k]⟩
theorem ad_ok {v : Nat → Int} {L : List (Int × Int)} {o q : Int} (h : orZ (ckC v L) (chk o q) = 0) (k : hasC v L o q = false) : adV v L o q = cmV v (L ++ [(o, q)]) ∧ adS v L o q = cmS v (L ++ [(o, q)]) ∧ adC v L o q = cmC v (L ++ [(o, q)]) :=
  ⟨by unfold adV; rw [if_pos ⟨h, k⟩], by unfold adS; rw [if_pos ⟨h, k⟩], by unfold adC; rw [if_pos h, if_neg (by rw [k]; decide)]⟩
/-- What Join tells. -/
def joC (a : Nat → Int) (A : List (Int × Int)) (b : Nat → Int) (B : List (Int × Int)) : Int := if orZ (ckC a A) (ckC b B) = 0 then cmC (joinV a b) (A ++ B) else orZ (ckC a A) (ckC b B)
def joV (a : Nat → Int) (A : List (Int × Int)) (b : Nat → Int) (B : List (Int × Int)) : Nat → Int := if orZ (ckC a A) (ckC b B) = 0 then cmV (joinV a b) (A ++ B) else zV
def joS (a : Nat → Int) (A : List (Int × Int)) (b : Nat → Int) (B : List (Int × Int)) : List (Int × Int) := if orZ (ckC a A) (ckC b B) = 0 then cmS (joinV a b) (A ++ B) else []
theorem jo_bad {a b : Nat → Int} {A B : List (Int × Int)} {z : Int} (h : orZ (ckC a A) (ckC b B) = z) (hz : ¬ z = 0) : joV a A b B = zV ∧ joS a A b B = [] ∧ joC a A b B = z := by
  have hn : ¬ orZ (ckC a A) (ckC b B) = 0 := fun k => hz (h ▸ k)
  exact ⟨by unfold joV; rw [if_neg hn], by unfold joS; rw [if_neg hn], by unfold joC; rw [if_neg hn, h]⟩
theorem jo_ok {a b : Nat → Int} {A B : List (Int × Int)} (h : orZ (ckC a A) (ckC b B) = 0) : joV a A b B = cmV (joinV a b) (A ++ B) ∧ joS a A b B = cmS (joinV a b) (A ++ B) ∧ joC a A b B = cmC (joinV a b) (A ++ B) :=
  ⟨by unfold joV; rw [if_pos h], by unfold joS; rw [if_pos h], by unfold joC; rw [if_pos h]⟩

set_option maxRecDepth 100000 in
set_option maxHeartbeats 4000000 in
theorem cAdd_any (v : Nat → Int) (al : Option Addr) (len cap : Nat) (L : List (Int × Int)) (o q : Int) (w : World) (hL : Ids w al len cap L) (hF : Flat al) (hv : InB v) :
    Calls Try.prog 11 #[.agg #[.int .u32 (v 0), .int .u32 (v 1), .int .u32 (v 2), .int .u32 (v 3), .int .u32 (v 4), .int .u32 (v 5), .int .u32 (v 6), .int .u32 (v 7), .slice al len cap], .agg #[.int .i64 o, .int .u32 q]] w fun e w' => ∃ al2 cap2, e = .returned (.tuple #[.agg #[.int .u32 (adV v L o q 0), .int .u32 (adV v L o q 1), .int .u32 (adV v L o q 2), .int .u32 (adV v L o q 3), .int .u32 (adV v L o q 4), .int .u32 (adV v L o q 5), .int .u32 (adV v L o q 6), .int .u32 (adV v L o q 7), .slice al2 (adS v L o q).length cap2], .int .i64 (adC v L o q)]) ∧ Ids w' al2 (adS v L o q).length cap2 (adS v L o q) ∧ Flat al2 ∧ Below w.heap.size w w' := by
  have h0 := ((((KS.nil w).add hL).box rfl #[.int .u32 (v 0), .int .u32 (v 1), .int .u32 (v 2), .int .u32 (v 3), .int .u32 (v 4), .int .u32 (v 5), .int .u32 (v 6), .int .u32 (v 7), .slice al len cap] 31).box (g := w.heap.size + 1) (by simp) #[.int .i64 o, .int .u32 q] 29).box (g := w.heap.size + 1 + 1) (by simp) #[.int .u32 0, .int .u32 0, .int .u32 0, .int .u32 0, .int .u32 0, .int .u32 0, .int .u32 0, .int .u32 0, .slice none 0 0] 31
  have HZ0 := Lib.hid (h0.blk 0 rfl)
  have H0 := Lib.hid (h0.drop (Bs' := [(w.heap.size + 1, #[.int .i64 o, .int .u32 q], 29), (w.heap.size, #[.int .u32 (v 0), .int .u32 (v 1), .int .u32 (v 2), .int .u32 (v 3), .int .u32 (v 4), .int .u32 (v 5), .int .u32 (v 6), .int .u32 (v 7), .slice al len cap], 31)]) (fun x hx => List.mem_cons_of_mem _ hx) (fun r hr => hr))
  have HIN := Lib.hid hv
  have hln := hL.ln
  have hcap := hL.bd
  have hfit := hL.fit
  have HLN := Lib.hid hln
  clear h0 hL hv hln
  obtain ⟨c1, hc1⟩ : ∃ c, ckC v L = c := ⟨_, rfl⟩
  obtain ⟨c2, hc2⟩ : ∃ c, chk o q = c := ⟨_, rfl⟩
  obtain ⟨z, hz⟩ : ∃ z, orZ c1 c2 = z := ⟨_, rfl⟩
  have HC1 := Lib.hid hc1
  have HC2 := Lib.hid hc2
  have HOZ := Lib.hid hz
  have HO : Hid (orZ (ckC v L) (chk o q) = z) := Lib.hid (by rw [hc1, hc2, hz])
  have HIS : Hid (c1 = 0 → L.length ≤ 64) := Lib.hid (fun e => (chkS_zero ((ckC_iff HIN.out).1 (hc1.trans e)).s0).1)
  clear hc1 hc2 hz
  go_enter Try.func11, Try.ntmps11
  go_wp2_with fail
  refine wp_region_held_drew (S := KS w [(w.heap.size + 1, #[.int .i64 o, .int .u32 q], 29), (w.heap.size, #[.int .u32 (v 0), .int .u32 (v 1), .int .u32 (v 2), .int .u32 (v 3), .int .u32 (v 4), .int .u32 (v 5), .int .u32 (v 6), .int .u32 (v 7), .slice al len cap], 31)] [(al, len, cap, L)]) (by kernel_rfl) H0.out.drew (fun _ => ?_)
  have HS := Lib.hid H0.out.drew
  have HZ := Lib.hid (Blk.drew1 HZ0.out)
  clear HZ0
  refine wpAnyH_take (i := 0) (oi := ⟨some 7, _, _, _, _, _⟩) (v := ?_) rfl (by kernel_rfl) (by kernel_rfl) (by kernel_rfl) (fun _ _ _ h => h) (Or.inl ⟨by rfl, ?_⟩) HS.out ?_
  rotate_left
  · intro w' hSw; obtain ⟨x0, x1, x2, x3, x4, x5, x6, x7, x8⟩ := cut_cells (hSw.blk 1 rfl); obtain ⟨y0, y1⟩ := id_cells (hSw.blk 0 rfl); go_simp; try (with_reducible rfl)
  try simp only [Act.put, List.setIfInBounds_toArray, List.set_cons_zero, List.set_cons_succ]
  refine wpAnyH_take (i := 2) (oi := ⟨some 9, _, _, _, _, _⟩) (v := ?_) rfl (by kernel_rfl) (by kernel_rfl) (by kernel_rfl) (fun _ _ _ h => h) (Or.inl ⟨by rfl, ?_⟩) HS.out ?_
  rotate_left
  · intro w' hSw; obtain ⟨x0, x1, x2, x3, x4, x5, x6, x7, x8⟩ := cut_cells (hSw.blk 1 rfl); obtain ⟨y0, y1⟩ := id_cells (hSw.blk 0 rfl); go_simp; try (with_reducible rfl)
  try simp only [Act.put, List.setIfInBounds_toArray, List.set_cons_zero, List.set_cons_succ]
  refine wpAnyH_ready (rs := [1]) (by kernel_rfl) (by simp) ?_
  refine AllReadyH.cons (o := ⟨some 8, _, _, _, _, _⟩) rfl (fun K hK => ?_) AllReadyH.nil
  go_simp
  go_at_call 16
  refine (cCheck_any v al len cap L _ (HS.out.ids 0 rfl) hF HIN.out).mono ?_
  rw [HC1.out]
  rintro e w1 ⟨rfl, b1⟩
  have HZ := Lib.hid (HZ.out.below b1)
  have HS := Lib.hid (HS.out.next b1)
  clear b1
  go_wp2_with fail
  refine hK.out _ _ HS.out (fun _ => ?_)
  clear hK K
  try simp only [Act.put, List.setIfInBounds_toArray, List.set_cons_zero, List.set_cons_succ]
  refine wpAnyH_ready (rs := [3]) (by kernel_rfl) (by simp) ?_
  refine AllReadyH.cons (o := ⟨some 10, _, _, _, _, _⟩) rfl (fun K hK => ?_) AllReadyH.nil
  go_simp
  go_at_call 39
  refine (idCheck_any o q _).mono ?_
  rw [HC2.out]
  rintro e w2 ⟨rfl, b2⟩
  have HZ := Lib.hid (HZ.out.below b2)
  have HS := Lib.hid (HS.out.next b2)
  clear b2
  go_wp2_with fail
  refine hK.out _ _ HS.out (fun _ => ?_)
  clear hK K
  try simp only [Act.put, List.setIfInBounds_toArray, List.set_cons_zero, List.set_cons_succ]
  refine wpAnyH_ready (rs := [4]) (by kernel_rfl) (by simp) ?_
  refine AllReadyH.cons (o := ⟨some 11, _, _, _, _, _⟩) rfl (fun K hK => ?_) AllReadyH.nil
  go_simp
  refine hK.out _ _ (HS.out.alloc _) (fun _ => ?_)
  clear hK K
  try simp only [Act.put, List.setIfInBounds_toArray, List.set_cons_zero, List.set_cons_succ]
  have HE := Lib.hid (Blk.new w2 #[.int .i64 c1, .int .i64 c2] 32)
  have HZ := Lib.hid (HZ.out.alloc (.cells #[.int .i64 c1, .int .i64 c2] 32))
  have HS := Lib.hid (HS.out.alloc (.cells #[.int .i64 c1, .int .i64 c2] 32))
  refine wpAnyH_ready (rs := [5]) (by kernel_rfl) (by simp) ?_
  refine AllReadyH.cons (o := ⟨some 12, _, _, _, _, _⟩) rfl (fun K hK => ?_) AllReadyH.nil
  go_simp
  go_at_call 38
  refine (orE_any w2.heap.size c1 c2 _ HE.out).mono ?_
  rw [HOZ.out]
  rintro e w4 ⟨rfl, rfl⟩
  go_wp2_with fail
  refine hK.out _ _ HS.out (fun _ => ?_)
  clear hK K
  try simp only [Act.put, List.setIfInBounds_toArray, List.set_cons_zero, List.set_cons_succ]
  refine wpAnyH_take (i := 6) (oi := ⟨some 6, _, _, _, _, _⟩) (v := ?_) rfl (by kernel_rfl) (by kernel_rfl) (by kernel_rfl) (fun _ _ _ h => h) (Or.inl ⟨by rfl, ?_⟩) HS.out ?_
  rotate_left
  · intro w' hSw; clear hSw; go_simp; try (with_reducible rfl)
  try simp only [Act.put, List.setIfInBounds_toArray, List.set_cons_zero, List.set_cons_succ]
  refine wpAnyH_done (by kernel_rfl) ?_ _
  by_cases hz0 : z = 0
  · subst hz0
    have HCU := Lib.hid (HS.out.blk 1 rfl)
    obtain ⟨y0, y1⟩ := id_cells (HS.out.blk 0 rfl)
    cases hh : hasC v L o q with
    | true =>
      have HE2 := Lib.hid (ad_twice HO.out hh)
      have HH := Lib.hid hh
      clear hh
      go_wp2_with (refine wpList_load_row rfl 31 _ rfl w.heap.size rfl 31 #[.int .u32 (v 0), .int .u32 (v 1), .int .u32 (v 2), .int .u32 (v 3), .int .u32 (v 4), .int .u32 (v 5), .int .u32 (v 6), .int .u32 (v 7), .slice al len cap] (0, 0) _ HCU.out Try.underlying31 rfl (by kernel_rfl) ?_)
      refine (cHas_cut v al len cap L o q _ (HS.out.ids 0 rfl)).mono ?_
      rw [HH.out]
      rintro e wb ⟨rfl, bb⟩
      have HZ := Lib.hid (HZ.out.below bb)
      have HS := Lib.hid (HS.out.next bb)
      clear bb y0 y1 HCU
      go_wp2_with (refine wpList_store_row rfl 31 _ _ rfl (w.heap.size + 1 + 1) #[.int .u32 0, .int .u32 0, .int .u32 0, .int .u32 0, .int .u32 0, .int .u32 0, .int .u32 0, .int .u32 0, .slice none 0 0] rfl rfl 31 _ HZ.out (by kernel_rfl) rfl (by kernel_rfl) ?_)
      have hR := setRow_heap _ _ _ #[.int .u32 0, .int .u32 0, .int .u32 0, .int .u32 0, .int .u32 0, .int .u32 0, .int .u32 0, .int .u32 0, .slice none 0 0] _ _ HZ.out
      obtain ⟨r0, r1, r2, r3, r4, r5, r6, r7, r8⟩ := cut_cells (v := zV) (al := none) (len := 0) (cap := 0) hR
      refine bodyPost_ret (v := .tuple #[.agg #[.int .u32 0, .int .u32 0, .int .u32 0, .int .u32 0, .int .u32 0, .int .u32 0, .int .u32 0, .int .u32 0, .slice none 0 0], .int .i64 11]) ?_ rfl ⟨none, 0, by rw [HE2.out.1, HE2.out.2.1, HE2.out.2.2]; rfl, by rw [HE2.out.2.1]; exact Ids.nil _, .inl rfl, below_setRow HS.out.bel (by omega) _⟩
      simp [results, Try.results11, go_sem, r0, r1, r2, r3, r4, r5, r6, r7, r8, zV]
    | false =>
      have HP := Lib.hid (ad_ok HO.out hh)
      have HH := Lib.hid hh
      clear hh
      go_wp2_with (refine wpList_load_row rfl 31 _ rfl w.heap.size rfl 31 #[.int .u32 (v 0), .int .u32 (v 1), .int .u32 (v 2), .int .u32 (v 3), .int .u32 (v 4), .int .u32 (v 5), .int .u32 (v 6), .int .u32 (v 7), .slice al len cap] (0, 0) _ HCU.out Try.underlying31 rfl (by kernel_rfl) ?_)
      refine (cHas_cut v al len cap L o q _ (HS.out.ids 0 rfl)).mono ?_
      rw [HH.out]
      rintro e wb ⟨rfl, bb⟩
      have HZ := Lib.hid (HZ.out.below bb)
      have HS := Lib.hid (HS.out.next bb)
      clear bb y0 y1 HCU
      obtain ⟨u, hu⟩ : ∃ u, cmV v (L ++ [(o, q)]) = u := ⟨_, rfl⟩
      obtain ⟨R, hr⟩ : ∃ R, cmS v (L ++ [(o, q)]) = R := ⟨_, rfl⟩
      obtain ⟨c, hc⟩ : ∃ c, cmC v (L ++ [(o, q)]) = c := ⟨_, rfl⟩
      obtain ⟨nr, hnr⟩ : ∃ n, R.length = n := ⟨_, rfl⟩
      rw [hu, hr, hc] at HP
      have HU := Lib.hid hu
      have HR := Lib.hid hr
      have HCC := Lib.hid hc
      have HNR := Lib.hid hnr
      clear hu hr hc hnr
      have hl64 : len ≤ 64 := by have := HIS.out (orZ_zero HOZ.out).1; have := HLN.out; omega
      go_wp2_with fail
      refine wp_region_held_drew (S := KS w [(w.heap.size + 1, #[.int .i64 o, .int .u32 q], 29), (w.heap.size, #[.int .u32 (v 0), .int .u32 (v 1), .int .u32 (v 2), .int .u32 (v 3), .int .u32 (v 4), .int .u32 (v 5), .int .u32 (v 6), .int .u32 (v 7), .slice al len cap], 31)] [(al, len, cap, L)]) (by kernel_rfl) HS.out.drew (fun _ => ?_)
      have HS := Lib.hid HS.out.drew
      have HZ := Lib.hid (Blk.drew1 HZ.out)
      generalize wb.drew = wr at HS HZ ⊢
      refine wpAnyH_take (i := 0) (oi := ⟨some 21, _, _, _, _, _⟩) (v := ?_) rfl (by kernel_rfl) (by kernel_rfl) (by kernel_rfl) (fun _ _ _ h => h) (Or.inl ⟨by rfl, ?_⟩) HS.out ?_
      rotate_left
      · intro w' hSw; clear hSw; go_simp; try (with_reducible rfl)
      try simp only [Act.put, List.setIfInBounds_toArray, List.set_cons_zero, List.set_cons_succ]
      refine wpAnyH_take (i := 1) (oi := ⟨some 22, _, _, _, _, _⟩) (v := ?_) rfl (by kernel_rfl) (by kernel_rfl) (by kernel_rfl) (fun _ _ _ h => h) (Or.inl ⟨by rfl, ?_⟩) HS.out ?_
      rotate_left
      · intro w' hSw; obtain ⟨x0, x1, x2, x3, x4, x5, x6, x7, x8⟩ := cut_cells (hSw.blk 1 rfl); obtain ⟨y0, y1⟩ := id_cells (hSw.blk 0 rfl); go_simp; try (with_reducible rfl)
      try simp only [Act.put, List.setIfInBounds_toArray, List.set_cons_zero, List.set_cons_succ]
      refine wpAnyH_take (i := 2) (oi := ⟨some 23, _, _, _, _, _⟩) (v := ?_) rfl (by kernel_rfl) (by kernel_rfl) (by kernel_rfl) (fun _ _ _ h => h) (Or.inl ⟨by rfl, ?_⟩) HS.out ?_
      rotate_left
      · intro w' hSw; clear hSw; go_simp; try (with_reducible rfl)
      try simp only [Act.put, List.setIfInBounds_toArray, List.set_cons_zero, List.set_cons_succ]
      refine wpAnyH_take (i := 3) (oi := ⟨some 24, _, _, _, _, _⟩) (v := ?_) rfl (by kernel_rfl) (by kernel_rfl) (by kernel_rfl) (fun _ _ _ h => h) (Or.inl ⟨by rfl, ?_⟩) HS.out ?_
      rotate_left
      · intro w' hSw; obtain ⟨x0, x1, x2, x3, x4, x5, x6, x7, x8⟩ := cut_cells (hSw.blk 1 rfl); obtain ⟨y0, y1⟩ := id_cells (hSw.blk 0 rfl); go_simp; try (with_reducible rfl)
      try simp only [Act.put, List.setIfInBounds_toArray, List.set_cons_zero, List.set_cons_succ]
      refine wpAnyH_take (i := 4) (oi := ⟨some 25, _, _, _, _, _⟩) (v := ?_) rfl (by kernel_rfl) (by kernel_rfl) (by kernel_rfl) (fun _ _ _ h => h) (Or.inl ⟨by rfl, ?_⟩) HS.out ?_
      rotate_left
      · intro w' hSw; obtain ⟨x0, x1, x2, x3, x4, x5, x6, x7, x8⟩ := cut_cells (hSw.blk 1 rfl); obtain ⟨y0, y1⟩ := id_cells (hSw.blk 0 rfl); go_simp; try (with_reducible rfl)
      try simp only [Act.put, List.setIfInBounds_toArray, List.set_cons_zero, List.set_cons_succ]
      refine wpAnyH_ready (rs := [5]) (by kernel_rfl) (by simp) ?_
      refine AllReadyH.cons (o := ⟨some 26, _, _, _, _, _⟩) rfl (fun K hK => ?_) AllReadyH.nil
      go_simp
      refine hK.out _ _ (HS.out.alloc _) (fun _ => ?_)
      clear hK K
      try simp only [Act.put, List.setIfInBounds_toArray, List.set_cons_zero, List.set_cons_succ]
      have HN1 := Lib.hid (Blk.new wr #[.int .i64 o, .int .u32 q] 29)
      have HZ := Lib.hid (HZ.out.alloc (.cells #[.int .i64 o, .int .u32 q] 29))
      have HS := Lib.hid (HS.out.alloc (.cells #[.int .i64 o, .int .u32 q] 29))
      refine wpAnyH_ready (rs := [6]) (by kernel_rfl) (by simp) ?_
      refine AllReadyH.cons (o := ⟨some 27, _, _, _, _, _⟩) rfl (fun K hK => ?_) AllReadyH.nil
      go_simp
      refine hK.out _ _ (HS.out.alloc _) (fun _ => ?_)
      clear hK K
      try simp only [Act.put, List.setIfInBounds_toArray, List.set_cons_zero, List.set_cons_succ]
      have HN2 := Lib.hid (blk_newS (W := wr) (.cells #[.int .i64 o, .int .u32 q] 29) #[.slice al len cap, .slice (some ⟨wr.heap.size, 0, none⟩) 1 1] 25)
      have HI1 := Lib.hid (lit1 (HN1.out.alloc (.cells #[.slice al len cap, .slice (some ⟨wr.heap.size, 0, none⟩) 1 1] 25)))
      have HZ := Lib.hid (HZ.out.alloc (.cells #[.slice al len cap, .slice (some ⟨wr.heap.size, 0, none⟩) 1 1] 25))
      have HS := Lib.hid (HS.out.alloc (.cells #[.slice al len cap, .slice (some ⟨wr.heap.size, 0, none⟩) 1 1] 25))
      refine wpAnyH_ready (rs := [7]) (by kernel_rfl) (by simp) ?_
      refine AllReadyH.cons (o := ⟨some 28, _, _, _, _, _⟩) rfl (fun K hK => ?_) AllReadyH.nil
      go_simp
      go_at_call 40
      refine (concat_any (wr.heap.size + 1) al _ len cap 1 1 L [(o, q)] _ HN2.out (HS.out.ids 0 rfl) HI1.out (by omega)).mono ?_
      rintro e wc ⟨alc, capc, rfl, hIc, hFc, bc⟩
      have HIc := Lib.hid hIc
      have HZ := Lib.hid (HZ.out.below bc)
      have HS := Lib.hid (HS.out.next bc)
      clear bc hIc
      generalize (L ++ [(o, q)]).length = n3 at HIc ⊢
      go_wp2_with fail
      refine hK.out _ _ HS.out (fun _ => ?_)
      clear hK K
      try simp only [Act.put, List.setIfInBounds_toArray, List.set_cons_zero, List.set_cons_succ]
      refine wpAnyH_ready (rs := [8]) (by kernel_rfl) (by simp) ?_
      refine AllReadyH.cons (o := ⟨some 29, _, _, _, _, _⟩) rfl (fun K hK => ?_) AllReadyH.nil
      go_simp
      go_at_call 9
      have hmk := cMake_cut v alc _ capc (L ++ [(o, q)]) _ HIc.out hFc HIN.out
      rw [HU.out, HR.out, HCC.out, HNR.out] at hmk
      refine hmk.mono ?_
      clear hmk
      rintro e wd ⟨alr, capr, rfl, hIr, hFr, bd⟩
      have HIR := Lib.hid hIr
      have HFR := Lib.hid hFr
      have HZ := Lib.hid (HZ.out.below bd)
      have HS := Lib.hid (HS.out.next bd)
      clear bd hIr hFr
      go_wp2_with fail
      refine hK.out _ _ HS.out (fun _ => ?_)
      clear hK K
      try simp only [Act.put, List.setIfInBounds_toArray, List.set_cons_zero, List.set_cons_succ]
      refine wpAnyH_take (i := 9) (oi := ⟨some 30, _, _, _, _, _⟩) (v := ?_) rfl (by kernel_rfl) (by kernel_rfl) (by kernel_rfl) (fun _ _ _ h => h) (Or.inl ⟨by rfl, ?_⟩) HS.out ?_
      rotate_left
      · intro w' hSw; clear hSw; go_simp; try (with_reducible rfl)
      try simp only [Act.put, List.setIfInBounds_toArray, List.set_cons_zero, List.set_cons_succ]
      refine wpAnyH_take (i := 10) (oi := ⟨some 31, _, _, _, _, _⟩) (v := ?_) rfl (by kernel_rfl) (by kernel_rfl) (by kernel_rfl) (fun _ _ _ h => h) (Or.inl ⟨by rfl, ?_⟩) HS.out ?_
      rotate_left
      · intro w' hSw; clear hSw; go_simp; try (with_reducible rfl)
      try simp only [Act.put, List.setIfInBounds_toArray, List.set_cons_zero, List.set_cons_succ]
      refine wpAnyH_ready (rs := [11]) (by kernel_rfl) (by simp) ?_
      refine AllReadyH.cons (o := ⟨none, _, _, _, _, _⟩) rfl (fun K hK => ?_) AllReadyH.nil
      refine if_yes rfl ?_
      refine wp_store_row 31 (.tmp 4) (.tmp 30) rfl (w.heap.size + 1 + 1) #[.int .u32 (u 0), .int .u32 (u 1), .int .u32 (u 2), .int .u32 (u 3), .int .u32 (u 4), .int .u32 (u 5), .int .u32 (u 6), .int .u32 (u 7), .slice alr nr capr] rfl rfl 31 _ HZ.out (by kernel_rfl) rfl (cut_one _ _ _ _) ?_
      refine hK.out _ _ (HS.out.row HZ.out (by simp <;> omega) (by omega) _) (fun _ => ?_)
      clear hK K
      try simp only [Act.put, List.setIfInBounds_toArray, List.set_cons_zero, List.set_cons_succ]
      have HS := Lib.hid (HS.out.row HZ.out (by simp <;> omega) (by omega) #[.int .u32 (u 0), .int .u32 (u 1), .int .u32 (u 2), .int .u32 (u 3), .int .u32 (u 4), .int .u32 (u 5), .int .u32 (u 6), .int .u32 (u 7), .slice alr nr capr])
      refine wpAnyH_take (i := 12) (oi := ⟨some 5, _, _, _, _, _⟩) (v := ?_) rfl (by kernel_rfl) (by kernel_rfl) (by kernel_rfl) (fun _ _ _ h => h) (Or.inl ⟨by rfl, ?_⟩) HS.out ?_
      rotate_left
      · intro w' hSw; clear hSw; go_simp; try (with_reducible rfl)
      try simp only [Act.put, List.setIfInBounds_toArray, List.set_cons_zero, List.set_cons_succ]
      refine wpAnyH_done (by kernel_rfl) ?_ _
      have hR := setRow_heap _ _ _ #[.int .u32 (u 0), .int .u32 (u 1), .int .u32 (u 2), .int .u32 (u 3), .int .u32 (u 4), .int .u32 (u 5), .int .u32 (u 6), .int .u32 (u 7), .slice alr nr capr] _ _ HZ.out
      obtain ⟨r0, r1, r2, r3, r4, r5, r6, r7, r8⟩ := cut_cells hR
      go_wp2_with fail
      refine bodyPost_ret (v := .tuple #[.agg #[.int .u32 (u 0), .int .u32 (u 1), .int .u32 (u 2), .int .u32 (u 3), .int .u32 (u 4), .int .u32 (u 5), .int .u32 (u 6), .int .u32 (u 7), .slice alr nr capr], .int .i64 c]) ?_ rfl ⟨alr, capr, by rw [HP.out.1, HP.out.2.1, HP.out.2.2, HNR.out], by rw [HP.out.2.1, HNR.out]; exact ids_rowC HIR.out HZ.out _, HFR.out, HS.out.bel⟩
      simp [results, Try.results11, go_sem, r0, r1, r2, r3, r4, r5, r6, r7, r8]
  · have HE2 := Lib.hid (ad_bad HO.out hz0)
    have hn : (z != 0) = true := by simpa using hz0
    clear hz0
    go_wp2_with (refine wpList_store_row rfl 31 _ _ rfl (w.heap.size + 1 + 1) #[.int .u32 0, .int .u32 0, .int .u32 0, .int .u32 0, .int .u32 0, .int .u32 0, .int .u32 0, .int .u32 0, .slice none 0 0] rfl rfl 31 _ HZ.out (by kernel_rfl) rfl (by kernel_rfl) ?_)
    have hR := setRow_heap _ _ _ #[.int .u32 0, .int .u32 0, .int .u32 0, .int .u32 0, .int .u32 0, .int .u32 0, .int .u32 0, .int .u32 0, .slice none 0 0] _ _ HZ.out
    obtain ⟨r0, r1, r2, r3, r4, r5, r6, r7, r8⟩ := cut_cells (v := zV) (al := none) (len := 0) (cap := 0) hR
    refine bodyPost_ret (v := .tuple #[.agg #[.int .u32 0, .int .u32 0, .int .u32 0, .int .u32 0, .int .u32 0, .int .u32 0, .int .u32 0, .int .u32 0, .slice none 0 0], .int .i64 z]) ?_ rfl ⟨none, 0, by rw [HE2.out.1, HE2.out.2.1, HE2.out.2.2]; rfl, by rw [HE2.out.2.1]; exact Ids.nil _, .inl rfl, below_setRow HS.out.bel (by omega) _⟩
    simp [results, Try.results11, go_sem, r0, r1, r2, r3, r4, r5, r6, r7, r8, zV]
end Go.Proofs.Ythbdjgebpjffgaa

/-
  Package cut's Join.
  Conditions: none.
-/

namespace Go.Proofs.Ythbdjgebpjffgaa
open Go.RowKit Go.Shelf Go.Lib Go.Sort


set_option maxRecDepth 100000 in
set_option maxHeartbeats 4000000 in
theorem cJoin_any (a b : Nat → Int) (al al' : Option Addr) (len cap len' cap' : Nat) (A B : List (Int × Int)) (w : World) (hA : Ids w al len cap A) (hB : Ids w al' len' cap' B) (hF : Flat al) (hF' : Flat al') (ha : InB a) (hb : InB b) :
    Calls Try.prog 21 #[.agg #[.int .u32 (a 0), .int .u32 (a 1), .int .u32 (a 2), .int .u32 (a 3), .int .u32 (a 4), .int .u32 (a 5), .int .u32 (a 6), .int .u32 (a 7), .slice al len cap], .agg #[.int .u32 (b 0), .int .u32 (b 1), .int .u32 (b 2), .int .u32 (b 3), .int .u32 (b 4), .int .u32 (b 5), .int .u32 (b 6), .int .u32 (b 7), .slice al' len' cap']] w fun e w' => ∃ al2 cap2, e = .returned (.tuple #[.agg #[.int .u32 (joV a A b B 0), .int .u32 (joV a A b B 1), .int .u32 (joV a A b B 2), .int .u32 (joV a A b B 3), .int .u32 (joV a A b B 4), .int .u32 (joV a A b B 5), .int .u32 (joV a A b B 6), .int .u32 (joV a A b B 7), .slice al2 (joS a A b B).length cap2], .int .i64 (joC a A b B)]) ∧ Ids w' al2 (joS a A b B).length cap2 (joS a A b B) ∧ Flat al2 ∧ Below w.heap.size w w' := by
  have h0 := (((((KS.nil w).add hA).add hB).box rfl #[.int .u32 (a 0), .int .u32 (a 1), .int .u32 (a 2), .int .u32 (a 3), .int .u32 (a 4), .int .u32 (a 5), .int .u32 (a 6), .int .u32 (a 7), .slice al len cap] 31).box (g := w.heap.size + 1) (by simp) #[.int .u32 (b 0), .int .u32 (b 1), .int .u32 (b 2), .int .u32 (b 3), .int .u32 (b 4), .int .u32 (b 5), .int .u32 (b 6), .int .u32 (b 7), .slice al' len' cap'] 31).box (g := w.heap.size + 1 + 1) (by simp) #[.int .u32 0, .int .u32 0, .int .u32 0, .int .u32 0, .int .u32 0, .int .u32 0, .int .u32 0, .int .u32 0, .slice none 0 0] 31
  have HZ0 := Lib.hid (h0.blk 0 rfl)
  have H0 := Lib.hid (h0.drop (Bs' := [(w.heap.size + 1, #[.int .u32 (b 0), .int .u32 (b 1), .int .u32 (b 2), .int .u32 (b 3), .int .u32 (b 4), .int .u32 (b 5), .int .u32 (b 6), .int .u32 (b 7), .slice al' len' cap'], 31), (w.heap.size, #[.int .u32 (a 0), .int .u32 (a 1), .int .u32 (a 2), .int .u32 (a 3), .int .u32 (a 4), .int .u32 (a 5), .int .u32 (a 6), .int .u32 (a 7), .slice al len cap], 31)]) (fun x hx => List.mem_cons_of_mem _ hx) (fun r hr => hr))
  have HIN := Lib.hid ha
  have HIN' := Lib.hid hb
  have HLN := Lib.hid hA.ln
  have HLN' := Lib.hid hB.ln
  have hcap := hA.bd
  have hfit := hA.fit
  have hcap' := hB.bd
  have hfit' := hB.fit
  clear h0 hA hB ha hb
  obtain ⟨c1, hc1⟩ : ∃ c, ckC a A = c := ⟨_, rfl⟩
  obtain ⟨c2, hc2⟩ : ∃ c, ckC b B = c := ⟨_, rfl⟩
  obtain ⟨z, hz⟩ : ∃ z, orZ c1 c2 = z := ⟨_, rfl⟩
  have HC1 := Lib.hid hc1
  have HC2 := Lib.hid hc2
  have HOZ := Lib.hid hz
  have HO : Hid (orZ (ckC a A) (ckC b B) = z) := Lib.hid (by rw [hc1, hc2, hz])
  have HIS : Hid (c1 = 0 → A.length ≤ 64) := Lib.hid (fun e => (chkS_zero ((ckC_iff HIN.out).1 (hc1.trans e)).s0).1)
  have HIS' : Hid (c2 = 0 → B.length ≤ 64) := Lib.hid (fun e => (chkS_zero ((ckC_iff HIN'.out).1 (hc2.trans e)).s0).1)
  clear hc1 hc2 hz
  go_enter Try.func21, Try.ntmps21
  go_wp2_with fail
  refine wp_region_held_drew (S := KS w [(w.heap.size + 1, #[.int .u32 (b 0), .int .u32 (b 1), .int .u32 (b 2), .int .u32 (b 3), .int .u32 (b 4), .int .u32 (b 5), .int .u32 (b 6), .int .u32 (b 7), .slice al' len' cap'], 31), (w.heap.size, #[.int .u32 (a 0), .int .u32 (a 1), .int .u32 (a 2), .int .u32 (a 3), .int .u32 (a 4), .int .u32 (a 5), .int .u32 (a 6), .int .u32 (a 7), .slice al len cap], 31)] [(al', len', cap', B), (al, len, cap, A)]) (by kernel_rfl) H0.out.drew (fun _ => ?_)
  have HS := Lib.hid H0.out.drew
  have HZ := Lib.hid (Blk.drew1 HZ0.out)
  clear HZ0
  refine wpAnyH_take (i := 0) (oi := ⟨some 7, _, _, _, _, _⟩) (v := ?_) rfl (by kernel_rfl) (by kernel_rfl) (by kernel_rfl) (fun _ _ _ h => h) (Or.inl ⟨by rfl, ?_⟩) HS.out ?_
  rotate_left
  · intro w' hSw; obtain ⟨x0, x1, x2, x3, x4, x5, x6, x7, x8⟩ := cut_cells (hSw.blk 1 rfl); obtain ⟨y0, y1, y2, y3, y4, y5, y6, y7, y8⟩ := cut_cells (hSw.blk 0 rfl); go_simp; try (with_reducible rfl)
  try simp only [Act.put, List.setIfInBounds_toArray, List.set_cons_zero, List.set_cons_succ]
  refine wpAnyH_take (i := 2) (oi := ⟨some 9, _, _, _, _, _⟩) (v := ?_) rfl (by kernel_rfl) (by kernel_rfl) (by kernel_rfl) (fun _ _ _ h => h) (Or.inl ⟨by rfl, ?_⟩) HS.out ?_
  rotate_left
  · intro w' hSw; obtain ⟨x0, x1, x2, x3, x4, x5, x6, x7, x8⟩ := cut_cells (hSw.blk 1 rfl); obtain ⟨y0, y1, y2, y3, y4, y5, y6, y7, y8⟩ := cut_cells (hSw.blk 0 rfl); go_simp; try (with_reducible rfl)
  try simp only [Act.put, List.setIfInBounds_toArray, List.set_cons_zero, List.set_cons_succ]
  refine wpAnyH_ready (rs := [1]) (by kernel_rfl) (by simp) ?_
  refine AllReadyH.cons (o := ⟨some 8, _, _, _, _, _⟩) rfl (fun K hK => ?_) AllReadyH.nil
  go_simp
  go_at_call 16
  refine (cCheck_any a al len cap A _ (HS.out.ids 1 rfl) hF HIN.out).mono ?_
  rw [HC1.out]
  rintro e w1 ⟨rfl, b1⟩
  have HZ := Lib.hid (HZ.out.below b1)
  have HS := Lib.hid (HS.out.next b1)
  clear b1
  go_wp2_with fail
  refine hK.out _ _ HS.out (fun _ => ?_)
  clear hK K
  try simp only [Act.put, List.setIfInBounds_toArray, List.set_cons_zero, List.set_cons_succ]
  refine wpAnyH_ready (rs := [3]) (by kernel_rfl) (by simp) ?_
  refine AllReadyH.cons (o := ⟨some 10, _, _, _, _, _⟩) rfl (fun K hK => ?_) AllReadyH.nil
  go_simp
  go_at_call 16
  refine (cCheck_any b al' len' cap' B _ (HS.out.ids 0 rfl) hF' HIN'.out).mono ?_
  rw [HC2.out]
  rintro e w2 ⟨rfl, b2⟩
  have HZ := Lib.hid (HZ.out.below b2)
  have HS := Lib.hid (HS.out.next b2)
  clear b2
  go_wp2_with fail
  refine hK.out _ _ HS.out (fun _ => ?_)
  clear hK K
  try simp only [Act.put, List.setIfInBounds_toArray, List.set_cons_zero, List.set_cons_succ]
  refine wpAnyH_ready (rs := [4]) (by kernel_rfl) (by simp) ?_
  refine AllReadyH.cons (o := ⟨some 11, _, _, _, _, _⟩) rfl (fun K hK => ?_) AllReadyH.nil
  go_simp
  refine hK.out _ _ (HS.out.alloc _) (fun _ => ?_)
  clear hK K
  try simp only [Act.put, List.setIfInBounds_toArray, List.set_cons_zero, List.set_cons_succ]
  have HE := Lib.hid (Blk.new w2 #[.int .i64 c1, .int .i64 c2] 32)
  have HZ := Lib.hid (HZ.out.alloc (.cells #[.int .i64 c1, .int .i64 c2] 32))
  have HS := Lib.hid (HS.out.alloc (.cells #[.int .i64 c1, .int .i64 c2] 32))
  refine wpAnyH_ready (rs := [5]) (by kernel_rfl) (by simp) ?_
  refine AllReadyH.cons (o := ⟨some 12, _, _, _, _, _⟩) rfl (fun K hK => ?_) AllReadyH.nil
  go_simp
  go_at_call 38
  refine (orE_any w2.heap.size c1 c2 _ HE.out).mono ?_
  rw [HOZ.out]
  rintro e w6 ⟨rfl, rfl⟩
  go_wp2_with fail
  refine hK.out _ _ HS.out (fun _ => ?_)
  clear hK K
  try simp only [Act.put, List.setIfInBounds_toArray, List.set_cons_zero, List.set_cons_succ]
  refine wpAnyH_take (i := 6) (oi := ⟨some 6, _, _, _, _, _⟩) (v := ?_) rfl (by kernel_rfl) (by kernel_rfl) (by kernel_rfl) (fun _ _ _ h => h) (Or.inl ⟨by rfl, ?_⟩) HS.out ?_
  rotate_left
  · intro w' hSw; clear hSw; go_simp; try (with_reducible rfl)
  try simp only [Act.put, List.setIfInBounds_toArray, List.set_cons_zero, List.set_cons_succ]
  refine wpAnyH_done (by kernel_rfl) ?_ _
  by_cases hz0 : z = 0
  · subst hz0
    have HP := Lib.hid (jo_ok HO.out)
    obtain ⟨u, hu⟩ : ∃ u, cmV (joinV a b) (A ++ B) = u := ⟨_, rfl⟩
    obtain ⟨R, hr⟩ : ∃ R, cmS (joinV a b) (A ++ B) = R := ⟨_, rfl⟩
    obtain ⟨c, hc⟩ : ∃ c, cmC (joinV a b) (A ++ B) = c := ⟨_, rfl⟩
    obtain ⟨nr, hnr⟩ : ∃ n, R.length = n := ⟨_, rfl⟩
    rw [hu, hr, hc] at HP
    have HU := Lib.hid hu
    have HR := Lib.hid hr
    have HCC := Lib.hid hc
    have HNR := Lib.hid hnr
    clear hu hr hc hnr
    have hl64 : len ≤ 64 := by have := HIS.out (orZ_zero HOZ.out).1; have := HLN.out; omega
    have hl64' : len' ≤ 64 := by have := HIS'.out (orZ_zero HOZ.out).2; have := HLN'.out; omega
    generalize hww : w2.alloc (.cells #[.int .i64 c1, .int .i64 c2] 32) = wq at HS HZ ⊢
    clear hww
    go_wp2_with fail
    refine wp_region_held_drew (S := KS w [(w.heap.size + 1, #[.int .u32 (b 0), .int .u32 (b 1), .int .u32 (b 2), .int .u32 (b 3), .int .u32 (b 4), .int .u32 (b 5), .int .u32 (b 6), .int .u32 (b 7), .slice al' len' cap'], 31), (w.heap.size, #[.int .u32 (a 0), .int .u32 (a 1), .int .u32 (a 2), .int .u32 (a 3), .int .u32 (a 4), .int .u32 (a 5), .int .u32 (a 6), .int .u32 (a 7), .slice al len cap], 31)] [(al', len', cap', B), (al, len, cap, A)]) (by kernel_rfl) HS.out.drew (fun _ => ?_)
    have HS := Lib.hid HS.out.drew
    have HZ := Lib.hid (Blk.drew1 HZ.out)
    generalize wq.drew = wr at HS HZ ⊢
    refine wpAnyH_take (i := 0) (oi := ⟨some 17, _, _, _, _, _⟩) (v := ?_) rfl (by kernel_rfl) (by kernel_rfl) (by kernel_rfl) (fun _ _ _ h => h) (Or.inl ⟨by rfl, ?_⟩) HS.out ?_
    rotate_left
    · intro w' hSw; clear hSw; go_simp; try (with_reducible rfl)
    try simp only [Act.put, List.setIfInBounds_toArray, List.set_cons_zero, List.set_cons_succ]
    refine wpAnyH_take (i := 1) (oi := ⟨some 18, _, _, _, _, _⟩) (v := ?_) rfl (by kernel_rfl) (by kernel_rfl) (by kernel_rfl) (fun _ _ _ h => h) (Or.inl ⟨by rfl, ?_⟩) HS.out ?_
    rotate_left
    · intro w' hSw; obtain ⟨x0, x1, x2, x3, x4, x5, x6, x7, x8⟩ := cut_cells (hSw.blk 1 rfl); obtain ⟨y0, y1, y2, y3, y4, y5, y6, y7, y8⟩ := cut_cells (hSw.blk 0 rfl); go_simp; try (with_reducible rfl)
    try simp only [Act.put, List.setIfInBounds_toArray, List.set_cons_zero, List.set_cons_succ]
    refine wpAnyH_take (i := 2) (oi := ⟨some 19, _, _, _, _, _⟩) (v := ?_) rfl (by kernel_rfl) (by kernel_rfl) (by kernel_rfl) (fun _ _ _ h => h) (Or.inl ⟨by rfl, ?_⟩) HS.out ?_
    rotate_left
    · intro w' hSw; clear hSw; go_simp; try (with_reducible rfl)
    try simp only [Act.put, List.setIfInBounds_toArray, List.set_cons_zero, List.set_cons_succ]
    refine wpAnyH_take (i := 3) (oi := ⟨some 20, _, _, _, _, _⟩) (v := ?_) rfl (by kernel_rfl) (by kernel_rfl) (by kernel_rfl) (fun _ _ _ h => h) (Or.inl ⟨by rfl, ?_⟩) HS.out ?_
    rotate_left
    · intro w' hSw; obtain ⟨x0, x1, x2, x3, x4, x5, x6, x7, x8⟩ := cut_cells (hSw.blk 1 rfl); obtain ⟨y0, y1, y2, y3, y4, y5, y6, y7, y8⟩ := cut_cells (hSw.blk 0 rfl); go_simp; try (with_reducible rfl)
    try simp only [Act.put, List.setIfInBounds_toArray, List.set_cons_zero, List.set_cons_succ]
    refine wpAnyH_take (i := 5) (oi := ⟨some 22, _, _, _, _, _⟩) (v := ?_) rfl (by kernel_rfl) (by kernel_rfl) (by kernel_rfl) (fun _ _ _ h => h) (Or.inl ⟨by rfl, ?_⟩) HS.out ?_
    rotate_left
    · intro w' hSw; clear hSw; go_simp; try (with_reducible rfl)
    try simp only [Act.put, List.setIfInBounds_toArray, List.set_cons_zero, List.set_cons_succ]
    refine wpAnyH_take (i := 6) (oi := ⟨some 23, _, _, _, _, _⟩) (v := ?_) rfl (by kernel_rfl) (by kernel_rfl) (by kernel_rfl) (fun _ _ _ h => h) (Or.inl ⟨by rfl, ?_⟩) HS.out ?_
    rotate_left
    · intro w' hSw; obtain ⟨x0, x1, x2, x3, x4, x5, x6, x7, x8⟩ := cut_cells (hSw.blk 1 rfl); obtain ⟨y0, y1, y2, y3, y4, y5, y6, y7, y8⟩ := cut_cells (hSw.blk 0 rfl); go_simp; try (with_reducible rfl)
    try simp only [Act.put, List.setIfInBounds_toArray, List.set_cons_zero, List.set_cons_succ]
    refine wpAnyH_take (i := 7) (oi := ⟨some 24, _, _, _, _, _⟩) (v := ?_) rfl (by kernel_rfl) (by kernel_rfl) (by kernel_rfl) (fun _ _ _ h => h) (Or.inl ⟨by rfl, ?_⟩) HS.out ?_
    rotate_left
    · intro w' hSw; clear hSw; go_simp; try (with_reducible rfl)
    try simp only [Act.put, List.setIfInBounds_toArray, List.set_cons_zero, List.set_cons_succ]
    refine wpAnyH_take (i := 8) (oi := ⟨some 25, _, _, _, _, _⟩) (v := ?_) rfl (by kernel_rfl) (by kernel_rfl) (by kernel_rfl) (fun _ _ _ h => h) (Or.inl ⟨by rfl, ?_⟩) HS.out ?_
    rotate_left
    · intro w' hSw; obtain ⟨x0, x1, x2, x3, x4, x5, x6, x7, x8⟩ := cut_cells (hSw.blk 1 rfl); obtain ⟨y0, y1, y2, y3, y4, y5, y6, y7, y8⟩ := cut_cells (hSw.blk 0 rfl); go_simp; try (with_reducible rfl)
    try simp only [Act.put, List.setIfInBounds_toArray, List.set_cons_zero, List.set_cons_succ]
    refine wpAnyH_ready (rs := [4, 9]) (by kernel_rfl) (by simp) ?_
    refine AllReadyH.cons (o := ⟨some 21, _, _, _, _, _⟩) rfl (fun K hK => ?_) (AllReadyH.cons (o := ⟨some 26, _, _, _, _, _⟩) rfl (fun K hK => ?_) AllReadyH.nil)
    · go_simp
      go_at_call 49
      refine (join_any a b _).mono ?_
      rintro e wj ⟨rfl, bj⟩
      have HZ := Lib.hid (HZ.out.below bj)
      have HS := Lib.hid (HS.out.next bj)
      clear bj
      go_wp2_with fail
      refine hK.out _ _ HS.out (fun _ => ?_)
      clear hK K
      try simp only [Act.put, List.setIfInBounds_toArray, List.set_cons_zero, List.set_cons_succ]
      refine wpAnyH_ready (rs := [9]) (by kernel_rfl) (by simp) ?_
      refine AllReadyH.cons (o := ⟨some 26, _, _, _, _, _⟩) rfl (fun K hK => ?_) AllReadyH.nil
      go_simp
      refine hK.out _ _ (HS.out.alloc _) (fun _ => ?_)
      clear hK K
      try simp only [Act.put, List.setIfInBounds_toArray, List.set_cons_zero, List.set_cons_succ]
      have HN2 := Lib.hid (Blk.new wj #[.slice al len cap, .slice al' len' cap'] 25)
      have HZ := Lib.hid (HZ.out.alloc (.cells #[.slice al len cap, .slice al' len' cap'] 25))
      have HS := Lib.hid (HS.out.alloc (.cells #[.slice al len cap, .slice al' len' cap'] 25))
      refine wpAnyH_ready (rs := [10]) (by kernel_rfl) (by simp) ?_
      refine AllReadyH.cons (o := ⟨some 27, _, _, _, _, _⟩) rfl (fun K hK => ?_) AllReadyH.nil
      go_simp
      go_at_call 40
      refine (concat_any wj.heap.size al al' len cap len' cap' A B _ HN2.out (HS.out.ids 1 rfl) (HS.out.ids 0 rfl) (by omega)).mono ?_
      rintro e wc ⟨alc, capc, rfl, hIc, hFc, bc⟩
      have HIc := Lib.hid hIc
      have HZ := Lib.hid (HZ.out.below bc)
      have HS := Lib.hid (HS.out.next bc)
      clear bc hIc
      generalize (A ++ B).length = n3 at HIc ⊢
      go_wp2_with fail
      refine hK.out _ _ HS.out (fun _ => ?_)
      clear hK K
      try simp only [Act.put, List.setIfInBounds_toArray, List.set_cons_zero, List.set_cons_succ]
      refine wpAnyH_ready (rs := [11]) (by kernel_rfl) (by simp) ?_
      refine AllReadyH.cons (o := ⟨some 28, _, _, _, _, _⟩) rfl (fun K hK => ?_) AllReadyH.nil
      go_simp
      go_at_call 9
      have hmk := cMake_cut (joinV a b) alc _ capc (A ++ B) _ HIc.out hFc (join_in HIN.out HIN'.out)
      rw [HU.out, HR.out, HCC.out, HNR.out] at hmk
      refine hmk.mono ?_
      clear hmk
      rintro e wd ⟨alr, capr, rfl, hIr, hFr, bd⟩
      have HIR := Lib.hid hIr
      have HFR := Lib.hid hFr
      have HZ := Lib.hid (HZ.out.below bd)
      have HS := Lib.hid (HS.out.next bd)
      clear bd hIr hFr
      go_wp2_with fail
      refine hK.out _ _ HS.out (fun _ => ?_)
      clear hK K
      try simp only [Act.put, List.setIfInBounds_toArray, List.set_cons_zero, List.set_cons_succ]
      refine wpAnyH_take (i := 12) (oi := ⟨some 29, _, _, _, _, _⟩) (v := ?_) rfl (by kernel_rfl) (by kernel_rfl) (by kernel_rfl) (fun _ _ _ h => h) (Or.inl ⟨by rfl, ?_⟩) HS.out ?_
      rotate_left
      · intro w' hSw; clear hSw; go_simp; try (with_reducible rfl)
      try simp only [Act.put, List.setIfInBounds_toArray, List.set_cons_zero, List.set_cons_succ]
      refine wpAnyH_take (i := 13) (oi := ⟨some 30, _, _, _, _, _⟩) (v := ?_) rfl (by kernel_rfl) (by kernel_rfl) (by kernel_rfl) (fun _ _ _ h => h) (Or.inl ⟨by rfl, ?_⟩) HS.out ?_
      rotate_left
      · intro w' hSw; clear hSw; go_simp; try (with_reducible rfl)
      try simp only [Act.put, List.setIfInBounds_toArray, List.set_cons_zero, List.set_cons_succ]
      refine wpAnyH_ready (rs := [14]) (by kernel_rfl) (by simp) ?_
      refine AllReadyH.cons (o := ⟨none, _, _, _, _, _⟩) rfl (fun K hK => ?_) AllReadyH.nil
      refine if_yes rfl ?_
      refine wp_store_row 31 (.tmp 4) (.tmp 29) rfl (w.heap.size + 1 + 1) #[.int .u32 (u 0), .int .u32 (u 1), .int .u32 (u 2), .int .u32 (u 3), .int .u32 (u 4), .int .u32 (u 5), .int .u32 (u 6), .int .u32 (u 7), .slice alr nr capr] rfl rfl 31 _ HZ.out (by kernel_rfl) rfl (cut_one _ _ _ _) ?_
      refine hK.out _ _ (HS.out.row HZ.out (by simp <;> omega) (by omega) _) (fun _ => ?_)
      clear hK K
      try simp only [Act.put, List.setIfInBounds_toArray, List.set_cons_zero, List.set_cons_succ]
      have HS := Lib.hid (HS.out.row HZ.out (by simp <;> omega) (by omega) #[.int .u32 (u 0), .int .u32 (u 1), .int .u32 (u 2), .int .u32 (u 3), .int .u32 (u 4), .int .u32 (u 5), .int .u32 (u 6), .int .u32 (u 7), .slice alr nr capr])
      refine wpAnyH_take (i := 15) (oi := ⟨some 5, _, _, _, _, _⟩) (v := ?_) rfl (by kernel_rfl) (by kernel_rfl) (by kernel_rfl) (fun _ _ _ h => h) (Or.inl ⟨by rfl, ?_⟩) HS.out ?_
      rotate_left
      · intro w' hSw; clear hSw; go_simp; try (with_reducible rfl)
      try simp only [Act.put, List.setIfInBounds_toArray, List.set_cons_zero, List.set_cons_succ]
      refine wpAnyH_done (by kernel_rfl) ?_ _
      have hR := setRow_heap _ _ _ #[.int .u32 (u 0), .int .u32 (u 1), .int .u32 (u 2), .int .u32 (u 3), .int .u32 (u 4), .int .u32 (u 5), .int .u32 (u 6), .int .u32 (u 7), .slice alr nr capr] _ _ HZ.out
      obtain ⟨r0, r1, r2, r3, r4, r5, r6, r7, r8⟩ := cut_cells hR
      go_wp2_with fail
      refine bodyPost_ret (v := .tuple #[.agg #[.int .u32 (u 0), .int .u32 (u 1), .int .u32 (u 2), .int .u32 (u 3), .int .u32 (u 4), .int .u32 (u 5), .int .u32 (u 6), .int .u32 (u 7), .slice alr nr capr], .int .i64 c]) ?_ rfl ⟨alr, capr, by rw [HP.out.1, HP.out.2.1, HP.out.2.2, HNR.out], by rw [HP.out.2.1, HNR.out]; exact ids_rowC HIR.out HZ.out _, HFR.out, HS.out.bel⟩
      simp [results, Try.results21, go_sem, r0, r1, r2, r3, r4, r5, r6, r7, r8]
    · go_simp
      refine hK.out _ _ (HS.out.alloc _) (fun _ => ?_)
      clear hK K
      try simp only [Act.put, List.setIfInBounds_toArray, List.set_cons_zero, List.set_cons_succ]
      have HN2 := Lib.hid (Blk.new wr #[.slice al len cap, .slice al' len' cap'] 25)
      have HZ := Lib.hid (HZ.out.alloc (.cells #[.slice al len cap, .slice al' len' cap'] 25))
      have HS := Lib.hid (HS.out.alloc (.cells #[.slice al len cap, .slice al' len' cap'] 25))
      refine wpAnyH_ready (rs := [4]) (by kernel_rfl) (by simp) ?_
      refine AllReadyH.cons (o := ⟨some 21, _, _, _, _, _⟩) rfl (fun K hK => ?_) AllReadyH.nil
      go_simp
      go_at_call 49
      refine (join_any a b _).mono ?_
      rintro e wj ⟨rfl, bj⟩
      have HZ := Lib.hid (HZ.out.below bj)
      have HS := Lib.hid (HS.out.next bj)
      have HN2 := Lib.hid (HN2.out.below bj)
      clear bj
      go_wp2_with fail
      refine hK.out _ _ HS.out (fun _ => ?_)
      clear hK K
      try simp only [Act.put, List.setIfInBounds_toArray, List.set_cons_zero, List.set_cons_succ]
      refine wpAnyH_ready (rs := [10]) (by kernel_rfl) (by simp) ?_
      refine AllReadyH.cons (o := ⟨some 27, _, _, _, _, _⟩) rfl (fun K hK => ?_) AllReadyH.nil
      go_simp
      go_at_call 40
      refine (concat_any wr.heap.size al al' len cap len' cap' A B _ HN2.out (HS.out.ids 1 rfl) (HS.out.ids 0 rfl) (by omega)).mono ?_
      rintro e wc ⟨alc, capc, rfl, hIc, hFc, bc⟩
      have HIc := Lib.hid hIc
      have HZ := Lib.hid (HZ.out.below bc)
      have HS := Lib.hid (HS.out.next bc)
      clear bc hIc
      generalize (A ++ B).length = n3 at HIc ⊢
      go_wp2_with fail
      refine hK.out _ _ HS.out (fun _ => ?_)
      clear hK K
      try simp only [Act.put, List.setIfInBounds_toArray, List.set_cons_zero, List.set_cons_succ]
      refine wpAnyH_ready (rs := [11]) (by kernel_rfl) (by simp) ?_
      refine AllReadyH.cons (o := ⟨some 28, _, _, _, _, _⟩) rfl (fun K hK => ?_) AllReadyH.nil
      go_simp
      go_at_call 9
      have hmk := cMake_cut (joinV a b) alc _ capc (A ++ B) _ HIc.out hFc (join_in HIN.out HIN'.out)
      rw [HU.out, HR.out, HCC.out, HNR.out] at hmk
      refine hmk.mono ?_
      clear hmk
      rintro e wd ⟨alr, capr, rfl, hIr, hFr, bd⟩
      have HIR := Lib.hid hIr
      have HFR := Lib.hid hFr
      have HZ := Lib.hid (HZ.out.below bd)
      have HS := Lib.hid (HS.out.next bd)
      clear bd hIr hFr
      go_wp2_with fail
      refine hK.out _ _ HS.out (fun _ => ?_)
      clear hK K
      try simp only [Act.put, List.setIfInBounds_toArray, List.set_cons_zero, List.set_cons_succ]
      refine wpAnyH_take (i := 12) (oi := ⟨some 29, _, _, _, _, _⟩) (v := ?_) rfl (by kernel_rfl) (by kernel_rfl) (by kernel_rfl) (fun _ _ _ h => h) (Or.inl ⟨by rfl, ?_⟩) HS.out ?_
      rotate_left
      · intro w' hSw; clear hSw; go_simp; try (with_reducible rfl)
      try simp only [Act.put, List.setIfInBounds_toArray, List.set_cons_zero, List.set_cons_succ]
      refine wpAnyH_take (i := 13) (oi := ⟨some 30, _, _, _, _, _⟩) (v := ?_) rfl (by kernel_rfl) (by kernel_rfl) (by kernel_rfl) (fun _ _ _ h => h) (Or.inl ⟨by rfl, ?_⟩) HS.out ?_
      rotate_left
      · intro w' hSw; clear hSw; go_simp; try (with_reducible rfl)
      try simp only [Act.put, List.setIfInBounds_toArray, List.set_cons_zero, List.set_cons_succ]
      refine wpAnyH_ready (rs := [14]) (by kernel_rfl) (by simp) ?_
      refine AllReadyH.cons (o := ⟨none, _, _, _, _, _⟩) rfl (fun K hK => ?_) AllReadyH.nil
      refine if_yes rfl ?_
      refine wp_store_row 31 (.tmp 4) (.tmp 29) rfl (w.heap.size + 1 + 1) #[.int .u32 (u 0), .int .u32 (u 1), .int .u32 (u 2), .int .u32 (u 3), .int .u32 (u 4), .int .u32 (u 5), .int .u32 (u 6), .int .u32 (u 7), .slice alr nr capr] rfl rfl 31 _ HZ.out (by kernel_rfl) rfl (cut_one _ _ _ _) ?_
      refine hK.out _ _ (HS.out.row HZ.out (by simp <;> omega) (by omega) _) (fun _ => ?_)
      clear hK K
      try simp only [Act.put, List.setIfInBounds_toArray, List.set_cons_zero, List.set_cons_succ]
      have HS := Lib.hid (HS.out.row HZ.out (by simp <;> omega) (by omega) #[.int .u32 (u 0), .int .u32 (u 1), .int .u32 (u 2), .int .u32 (u 3), .int .u32 (u 4), .int .u32 (u 5), .int .u32 (u 6), .int .u32 (u 7), .slice alr nr capr])
      refine wpAnyH_take (i := 15) (oi := ⟨some 5, _, _, _, _, _⟩) (v := ?_) rfl (by kernel_rfl) (by kernel_rfl) (by kernel_rfl) (fun _ _ _ h => h) (Or.inl ⟨by rfl, ?_⟩) HS.out ?_
      rotate_left
      · intro w' hSw; clear hSw; go_simp; try (with_reducible rfl)
      try simp only [Act.put, List.setIfInBounds_toArray, List.set_cons_zero, List.set_cons_succ]
      refine wpAnyH_done (by kernel_rfl) ?_ _
      have hR := setRow_heap _ _ _ #[.int .u32 (u 0), .int .u32 (u 1), .int .u32 (u 2), .int .u32 (u 3), .int .u32 (u 4), .int .u32 (u 5), .int .u32 (u 6), .int .u32 (u 7), .slice alr nr capr] _ _ HZ.out
      obtain ⟨r0, r1, r2, r3, r4, r5, r6, r7, r8⟩ := cut_cells hR
      go_wp2_with fail
      refine bodyPost_ret (v := .tuple #[.agg #[.int .u32 (u 0), .int .u32 (u 1), .int .u32 (u 2), .int .u32 (u 3), .int .u32 (u 4), .int .u32 (u 5), .int .u32 (u 6), .int .u32 (u 7), .slice alr nr capr], .int .i64 c]) ?_ rfl ⟨alr, capr, by rw [HP.out.1, HP.out.2.1, HP.out.2.2, HNR.out], by rw [HP.out.2.1, HNR.out]; exact ids_rowC HIR.out HZ.out _, HFR.out, HS.out.bel⟩
      simp [results, Try.results21, go_sem, r0, r1, r2, r3, r4, r5, r6, r7, r8]
  · have HE2 := Lib.hid (jo_bad HO.out hz0)
    have hn : (z != 0) = true := by simpa using hz0
    clear hz0
    go_wp2_with (refine wpList_store_row rfl 31 _ _ rfl (w.heap.size + 1 + 1) #[.int .u32 0, .int .u32 0, .int .u32 0, .int .u32 0, .int .u32 0, .int .u32 0, .int .u32 0, .int .u32 0, .slice none 0 0] rfl rfl 31 _ HZ.out (by kernel_rfl) rfl (by kernel_rfl) ?_)
    have hR := setRow_heap _ _ _ #[.int .u32 0, .int .u32 0, .int .u32 0, .int .u32 0, .int .u32 0, .int .u32 0, .int .u32 0, .int .u32 0, .slice none 0 0] _ _ HZ.out
    obtain ⟨r0, r1, r2, r3, r4, r5, r6, r7, r8⟩ := cut_cells (v := zV) (al := none) (len := 0) (cap := 0) hR
    refine bodyPost_ret (v := .tuple #[.agg #[.int .u32 0, .int .u32 0, .int .u32 0, .int .u32 0, .int .u32 0, .int .u32 0, .int .u32 0, .int .u32 0, .slice none 0 0], .int .i64 z]) ?_ rfl ⟨none, 0, by rw [HE2.out.1, HE2.out.2.1, HE2.out.2.2]; rfl, by rw [HE2.out.2.1]; exact Ids.nil _, .inl rfl, below_setRow HS.out.bel (by omega) _⟩
    simp [results, Try.results21, go_sem, r0, r1, r2, r3, r4, r5, r6, r7, r8, zV]
end Go.Proofs.Ythbdjgebpjffgaa

/-
  Package cut's LE.
  Conditions: none.
-/

namespace Go.Proofs.Ythbdjgebpjffgaa
open Go.RowKit Go.Shelf Go.Lib Go.Sort

/-- What LE tells. -/
def leP (a : Nat → Int) (A : List (Int × Int)) (b : Nat → Int) (B : List (Int × Int)) : Bool := decide (ckC a A = 0) && (decide (ckC b B = 0) && leC a A b B)
theorem leP_a {a b : Nat → Int} {A B : List (Int × Int)} (h : ¬ ckC a A = 0) : leP a A b B = false := by unfold leP; rw [decide_eq_false h]; rfl
theorem leP_b {a b : Nat → Int} {A B : List (Int × Int)} (h : ¬ ckC b B = 0) : leP a A b B = false := by unfold leP; rw [decide_eq_false h, Bool.false_and, Bool.and_false]
theorem leP_c {a b : Nat → Int} {A B : List (Int × Int)} (h : ckC a A = 0) (k : ckC b B = 0) : leP a A b B = leC a A b B := by unfold leP; rw [decide_eq_true h, decide_eq_true k]; rfl
theorem leC_vec {a b : Nat → Int} {A B : List (Int × Int)} (h : leV a b = false) : leC a A b B = false := by unfold leC; rw [h]; rfl
theorem leC_no {a b : Nat → Int} {A B : List (Int × Int)} {k : Nat} {o q : Int} (hx : A[k]? = some (o, q)) (h : hasC b B o q = false) : leC a A b B = false := by
  cases e : leC a A b B
  · rfl
  · rw [(leC_iff.1 e).2 o q (List.mem_of_getElem? hx)] at h; exact absurd h (by decide)
theorem leC_yes {a b : Nat → Int} {A B : List (Int × Int)} (h : leV a b = true) (k : ∀ j x, j < A.length → A[j]? = some x → hasC b B x.1 x.2 = true) : leC a A b B = true :=
  leC_iff.2 ⟨h, fun o q hx => by
    obtain ⟨j, hj, e⟩ := List.mem_iff_getElem.1 hx
    exact k j (o, q) hj (by rw [List.getElem?_eq_getElem hj, e])⟩

set_option maxRecDepth 100000 in
set_option maxHeartbeats 4000000 in
theorem cLE_any (a b : Nat → Int) (al al' : Option Addr) (len cap len' cap' : Nat) (A B : List (Int × Int)) (w : World) (hA : Ids w al len cap A) (hB : Ids w al' len' cap' B) (hF : Flat al) (hF' : Flat al') (ha : InB a) (hb : InB b) :
    Calls Try.prog 23 #[.agg #[.int .u32 (a 0), .int .u32 (a 1), .int .u32 (a 2), .int .u32 (a 3), .int .u32 (a 4), .int .u32 (a 5), .int .u32 (a 6), .int .u32 (a 7), .slice al len cap], .agg #[.int .u32 (b 0), .int .u32 (b 1), .int .u32 (b 2), .int .u32 (b 3), .int .u32 (b 4), .int .u32 (b 5), .int .u32 (b 6), .int .u32 (b 7), .slice al' len' cap']] w fun e w' => e = .returned (.bool (leP a A b B)) ∧ Below w.heap.size w w' := by
  have h0 := ((((KS.nil w).add hA).add hB).box rfl #[.int .u32 (a 0), .int .u32 (a 1), .int .u32 (a 2), .int .u32 (a 3), .int .u32 (a 4), .int .u32 (a 5), .int .u32 (a 6), .int .u32 (a 7), .slice al len cap] 31).box (g := w.heap.size + 1) (by simp) #[.int .u32 (b 0), .int .u32 (b 1), .int .u32 (b 2), .int .u32 (b 3), .int .u32 (b 4), .int .u32 (b 5), .int .u32 (b 6), .int .u32 (b 7), .slice al' len' cap'] 31
  have H0 := Lib.hid h0
  have HX := Lib.hid (h0.blk 1 rfl)
  have hck := cCheck_any a al len cap A _ (h0.ids 1 rfl) hF ha
  have HIN' := Lib.hid hb
  have hcap := hA.bd
  have hfit := hA.fit
  have HLN := Lib.hid hA.ln
  clear h0 hA hB hb
  obtain ⟨c, hc⟩ : ∃ c, ckC a A = c := ⟨_, rfl⟩
  rw [hc] at hck
  by_cases hc0 : c = 0
  · subst hc0
    have HC := Lib.hid hc
    obtain ⟨d, hd⟩ : ∃ d, ckC b B = d := ⟨_, rfl⟩
    by_cases hd0 : d = 0
    · subst hd0
      have HD := Lib.hid hd
      have HLP := Lib.hid (leP_c hc hd)
      clear hc hd
      cases hv : leV a b with
      | false =>
        have HLE := Lib.hid (leC_vec (A := A) (B := B) hv)
        have HV := Lib.hid hv; clear hv
        go_enter Try.func23, Try.ntmps23
        go_wp2_with (refine wpList_load_row rfl 31 _ rfl w.heap.size rfl 31 #[.int .u32 (a 0), .int .u32 (a 1), .int .u32 (a 2), .int .u32 (a 3), .int .u32 (a 4), .int .u32 (a 5), .int .u32 (a 6), .int .u32 (a 7), .slice al len cap] (0, 0) _ HX.out Try.underlying31 rfl (by kernel_rfl) ?_)
        refine hck.mono ?_
        clear hck
        rintro e w1 ⟨rfl, b1⟩
        have h1 := H0.out.next b1
        have H1 := Lib.hid h1
        have HY := Lib.hid (h1.blk 0 rfl)
        have hck := cCheck_any b al' len' cap' B _ (h1.ids 0 rfl) hF' HIN'.out
        rw [HD.out] at hck
        clear b1 h1
        obtain ⟨y0, y1, y2, y3, y4, y5, y6, y7, y8⟩ := cut_cells HY.out
        go_wp2_with fail
        refine hck.mono ?_
        clear hck
        rintro e w2 ⟨rfl, b2⟩
        have h2 := H1.out.next b2
        have H2 := Lib.hid h2
        obtain ⟨x0, x1, x2, x3, x4, x5, x6, x7, x8⟩ := cut_cells (h2.blk 1 rfl)
        obtain ⟨y0, y1, y2, y3, y4, y5, y6, y7, y8⟩ := cut_cells (h2.blk 0 rfl)
        clear b2 h2
        go_wp2_with fail
        refine (le_any a b _).mono ?_
        rw [HV.out]
        rintro e w3 ⟨rfl, b3⟩
        have H3 := Lib.hid (H2.out.next b3); clear b3
        go_wp2
        go_ret
        exact ⟨by rw [HLP.out, HLE.out]; rfl, H3.out.bel⟩
      | true =>
        have HV := Lib.hid hv; clear hv
        go_enter Try.func23, Try.ntmps23
        go_wp2_with (refine wpList_load_row rfl 31 _ rfl w.heap.size rfl 31 #[.int .u32 (a 0), .int .u32 (a 1), .int .u32 (a 2), .int .u32 (a 3), .int .u32 (a 4), .int .u32 (a 5), .int .u32 (a 6), .int .u32 (a 7), .slice al len cap] (0, 0) _ HX.out Try.underlying31 rfl (by kernel_rfl) ?_)
        refine hck.mono ?_
        clear hck
        rintro e w1 ⟨rfl, b1⟩
        have h1 := H0.out.next b1
        have H1 := Lib.hid h1
        have HY := Lib.hid (h1.blk 0 rfl)
        have hck := cCheck_any b al' len' cap' B _ (h1.ids 0 rfl) hF' HIN'.out
        rw [HD.out] at hck
        clear b1 h1
        obtain ⟨y0, y1, y2, y3, y4, y5, y6, y7, y8⟩ := cut_cells HY.out
        go_wp2_with fail
        refine hck.mono ?_
        clear hck
        rintro e w2 ⟨rfl, b2⟩
        have h2 := H1.out.next b2
        have H2 := Lib.hid h2
        obtain ⟨x0, x1, x2, x3, x4, x5, x6, x7, x8⟩ := cut_cells (h2.blk 1 rfl)
        obtain ⟨y0, y1, y2, y3, y4, y5, y6, y7, y8⟩ := cut_cells (h2.blk 0 rfl)
        clear b2 h2
        go_wp2_with fail
        refine (le_any a b _).mono ?_
        rw [HV.out]
        rintro e w3 ⟨rfl, b3⟩
        have h3 := H2.out.next b3
        have H3 := Lib.hid h3
        have x8' := (cut_cells (h3.blk 1 rfl)).2.2.2.2.2.2.2.2
        clear b3 h3 x0 x1 x2 x3 x4 x5 x6 x7 x8 y0 y1 y2 y3 y4 y5 y6 y7 y8
        go_wp2
        go_loopw [24] (fun i wr => ∃ k : Nat, i = .int .i64 k ∧ k ≤ len ∧ (∀ j x, j < k → A[j]? = some x → hasC b B x.1 x.2 = true) ∧ KS w [(w.heap.size + 1, #[.int .u32 (b 0), .int .u32 (b 1), .int .u32 (b 2), .int .u32 (b 3), .int .u32 (b 4), .int .u32 (b 5), .int .u32 (b 6), .int .u32 (b 7), .slice al' len' cap'], 31), (w.heap.size, #[.int .u32 (a 0), .int .u32 (a 1), .int .u32 (a 2), .int .u32 (a 3), .int .u32 (a 4), .int .u32 (a 5), .int .u32 (a 6), .int .u32 (a 7), .slice al len cap], 31)] [(al', len', cap', B), (al, len, cap, A)] wr) (fun i _ => len - (intOf i).toNat)
        case atStart => exact ⟨0, rfl, by omega, fun j x hj => by omega, H3.out⟩
        case round =>
          obtain ⟨k, rfl, hk, hold, hks⟩ := hrel
          have HO := Lib.hid hold; clear hold
          have HK := Lib.hid hks
          by_cases hkl : k < len
          · obtain ⟨bb, off, o, q, rfl, hx, i0, i1⟩ := (hks.ids 1 rfl).nth k hkl
            have h4 := hks.box (g := wr.heap.size) rfl #[.int .i64 o, .int .u32 q] 29
            have H4 := Lib.hid h4
            have HY4 := Lib.hid (h4.blk 1 rfl)
            have HXX := Lib.hid hx
            clear hks hx h4 x8'
            have hhs := cHas_cut b al' len' cap' B o q _ (H4.out.ids 0 rfl)
            cases hh : hasC b B o q with
            | true =>
              have HH := Lib.hid hh
              rw [hh] at hhs
              clear hh
              go_wp2_with (refine wpList_load_row rfl 31 _ rfl (w.heap.size + 1) rfl 31 #[.int .u32 (b 0), .int .u32 (b 1), .int .u32 (b 2), .int .u32 (b 3), .int .u32 (b 4), .int .u32 (b 5), .int .u32 (b 6), .int .u32 (b 7), .slice al' len' cap'] (0, 0) _ HY4.out Try.underlying31 rfl (by kernel_rfl) ?_)
              refine hhs.mono ?_
              clear hhs
              rintro e w5 ⟨rfl, b5⟩
              have H5 := Lib.hid ((H4.out.next b5).drop (Bs' := [(w.heap.size + 1, #[.int .u32 (b 0), .int .u32 (b 1), .int .u32 (b 2), .int .u32 (b 3), .int .u32 (b 4), .int .u32 (b 5), .int .u32 (b 6), .int .u32 (b 7), .slice al' len' cap'], 31), (w.heap.size, #[.int .u32 (a 0), .int .u32 (a 1), .int .u32 (a 2), .int .u32 (a 3), .int .u32 (a 4), .int .u32 (a 5), .int .u32 (a 6), .int .u32 (a 7), .slice (some ⟨bb, off, none⟩) len cap], 31)]) (fun x hx => List.mem_cons_of_mem _ hx) (fun r hr => hr)); clear b5
              go_wp2
              go_roundw
              case rel => exact ⟨k + 1, by go_num, by omega, fun j x hj hx => by
                by_cases e : j = k
                · subst e; rw [HXX.out] at hx; cases hx; exact HH.out
                · exact HO.out j x (by omega) hx, H5.out⟩
              case measure => simp [intOf]; omega
            | false =>
              have HLE := Lib.hid (leC_no (a := a) (B := B) (b := b) HXX.out hh)
              rw [hh] at hhs
              clear hh
              go_wp2_with (refine wpList_load_row rfl 31 _ rfl (w.heap.size + 1) rfl 31 #[.int .u32 (b 0), .int .u32 (b 1), .int .u32 (b 2), .int .u32 (b 3), .int .u32 (b 4), .int .u32 (b 5), .int .u32 (b 6), .int .u32 (b 7), .slice al' len' cap'] (0, 0) _ HY4.out Try.underlying31 rfl (by kernel_rfl) ?_)
              refine hhs.mono ?_
              clear hhs
              rintro e w5 ⟨rfl, b5⟩
              have H5 := Lib.hid (H4.out.next b5); clear b5
              go_wp2
              go_ret
              exact ⟨by rw [HLP.out, HLE.out]; rfl, H5.out.bel⟩
          · have HLE : Hid (leC a A b B = true) := Lib.hid (leC_yes HV.out fun j x hj hx => HO.out j x (by have := HLN.out; omega) hx)
            have hkk : (len : Int) ≤ k := by omega
            clear hks
            go_wp2
            go_ret
            exact ⟨by rw [HLP.out, HLE.out]; rfl, HK.out.bel⟩
    · have HLP : Hid (leP a A b B = false) := Lib.hid (leP_b (by rw [hd]; exact hd0))
      have HD := Lib.hid hd
      have hn : (d != 0) = true := by simpa using hd0
      clear hc hd hd0
      go_enter Try.func23, Try.ntmps23
      go_wp2_with (refine wpList_load_row rfl 31 _ rfl w.heap.size rfl 31 #[.int .u32 (a 0), .int .u32 (a 1), .int .u32 (a 2), .int .u32 (a 3), .int .u32 (a 4), .int .u32 (a 5), .int .u32 (a 6), .int .u32 (a 7), .slice al len cap] (0, 0) _ HX.out Try.underlying31 rfl (by kernel_rfl) ?_)
      refine hck.mono ?_
      clear hck
      rintro e w1 ⟨rfl, b1⟩
      have h1 := H0.out.next b1
      have H1 := Lib.hid h1
      have HY := Lib.hid (h1.blk 0 rfl)
      have hck := cCheck_any b al' len' cap' B _ (h1.ids 0 rfl) hF' HIN'.out
      rw [HD.out] at hck
      clear b1 h1
      obtain ⟨y0, y1, y2, y3, y4, y5, y6, y7, y8⟩ := cut_cells HY.out
      go_wp2_with fail
      refine hck.mono ?_
      clear hck
      rintro e w2 ⟨rfl, b2⟩
      have H2 := Lib.hid (H1.out.next b2); clear b2
      go_wp2
      go_ret
      exact ⟨by rw [HLP.out]; rfl, H2.out.bel⟩
  · have HLP : Hid (leP a A b B = false) := Lib.hid (leP_a (by rw [hc]; exact hc0))
    have hn : (c != 0) = true := by simpa using hc0
    clear hc hc0
    go_enter Try.func23, Try.ntmps23
    go_wp2_with (refine wpList_load_row rfl 31 _ rfl w.heap.size rfl 31 #[.int .u32 (a 0), .int .u32 (a 1), .int .u32 (a 2), .int .u32 (a 3), .int .u32 (a 4), .int .u32 (a 5), .int .u32 (a 6), .int .u32 (a 7), .slice al len cap] (0, 0) _ HX.out Try.underlying31 rfl (by kernel_rfl) ?_)
    refine hck.mono ?_
    clear hck
    rintro e w1 ⟨rfl, b1⟩
    have H1 := Lib.hid (H0.out.next b1); clear b1
    go_wp2
    go_ret
    exact ⟨by rw [HLP.out]; rfl, H1.out.bel⟩
end Go.Proofs.Ythbdjgebpjffgaa
