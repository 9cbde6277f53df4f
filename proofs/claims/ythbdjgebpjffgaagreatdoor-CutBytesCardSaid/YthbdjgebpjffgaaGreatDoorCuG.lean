/-
  Package cut's Add and Join.
  Conditions: none.
-/
import Derived.Test.YthbdjgebpjffgaaGreatDoorCuB
import Derived.Test.YthbdjgebpjffgaaGreatDoorCuD
import Derived.Test.YthbdjgebpjffgaaGreatDoorDotP
import Derived.Test.YthbdjgebpjffgaaGreatDoorVecC
import Derived.Test.YthbdjgebpjffgaaGreatDoorVecK
import Derived.Shelf.Spec.SlicesGrow
import Derived.RegionTactic
set_option linter.unusedVariables false
set_option linter.unusedSimpArgs false
namespace Go.Proofs.YthbdjgebpjffgaaGreatDoor
open Go.RowKit Go.Shelf Go.Lib Go.Sort

theorem KS.row {w0 W : World} {Bs : List Bx} {Rs : List Rl} {g : Nat} {T : TypeId} (h : KS w0 Bs Rs W) (hz : Blk W g #[.int .u32 0, .int .u32 0, .int .u32 0, .int .u32 0, .int .u32 0, .int .u32 0, .int .u32 0, .int .u32 0, .slice none 0 0] T) (hf : ∀ x, x ∈ Bs → x.1 ≠ g) (hg : w0.heap.size ≤ g) (cs : Array Value) : KS w0 Bs Rs (W.setRow g cs) :=
  ⟨below_setRow h.bel hg _, fun x hx => (setRow_other _ _ _ _ (hf x hx)).trans (h.bs x hx), fun r hr => ids_rowC (h.rs r hr) hz cs⟩
theorem if_yes {c : Bool} {A B : Prop} (hc : c = true) (h : A) : if c = true then A else B := by rw [if_pos hc]; exact h
theorem lit1 {W : World} {g : Nat} {o q : Int} (h : Blk W g #[.int .i64 o, .int .u32 q] 83) : Ids W (some ⟨g, 0, none⟩) 1 1 [(o, q)] :=
  ⟨rfl, Nat.le_refl _, by omega, nofun, fun k hk => by
    obtain rfl : k = 0 := by omega
    exact ⟨g, 0, o, q, rfl, rfl, (id_cells h).1, (id_cells h).2⟩⟩

/-- What Add tells. -/
def adC (v : Nat → Int) (L : List (Int × Int)) (o q : Int) : Int := if orZ (ckC v L) (chk o q) = 0 then (if hasC v L o q = true then 11 else cmC v (L ++ [(o, q)])) else orZ (ckC v L) (chk o q)
def adV (v : Nat → Int) (L : List (Int × Int)) (o q : Int) : Nat → Int := if orZ (ckC v L) (chk o q) = 0 ∧ hasC v L o q = false then cmV v (L ++ [(o, q)]) else zV
def adS (v : Nat → Int) (L : List (Int × Int)) (o q : Int) : List (Int × Int) := if orZ (ckC v L) (chk o q) = 0 ∧ hasC v L o q = false then cmS v (L ++ [(o, q)]) else []
theorem ad_bad {v : Nat → Int} {L : List (Int × Int)} {o q z : Int} (h : orZ (ckC v L) (chk o q) = z) (hz : ¬ z = 0) : adV v L o q = zV ∧ adS v L o q = [] ∧ adC v L o q = z := by
  have hn : ¬ (orZ (ckC v L) (chk o q) = 0 ∧ hasC v L o q = false) := fun k => hz (h ▸ k.1)
  exact ⟨by unfold adV; rw [if_neg hn], by unfold adS; rw [if_neg hn], by unfold adC; rw [if_neg (by rw [h]; exact hz), h]⟩
theorem ad_twice {v : Nat → Int} {L : List (Int × Int)} {o q : Int} (h : orZ (ckC v L) (chk o q) = 0) (k : hasC v L o q = true) : adV v L o q = zV ∧ adS v L o q = [] ∧ adC v L o q = 11 := by
  have hn : ¬ (orZ (ckC v L) (chk o q) = 0 ∧ hasC v L o q = false) := fun j => by rw [k] at j; exact absurd j.2 (by decide)
  exact ⟨by unfold adV; rw [if_neg hn], by unfold adS; rw [if_neg hn], by unfold adC; rw [if_pos h, if_pos k]⟩
theorem ad_ok {v : Nat → Int} {L : List (Int × Int)} {o q : Int} (h : orZ (ckC v L) (chk o q) = 0) (k : hasC v L o q = false) : adV v L o q = cmV v (L ++ [(o, q)]) ∧ adS v L o q = cmS v (L ++ [(o, q)]) ∧ adC v L o q = cmC v (L ++ [(o, q)]) :=
  ⟨by unfold adV; rw [if_pos ⟨h, k⟩], by unfold adS; rw [if_pos ⟨h, k⟩], by unfold adC; rw [if_pos h, if_neg (by rw [k]; decide)]⟩
/-- What Join tells. -/
def joC (a : Nat → Int) (A : List (Int × Int)) (b : Nat → Int) (B : List (Int × Int)) : Int := if orZ (ckC a A) (ckC b B) = 0 then cmC (joinV a b) (A ++ B) else orZ (ckC a A) (ckC b B)
def joV (a : Nat → Int) (A : List (Int × Int)) (b : Nat → Int) (B : List (Int × Int)) : Nat → Int := if orZ (ckC a A) (ckC b B) = 0 then cmV (joinV a b) (A ++ B) else zV
def joS (a : Nat → Int) (A : List (Int × Int)) (b : Nat → Int) (B : List (Int × Int)) : List (Int × Int) := if orZ (ckC a A) (ckC b B) = 0 then cmS (joinV a b) (A ++ B) else []
theorem jo_bad {a b : Nat → Int} {A B : List (Int × Int)} {z : Int} (h : orZ (ckC a A) (ckC b B) = z) (hz : ¬ z = 0) : joV a A b B = zV ∧ joS a A b B = [] ∧ joC a A b B = z := by
  have hn : ¬ orZ (ckC a A) (ckC b B) = 0 := fun k => hz (h ▸ k)
  exact ⟨by unfold joV; rw [if_neg hn], by unfold joS; rw [if_neg hn], by unfold joC; rw [if_neg hn, h]⟩
theorem jo_ok {a b : Nat → Int} {A B : List (Int × Int)} (h : orZ (ckC a A) (ckC b B) = 0) : joV a A b B = cmV (joinV a b) (A ++ B) ∧ joS a A b B = cmS (joinV a b) (A ++ B) ∧ joC a A b B = cmC (joinV a b) (A ++ B) :=
  ⟨by unfold joV; rw [if_pos h], by unfold joS; rw [if_pos h], by unfold joC; rw [if_pos h]⟩

end Go.Proofs.YthbdjgebpjffgaaGreatDoor

/-
  What the laws of layer 8 do inline: append of a list to a literal, within a region that draws its order; boxes filled later.
  Conditions: none.
-/

namespace Go.Proofs.YthbdjgebpjffgaaGreatDoor
open Go.RowKit Go.Shelf Go.Lib Go.Sort

theorem KS.ne {w0 W : World} {Bs : List Bx} {Rs : List Rl} (h : KS w0 Bs Rs W) : (∀ x, x ∈ Bs → x.1 ≠ W.heap.size) ∧ w0.heap.size ≤ W.heap.size :=
  ⟨fun x hx => by have := (h.bs x hx).lt; omega, h.bel.size⟩
theorem wp_append_list {w : World} {o : Oper} {a : Act} {K : Act → World → Prop} {Q : Exit → Act → World → Prop} (s x : Operand)
    (ho : o.op = .call { callee := .builtin .append, args := #[s, x], argTypes := #[25, 25] })
    (base : Nat) (i : TypeInfo) (hi : Tryz.prog.info? 83 = some i) (hz : i.zero = some (.agg #[.int .i64 0, .int .u32 0])) (hsize : i.size = 2) (hby : i.bytes = 16)
    (v : Value) (n : Nat) (N : List (Int × Int)) (hs : a.eval s = v) (hown : w.ownsRow base 83 2 v n (idCs N))
    (ad : Option Addr) (m c : Nat) (L : List (Int × Int)) (hx : a.eval x = .slice ad m c) (hsrc : Ids w ad m c L)
    (hl : n + m ≤ 1048576) (hbase : base ≤ w.heap.size)
    (h : ∀ v' w', w'.ownsRow base 83 2 v' (n + m) (idCs (N ++ L)) → w.grownBy w' v.ownBlock → K (a.put o.dst v') w') : o.wp Tryz.prog a w K Q := by
  cases ad with
  | none =>
    obtain rfl : m = 0 := by
      rcases Nat.eq_zero_or_pos m with e | e
      · exact e
      · obtain ⟨_, _, _, _, k, _⟩ := hsrc.nth 0 e; cases k
    obtain rfl : c = 0 := hsrc.nn rfl
    obtain rfl : L = [] := List.length_eq_zero_iff.1 hsrc.ln.symm
    have hrun := run_append_owned_none (P := Tryz.prog) (w := w) base 25 o.type 83 i 2 Tryz.underlying25 hi v n (idCs N) hown
    unfold Oper.wp
    simp [execOp, ho, resolve, invoke, builtin, hs, hx, hrun, Result.andThen]
    exact h v w (by simpa using hown) ⟨rfl, rfl, rfl, Nat.le_refl _, fun _ _ _ => rfl⟩
  | some ad =>
    refine wp_append_own w s x 25 ho base 83 i (.agg #[.int .i64 0, .int .u32 0]) 2 16 Tryz.underlying25 hi hz hsize hby rfl (by decide) v n (idCs N) hs hown ad m c (idCs L) hx (by rw [idCs_len, hsrc.ln]) hsrc.src (idCs_one L) (by unfold maxLen; omega) (by omega) hbase ?_
    intro v' w' hown' hgrow _
    exact h v' w' (by rw [idCs_app]; exact hown') hgrow
/-- What the append gives, and what it leaves. -/
theorem app_got {w : World} {B : Nat} {v : Value} {n : Nat} {L : List (Int × Int)} (h : w.ownsRow B 83 2 v (0 + n) (idCs ([] ++ L))) : ∃ al cap, v = .slice al n cap ∧ Ids w al n cap L ∧ Flat al := by
  obtain ⟨h1, al, cap, h2, h3, h4⟩ := own_ids (L := L) h
  have : n = L.length := by omega
  subst this
  exact ⟨al, cap, h2, h3, h4⟩
theorem lit_block {g n c : Nat} {B : Nat} (h : g ≠ B) : some g ≠ (Value.slice (some ⟨B, 0, none⟩) n c).ownBlock := fun e => h (by simpa [Value.ownBlock] using e)
end Go.Proofs.YthbdjgebpjffgaaGreatDoor

/-
  The laws' own To, From and far.
  Conditions: none.
-/

namespace Go.Proofs.YthbdjgebpjffgaaGreatDoor
open Go.RowKit Go.Shelf Go.Lib Go.Sort

set_option maxRecDepth 100000 in
set_option maxHeartbeats 1000000 in
theorem from_cut (v : Nat → Int) (al : Option Addr) (len cap : Nat) (w : World) :
    Calls Tryz.prog 10 #[.agg #[.int .u32 (v 0), .int .u32 (v 1), .int .u32 (v 2), .int .u32 (v 3), .int .u32 (v 4), .int .u32 (v 5), .int .u32 (v 6), .int .u32 (v 7), .slice al len cap]] w fun e w' => e = .returned (.agg #[.int .u32 (v 0), .int .u32 (v 1), .int .u32 (v 2), .int .u32 (v 3), .int .u32 (v 4), .int .u32 (v 5), .int .u32 (v 6), .int .u32 (v 7), .slice al len cap]) ∧ Below w.heap.size w w' := by
  have h0 := ((KS.nil w).box rfl #[.int .u32 (v 0), .int .u32 (v 1), .int .u32 (v 2), .int .u32 (v 3), .int .u32 (v 4), .int .u32 (v 5), .int .u32 (v 6), .int .u32 (v 7), .slice al len cap] 32).box (g := w.heap.size + 1) (by simp) #[.int .u32 0, .int .u32 0, .int .u32 0, .int .u32 0, .int .u32 0, .int .u32 0, .int .u32 0, .int .u32 0, .slice none 0 0] 27
  obtain ⟨x0, x1, x2, x3, x4, x5, x6, x7, x8⟩ := cut_cells (h0.blk 1 rfl)
  have HZ := Lib.hid (h0.blk 0 rfl)
  have HB := Lib.hid h0.bel
  clear h0
  go_enter Tryz.func10, Tryz.ntmps10
  go_wp2_with (refine wpList_store_row rfl 27 _ _ rfl (w.heap.size + 1) #[.int .u32 (v 0), .int .u32 (v 1), .int .u32 (v 2), .int .u32 (v 3), .int .u32 (v 4), .int .u32 (v 5), .int .u32 (v 6), .int .u32 (v 7), .slice al len cap] rfl rfl 27 _ HZ.out (by kernel_rfl) rfl (cut_one _ _ _ _) ?_)
  have hR := setRow_heap _ _ _ #[.int .u32 (v 0), .int .u32 (v 1), .int .u32 (v 2), .int .u32 (v 3), .int .u32 (v 4), .int .u32 (v 5), .int .u32 (v 6), .int .u32 (v 7), .slice al len cap] _ _ HZ.out
  obtain ⟨r0, r1, r2, r3, r4, r5, r6, r7, r8⟩ := cut_cells hR
  refine bodyPost_ret (v := .agg #[.int .u32 (v 0), .int .u32 (v 1), .int .u32 (v 2), .int .u32 (v 3), .int .u32 (v 4), .int .u32 (v 5), .int .u32 (v 6), .int .u32 (v 7), .slice al len cap]) ?_ rfl ⟨rfl, below_setRow HB.out (by omega) _⟩
  simp [results, Tryz.results10, go_sem, r0, r1, r2, r3, r4, r5, r6, r7, r8]

/-- Is a vector far? -/
def farV (v : Nat → Int) : Bool := decide (3000 < totV v 8)
set_option maxRecDepth 100000 in
set_option maxHeartbeats 2000000 in
theorem to_cut (v : Nat → Int) (al : Option Addr) (len cap : Nat) (L : List (Int × Int)) (w : World) (hL : Ids w al len cap L) (hl : len ≤ 1048576) :
    Calls Tryz.prog 6 #[.agg #[.int .u32 (v 0), .int .u32 (v 1), .int .u32 (v 2), .int .u32 (v 3), .int .u32 (v 4), .int .u32 (v 5), .int .u32 (v 6), .int .u32 (v 7), .slice al len cap]] w fun e w' => ∃ al2 cap2, e = .returned (.agg #[.int .u32 (v 0), .int .u32 (v 1), .int .u32 (v 2), .int .u32 (v 3), .int .u32 (v 4), .int .u32 (v 5), .int .u32 (v 6), .int .u32 (v 7), .slice al2 len cap2]) ∧ Ids w' al2 len cap2 L ∧ Flat al2 ∧ Below w.heap.size w w' := by
  obtain ⟨ti, hi, hz0, hz1, hz2⟩ := info_parts Tryz.infoId
  have hcap := hL.bd
  have hfit := hL.fit
  have h0 := (((KS.nil w).add hL).box rfl #[.int .u32 (v 0), .int .u32 (v 1), .int .u32 (v 2), .int .u32 (v 3), .int .u32 (v 4), .int .u32 (v 5), .int .u32 (v 6), .int .u32 (v 7), .slice al len cap] 27).box (g := w.heap.size + 1) (by simp) #[.int .u32 0, .int .u32 0, .int .u32 0, .int .u32 0, .int .u32 0, .int .u32 0, .int .u32 0, .int .u32 0, .slice none 0 0] 32
  have H0 := Lib.hid h0
  clear h0 hL
  go_enter Tryz.func6, Tryz.ntmps6
  go_wp2_with fail
  have h3 := KS.drop (Bs' := [(w.heap.size, #[.int .u32 (v 0), .int .u32 (v 1), .int .u32 (v 2), .int .u32 (v 3), .int .u32 (v 4), .int .u32 (v 5), .int .u32 (v 6), .int .u32 (v 7), .slice al len cap], 27)]) (Rs' := [(al, len, cap, L)]) H0.out (fun x hx => List.mem_cons_of_mem _ hx) (fun r hr => hr)
  refine wp_region_held_drew (S := KS w [(w.heap.size, #[.int .u32 (v 0), .int .u32 (v 1), .int .u32 (v 2), .int .u32 (v 3), .int .u32 (v 4), .int .u32 (v 5), .int .u32 (v 6), .int .u32 (v 7), .slice al len cap], 27)] [(al, len, cap, L)]) (by kernel_rfl) h3.drew (fun _ => ?_)
  have HS := Lib.hid h3.drew
  have HZ := Lib.hid (H0.out.drew.blk 0 rfl)
  clear h3
  generalize hwr : World.drew _ = wr at HS HZ ⊢
  clear hwr
  refine wpAnyH_take (i := 0) (oi := ⟨some 3, _, _, _, _, _⟩) (v := ?_) rfl (by kernel_rfl) (by kernel_rfl) (by kernel_rfl) (fun _ _ _ h => h) (Or.inl ⟨by rfl, ?_⟩) HS.out ?_
  rotate_left
  · intro w' hSw; clear hSw; go_simp; try (with_reducible rfl)
  try simp only [Act.put, List.setIfInBounds_toArray, List.set_cons_zero, List.set_cons_succ]
  refine wpAnyH_take (i := 1) (oi := ⟨some 4, _, _, _, _, _⟩) (v := ?_) rfl (by kernel_rfl) (by kernel_rfl) (by kernel_rfl) (fun _ _ _ h => h) (Or.inl ⟨by rfl, ?_⟩) HS.out ?_
  rotate_left
  · intro w' hSw; obtain ⟨a_0, a_1, a_2, a_3, a_4, a_5, a_6, a_7, a_8⟩ := cut_cells (hSw.blk 0 rfl); go_simp; try (with_reducible rfl)
  try simp only [Act.put, List.setIfInBounds_toArray, List.set_cons_zero, List.set_cons_succ]
  refine wpAnyH_take (i := 3) (oi := ⟨some 6, _, _, _, _, _⟩) (v := ?_) rfl (by kernel_rfl) (by kernel_rfl) (by kernel_rfl) (fun _ _ _ h => h) (Or.inl ⟨by rfl, ?_⟩) HS.out ?_
  rotate_left
  · intro w' hSw; clear hSw; go_simp; try (with_reducible rfl)
  try simp only [Act.put, List.setIfInBounds_toArray, List.set_cons_zero, List.set_cons_succ]
  refine wpAnyH_take (i := 4) (oi := ⟨some 7, _, _, _, _, _⟩) (v := ?_) rfl (by kernel_rfl) (by kernel_rfl) (by kernel_rfl) (fun _ _ _ h => h) (Or.inl ⟨by rfl, ?_⟩) HS.out ?_
  rotate_left
  · intro w' hSw; obtain ⟨a_0, a_1, a_2, a_3, a_4, a_5, a_6, a_7, a_8⟩ := cut_cells (hSw.blk 0 rfl); go_simp; try (with_reducible rfl)
  try simp only [Act.put, List.setIfInBounds_toArray, List.set_cons_zero, List.set_cons_succ]
  refine wpAnyH_ready (rs := [2]) (by kernel_rfl) (by simp) ?_
  refine AllReadyH.cons (o := ⟨some 5, _, _, _, _, _⟩) rfl (fun K hK => ?_) AllReadyH.nil
  go_simp
  have HS0 := HS
  have HZ0 := HZ
  have HB0 := Lib.hid ((Below.refl wr.heap.size wr).alloc (Nat.le_refl _) (.cells #[] 83))
  refine hK.out _ _ (HS.out.alloc _) (fun _ => ?_)
  clear hK K
  try simp only [Act.put, List.setIfInBounds_toArray, List.set_cons_zero, List.set_cons_succ]
  have HO := Lib.hid (lit_own wr)
  have HS := Lib.hid (HS.out.alloc (.cells #[] 83))
  refine wpAnyH_ready (rs := [5]) (by kernel_rfl) (by simp) ?_
  refine AllReadyH.cons (o := ⟨some 8, _, _, _, _, _⟩) rfl (fun K hK => ?_) AllReadyH.nil
  refine if_yes rfl ?_
  refine wp_append_list (.tmp 5) (.tmp 7) rfl wr.heap.size ti hi hz0 hz1 hz2 _ _ [] rfl HO.out al len cap L rfl (HS.out.ids 0 rfl) (by omega) HB0.out.size ?_
  intro va wa hoa hga
  have hba : Below wr.heap.size wr wa := HB0.out.grown hga HB0.out.size (fun k hk => own_base HO.out k hk)
  obtain ⟨ala, capa, rfl, hIa, hFa⟩ := app_got hoa
  have HIa := Lib.hid hIa
  have HS := Lib.hid (HS0.out.next hba)
  have HZ := Lib.hid (HZ0.out.below hba)
  clear hoa hga hba hIa HO HB0
  refine hK.out _ _ HS.out (fun _ => ?_)
  clear hK K
  try simp only [Act.put, List.setIfInBounds_toArray, List.set_cons_zero, List.set_cons_succ]
  refine wpAnyH_take (i := 6) (oi := ⟨some 9, _, _, _, _, _⟩) (v := ?_) rfl (by kernel_rfl) (by kernel_rfl) (by kernel_rfl) (fun _ _ _ h => h) (Or.inl ⟨by rfl, ?_⟩) HS.out ?_
  rotate_left
  · intro w' hSw; clear hSw; go_simp; try (with_reducible rfl)
  try simp only [Act.put, List.setIfInBounds_toArray, List.set_cons_zero, List.set_cons_succ]
  refine wpAnyH_ready (rs := [7]) (by kernel_rfl) (by simp) ?_
  refine AllReadyH.cons (o := ⟨none, _, _, _, _, _⟩) rfl (fun K hK => ?_) AllReadyH.nil
  refine if_yes rfl ?_
  refine wp_store_row 32 (.tmp 2) (.tmp 9) rfl (w.heap.size + 1) #[.int .u32 (v 0), .int .u32 (v 1), .int .u32 (v 2), .int .u32 (v 3), .int .u32 (v 4), .int .u32 (v 5), .int .u32 (v 6), .int .u32 (v 7), .slice ala len capa] rfl rfl 32 _ HZ.out (by kernel_rfl) rfl (cut_one _ _ _ _) ?_
  refine hK.out _ _ (HS.out.row HZ.out (by simp <;> omega) (by omega) _) (fun _ => ?_)
  clear hK K
  try simp only [Act.put, List.setIfInBounds_toArray, List.set_cons_zero, List.set_cons_succ]
  have HS := Lib.hid (HS.out.row HZ.out (by simp <;> omega) (by omega) #[.int .u32 (v 0), .int .u32 (v 1), .int .u32 (v 2), .int .u32 (v 3), .int .u32 (v 4), .int .u32 (v 5), .int .u32 (v 6), .int .u32 (v 7), .slice ala len capa])
  refine wpAnyH_done (by kernel_rfl) ?_ _
  have hR := setRow_heap _ _ _ #[.int .u32 (v 0), .int .u32 (v 1), .int .u32 (v 2), .int .u32 (v 3), .int .u32 (v 4), .int .u32 (v 5), .int .u32 (v 6), .int .u32 (v 7), .slice ala len capa] _ _ HZ.out
  obtain ⟨r0, r1, r2, r3, r4, r5, r6, r7, r8⟩ := cut_cells hR
  go_wp2_with fail
  refine bodyPost_ret (v := .agg #[.int .u32 (v 0), .int .u32 (v 1), .int .u32 (v 2), .int .u32 (v 3), .int .u32 (v 4), .int .u32 (v 5), .int .u32 (v 6), .int .u32 (v 7), .slice ala len capa]) ?_ rfl ⟨ala, capa, rfl, ids_rowC HIa.out HZ.out _, hFa, HS.out.bel⟩
  simp [results, Tryz.results6, go_sem, r0, r1, r2, r3, r4, r5, r6, r7, r8]
end Go.Proofs.YthbdjgebpjffgaaGreatDoor
