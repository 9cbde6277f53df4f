/-
  What is held while cuts are handled: boxes and lists of names; package cut's Same and Has, and the document's.
  Conditions: none.
-/
import Derived.Test.YthbdjgebpjffgaaCuA
import Derived.Test.YthbdjgebpjffgaaCuB
set_option linter.unusedVariables false
set_option linter.unusedSimpArgs false
namespace Go.Proofs.Ythbdjgebpjffgaa
open Go.RowKit Go.Shelf Go.Lib Go.Sort

abbrev Bx := Nat × Array Value × TypeId
abbrev Rl := Option Addr × Nat × Nat × List (Int × Int)
/-- Boxes with their cells, slices with their lists; nothing that was has turned. -/
structure KS (w0 : World) (Bs : List Bx) (Rs : List Rl) (w : World) : Prop where
  bel : Below w0.heap.size w0 w
  bs : ∀ x, x ∈ Bs → Blk w x.1 x.2.1 x.2.2
  rs : ∀ r, r ∈ Rs → Ids w r.1 r.2.1 r.2.2.1 r.2.2.2
section
variable {w0 W w' : World} {Bs : List Bx} {Rs : List Rl}
theorem KS.nil (w : World) : KS w [] [] w := ⟨Below.refl _ _, nofun, nofun⟩
theorem KS.next (h : KS w0 Bs Rs W) (k : Below W.heap.size W w') : KS w0 Bs Rs w' := ⟨below_then h.bel k, fun x hx => (h.bs x hx).below k, fun r hr => (h.rs r hr).below k⟩
theorem KS.drew (h : KS w0 Bs Rs W) : KS w0 Bs Rs W.drew := h.next (Below.refl _ _).drew
theorem KS.alloc (h : KS w0 Bs Rs W) (x : Obj) : KS w0 Bs Rs (W.alloc x) := h.next ((Below.refl _ _).alloc (Nat.le_refl _) x)
theorem KS.add (h : KS w0 Bs Rs W) {al : Option Addr} {len cap : Nat} {L : List (Int × Int)} (k : Ids W al len cap L) : KS w0 Bs ((al, len, cap, L) :: Rs) W := ⟨h.bel, h.bs, fun r hr => by
  rcases List.mem_cons.1 hr with rfl | hr
  · exact k
  · exact h.rs r hr⟩
theorem KS.put (h : KS w0 Bs Rs W) {g : Nat} {cs : Array Value} {T : TypeId} (k : Blk W g cs T) : KS w0 ((g, cs, T) :: Bs) Rs W := ⟨h.bel, fun x hx => by
  rcases List.mem_cons.1 hx with rfl | hx
  · exact k
  · exact h.bs x hx, h.rs⟩
theorem KS.box (h : KS w0 Bs Rs W) {g : Nat} (hg : g = W.heap.size) (cs : Array Value) (T : TypeId) : KS w0 ((g, cs, T) :: Bs) Rs (W.alloc (.cells cs T)) := by
  subst hg; exact (h.alloc _).put (Blk.new _ _ _)
theorem KS.blk (h : KS w0 Bs Rs W) (i : Nat) {g : Nat} {cs : Array Value} {T : TypeId} (hi : Bs[i]? = some (g, cs, T)) : Blk W g cs T := h.bs _ (List.mem_of_getElem? hi)
theorem KS.ids (h : KS w0 Bs Rs W) (i : Nat) {al : Option Addr} {len cap : Nat} {L : List (Int × Int)} (hi : Rs[i]? = some (al, len, cap, L)) : Ids W al len cap L := h.rs _ (List.mem_of_getElem? hi)
theorem KS.drop (h : KS w0 Bs Rs W) {Bs' : List Bx} {Rs' : List Rl} (hb : ∀ x, x ∈ Bs' → x ∈ Bs) (hr : ∀ r, r ∈ Rs' → r ∈ Rs) : KS w0 Bs' Rs' W := ⟨h.bel, fun x hx => h.bs x (hb x hx), fun r hx => h.rs r (hr r hx)⟩
end
theorem cut_cells {w : World} {g : Nat} {v : Nat → Int} {al : Option Addr} {len cap : Nat} {T : TypeId} (h : Blk w g #[.int .u32 (v 0), .int .u32 (v 1), .int .u32 (v 2), .int .u32 (v 3), .int .u32 (v 4), .int .u32 (v 5), .int .u32 (v 6), .int .u32 (v 7), .slice al len cap] T) : w.cell? ⟨g, 0, none⟩ = some (.int .u32 (v 0)) ∧ w.cell? ⟨g, 1, none⟩ = some (.int .u32 (v 1)) ∧ w.cell? ⟨g, 2, none⟩ = some (.int .u32 (v 2)) ∧ w.cell? ⟨g, 3, none⟩ = some (.int .u32 (v 3)) ∧ w.cell? ⟨g, 4, none⟩ = some (.int .u32 (v 4)) ∧ w.cell? ⟨g, 5, none⟩ = some (.int .u32 (v 5)) ∧ w.cell? ⟨g, 6, none⟩ = some (.int .u32 (v 6)) ∧ w.cell? ⟨g, 7, none⟩ = some (.int .u32 (v 7)) ∧ w.cell? ⟨g, 8, none⟩ = some (.slice al len cap) :=
  ⟨by rw [Blk.cell h]; rfl, by rw [Blk.cell h]; rfl, by rw [Blk.cell h]; rfl, by rw [Blk.cell h]; rfl, by rw [Blk.cell h]; rfl, by rw [Blk.cell h]; rfl, by rw [Blk.cell h]; rfl, by rw [Blk.cell h]; rfl, by rw [Blk.cell h]; rfl⟩
theorem id_cells {w : World} {g : Nat} {o q : Int} {T : TypeId} (h : Blk w g #[.int .i64 o, .int .u32 q] T) : w.cell? ⟨g, 0, none⟩ = some (.int .i64 o) ∧ w.cell? ⟨g, 1, none⟩ = some (.int .u32 q) :=
  ⟨by rw [Blk.cell h]; rfl, by rw [Blk.cell h]; rfl⟩

/-! ### slices.Equal at names -/
set_option maxHeartbeats 400000 in
theorem equal_any (al al' : Option Addr) (len cap len' cap' : Nat) (L M : List (Int × Int)) (w : World) (h : Ids w al len cap L) (h' : Ids w al' len' cap' M) :
    Calls Try.prog 52 #[.slice al len cap, .slice al' len' cap'] w fun e w' => e = .returned (.bool (decide (L = M))) ∧ Below w.heap.size w w' := by
  have hcap := h.bd
  have hle := h.fit
  have HLL := Lib.hid h.ln
  have hcap' := h'.bd
  have hle' := h'.fit
  have HLL' := Lib.hid h'.ln
  have HI := Lib.hid h; clear h
  have HJ := Lib.hid h'; clear h'
  by_cases hlen : len = len'
  · subst hlen
    go_enter Try.func52, Try.ntmps52
    go_wp2
    go_loopw [13] (fun i wr => ∃ k : Nat, i = .int .i64 k ∧ k ≤ len ∧ (∀ j x y, j < k → L[j]? = some x → M[j]? = some y → x = y) ∧ Below w.heap.size w wr) (fun i _ => len - (intOf i).toNat)
    case atStart => exact ⟨0, rfl, by omega, fun j x y hj => by omega, Below.refl _ _⟩
    case round =>
      obtain ⟨k, rfl, hk, hold, hb⟩ := hrel
      have HV := Lib.hid hold; clear hold
      have HB := Lib.hid hb; clear hb
      by_cases hkl : k < len
      · obtain ⟨b, off, o, q, rfl, hx, i0, i1⟩ := ((HI.out.below HB.out).nth k hkl)
        obtain ⟨b', off', o', q', rfl, hy, j0, j1⟩ := ((HJ.out.below HB.out).nth k hkl)
        have HX := Lib.hid hx; clear hx
        have HY := Lib.hid hy; clear hy
        have heq := fun W => (same_id o q o' q' (.tmp 19) (.tmp 23) W).2.1
        have hgd := fun W => (same_id o q o' q' (.tmp 19) (.tmp 23) W).2.2.2
        by_cases hc : (o, q) = (o', q')
        · have hd : decide ((o, q) = (o', q')) = true := decide_eq_true hc
          simp only [hd, Bool.not_true] at heq
          have HC := Lib.hid hc
          clear hc hd
          go_wp2_with fail
          go_quiet (fail)
          go_wp2
          go_roundw
          case rel => exact ⟨k + 1, by go_num, by omega, fun j x y hj hx hy => by
            by_cases e : j = k
            · subst e; rw [HX.out] at hx; rw [HY.out] at hy; cases hx; cases hy; exact HC.out
            · exact HV.out j x y (by omega) hx hy, below_drewN HB.out _⟩
          case measure => simp [intOf]; omega
        · have hd : decide ((o, q) = (o', q')) = false := decide_eq_false hc
          simp only [hd, Bool.not_false] at heq
          have hv : Hid (decide (L = M) = false) := Lib.hid (decide_eq_false (list_ne HX.out HY.out hc))
          clear hc hd
          go_wp2_with fail
          go_quiet (fail)
          go_wp2
          go_ret
          exact ⟨by rw [hv.out]; rfl, below_drewN HB.out _⟩
      · have hv : Hid (decide (L = M) = true) := Lib.hid (decide_eq_true (list_eq (by have := HLL.out; have := HLL'.out; omega) fun j x y hj hx hy => HV.out j x y (by have := HLL.out; omega) hx hy))
        have hkk : (len : Int) ≤ k := by omega
        go_wp2
        go_ret
        exact ⟨by rw [hv.out]; rfl, HB.out⟩
  · have hv : Hid (decide (L = M) = false) := Lib.hid (decide_eq_false fun e => hlen (by rw [HLL.out, HLL'.out, e]))
    have hn : ((len : Int) != len') = true := by simp; omega
    clear hlen
    go_enter Try.func52, Try.ntmps52
    go_wp2
    go_ret
    exact ⟨by rw [hv.out]; rfl, Below.refl _ _⟩

/-! ### Same, Has: cut -/
set_option maxRecDepth 100000 in
set_option maxHeartbeats 1000000 in
theorem cSame_cut (a b : Nat → Int) (al al' : Option Addr) (len cap len' cap' : Nat) (A B : List (Int × Int)) (w : World) (hA : Ids w al len cap A) (hB : Ids w al' len' cap' B) :
    Calls Try.prog 25 #[.agg #[.int .u32 (a 0), .int .u32 (a 1), .int .u32 (a 2), .int .u32 (a 3), .int .u32 (a 4), .int .u32 (a 5), .int .u32 (a 6), .int .u32 (a 7), .slice al len cap], .agg #[.int .u32 (b 0), .int .u32 (b 1), .int .u32 (b 2), .int .u32 (b 3), .int .u32 (b 4), .int .u32 (b 5), .int .u32 (b 6), .int .u32 (b 7), .slice al' len' cap']] w fun e w' => e = .returned (.bool (eqC a A b B)) ∧ Below w.heap.size w w' := by
  have h0 := ((((KS.nil w).add hA).add hB).box rfl #[.int .u32 (a 0), .int .u32 (a 1), .int .u32 (a 2), .int .u32 (a 3), .int .u32 (a 4), .int .u32 (a 5), .int .u32 (a 6), .int .u32 (a 7), .slice al len cap] 31).box (g := w.heap.size + 1) (by simp) #[.int .u32 (b 0), .int .u32 (b 1), .int .u32 (b 2), .int .u32 (b 3), .int .u32 (b 4), .int .u32 (b 5), .int .u32 (b 6), .int .u32 (b 7), .slice al' len' cap'] 31
  have H0 := Lib.hid h0
  obtain ⟨a0, a1, a2, a3, a4, a5, a6, a7, a8⟩ := cut_cells (h0.blk 1 rfl)
  obtain ⟨b0, b1, b2, b3, b4, b5, b6, b7, b8⟩ := cut_cells (h0.blk 0 rfl)
  clear h0 hA hB
  have he : ∀ w, (Op.equalIn 10000 24 (.agg #[.int .u32 (a 0), .int .u32 (a 1), .int .u32 (a 2), .int .u32 (a 3), .int .u32 (a 4), .int .u32 (a 5), .int .u32 (a 6), .int .u32 (a 7)]) (.agg #[.int .u32 (b 0), .int .u32 (b 1), .int .u32 (b 2), .int .u32 (b 3), .int .u32 (b 4), .int .u32 (b 5), .int .u32 (b 6), .int .u32 (b 7)])).run Try.prog w = .ok (eqV a b) w := fun w => eql_vec 9998 a b w
  cases hab : eqV a b with
  | true =>
    have HE : Hid (eqC a A b B = decide (A = B)) := Lib.hid (by unfold eqC; rw [hab]; rfl)
    rw [hab] at he
    clear hab
    go_enter Try.func25, Try.ntmps25
    go_wp2_with fail
    refine (equal_any al al' len cap len' cap' A B _ (H0.out.ids 1 rfl) (H0.out.ids 0 rfl)).mono ?_
    rintro e w1 ⟨rfl, k1⟩
    have H1 := Lib.hid (H0.out.next k1); clear k1
    go_wp2
    go_ret
    exact ⟨by rw [HE.out]; rfl, H1.out.bel⟩
  | false =>
    have HE : Hid (eqC a A b B = false) := Lib.hid (by unfold eqC; rw [hab]; rfl)
    rw [hab] at he
    clear hab
    go_enter Try.func25, Try.ntmps25
    go_wp2
    go_ret
    exact ⟨by rw [HE.out]; rfl, H0.out.bel⟩

set_option maxRecDepth 100000 in
set_option maxHeartbeats 1000000 in
theorem cHas_cut (v : Nat → Int) (al : Option Addr) (len cap : Nat) (L : List (Int × Int)) (o q : Int) (w : World) (hL : Ids w al len cap L) :
    Calls Try.prog 18 #[.agg #[.int .u32 (v 0), .int .u32 (v 1), .int .u32 (v 2), .int .u32 (v 3), .int .u32 (v 4), .int .u32 (v 5), .int .u32 (v 6), .int .u32 (v 7), .slice al len cap], .agg #[.int .i64 o, .int .u32 q]] w fun e w' => e = .returned (.bool (hasC v L o q)) ∧ Below w.heap.size w w' := by
  have h0 := (((KS.nil w).add hL).box rfl #[.int .u32 (v 0), .int .u32 (v 1), .int .u32 (v 2), .int .u32 (v 3), .int .u32 (v 4), .int .u32 (v 5), .int .u32 (v 6), .int .u32 (v 7), .slice al len cap] 31).box (g := w.heap.size + 1) (by simp) #[.int .i64 o, .int .u32 q] 29
  have H0 := Lib.hid h0
  obtain ⟨a0, a1, a2, a3, a4, a5, a6, a7, a8⟩ := cut_cells (h0.blk 1 rfl)
  obtain ⟨b0, b1⟩ := id_cells (h0.blk 0 rfl)
  clear h0 hL
  cases hv : hasV v o q with
  | true =>
    have HE : Hid (hasC v L o q = true) := Lib.hid (by unfold hasC; rw [hv]; rfl)
    have HV := Lib.hid hv; clear hv
    go_enter Try.func18, Try.ntmps18
    go_wp2_with fail
    refine (has_any v o q _).mono ?_
    rw [HV.out]
    rintro e w1 ⟨rfl, k1⟩
    have H1 := Lib.hid (H0.out.next k1); clear k1
    go_wp2
    go_ret
    exact ⟨by rw [HE.out]; rfl, H1.out.bel⟩
  | false =>
    have HE : Hid (hasC v L o q = hasS L (o, q)) := Lib.hid (by unfold hasC; rw [hv]; rfl)
    have HV := Lib.hid hv; clear hv
    go_enter Try.func18, Try.ntmps18
    go_wp2_with fail
    refine (has_any v o q _).mono ?_
    rw [HV.out]
    rintro e w1 ⟨rfl, k1⟩
    have h1 := H0.out.next k1
    have H1 := Lib.hid h1
    have a8' := (cut_cells (h1.blk 1 rfl)).2.2.2.2.2.2.2.2
    obtain ⟨b0', b1'⟩ := id_cells (h1.blk 0 rfl)
    clear k1 h1
    go_wp2_with fail
    refine (has_list al len cap L o q _ (H1.out.ids 0 rfl)).mono ?_
    rintro e w2 ⟨rfl, k2⟩
    have H2 := Lib.hid (H1.out.next k2); clear k2
    go_wp2
    go_ret
    exact ⟨by rw [HE.out]; rfl, H2.out.bel⟩

/-! ### Same, Has: selkieref08 -/
set_option maxRecDepth 100000 in
set_option maxHeartbeats 1000000 in
theorem rSame_cut (a b : Nat → Int) (al al' : Option Addr) (len cap len' cap' : Nat) (A B : List (Int × Int)) (w : World) (hA : Ids w al len cap A) (hB : Ids w al' len' cap' B) :
    Calls Try.prog 14 #[.agg #[.int .u32 (a 0), .int .u32 (a 1), .int .u32 (a 2), .int .u32 (a 3), .int .u32 (a 4), .int .u32 (a 5), .int .u32 (a 6), .int .u32 (a 7), .slice al len cap], .agg #[.int .u32 (b 0), .int .u32 (b 1), .int .u32 (b 2), .int .u32 (b 3), .int .u32 (b 4), .int .u32 (b 5), .int .u32 (b 6), .int .u32 (b 7), .slice al' len' cap']] w fun e w' => e = .returned (.bool (eqC a A b B)) ∧ Below w.heap.size w w' := by
  have h0 := ((((KS.nil w).add hA).add hB).box rfl #[.int .u32 (a 0), .int .u32 (a 1), .int .u32 (a 2), .int .u32 (a 3), .int .u32 (a 4), .int .u32 (a 5), .int .u32 (a 6), .int .u32 (a 7), .slice al len cap] 27).box (g := w.heap.size + 1) (by simp) #[.int .u32 (b 0), .int .u32 (b 1), .int .u32 (b 2), .int .u32 (b 3), .int .u32 (b 4), .int .u32 (b 5), .int .u32 (b 6), .int .u32 (b 7), .slice al' len' cap'] 27
  have H0 := Lib.hid h0
  obtain ⟨a0, a1, a2, a3, a4, a5, a6, a7, a8⟩ := cut_cells (h0.blk 1 rfl)
  obtain ⟨b0, b1, b2, b3, b4, b5, b6, b7, b8⟩ := cut_cells (h0.blk 0 rfl)
  clear h0 hA hB
  have he : ∀ w, (Op.equalIn 10000 24 (.agg #[.int .u32 (a 0), .int .u32 (a 1), .int .u32 (a 2), .int .u32 (a 3), .int .u32 (a 4), .int .u32 (a 5), .int .u32 (a 6), .int .u32 (a 7)]) (.agg #[.int .u32 (b 0), .int .u32 (b 1), .int .u32 (b 2), .int .u32 (b 3), .int .u32 (b 4), .int .u32 (b 5), .int .u32 (b 6), .int .u32 (b 7)])).run Try.prog w = .ok (eqV a b) w := fun w => eql_vec 9998 a b w
  cases hab : eqV a b with
  | true =>
    have HE : Hid (eqC a A b B = decide (A = B)) := Lib.hid (by unfold eqC; rw [hab]; rfl)
    rw [hab] at he
    clear hab
    go_enter Try.func14, Try.ntmps14
    go_wp2_with fail
    refine (same_any al al' len cap len' cap' A B _ (H0.out.ids 1 rfl) (H0.out.ids 0 rfl)).mono ?_
    rintro e w1 ⟨rfl, k1⟩
    have H1 := Lib.hid (H0.out.next k1); clear k1
    go_wp2
    go_ret
    exact ⟨by rw [HE.out]; rfl, H1.out.bel⟩
  | false =>
    have HE : Hid (eqC a A b B = false) := Lib.hid (by unfold eqC; rw [hab]; rfl)
    rw [hab] at he
    clear hab
    go_enter Try.func14, Try.ntmps14
    go_wp2
    go_ret
    exact ⟨by rw [HE.out]; rfl, H0.out.bel⟩

set_option maxRecDepth 100000 in
set_option maxHeartbeats 1000000 in
theorem rHas_cut (v : Nat → Int) (al : Option Addr) (len cap : Nat) (L : List (Int × Int)) (o q : Int) (w : World) (hL : Ids w al len cap L) :
    Calls Try.prog 19 #[.agg #[.int .u32 (v 0), .int .u32 (v 1), .int .u32 (v 2), .int .u32 (v 3), .int .u32 (v 4), .int .u32 (v 5), .int .u32 (v 6), .int .u32 (v 7), .slice al len cap], .agg #[.int .i64 o, .int .u32 q]] w fun e w' => e = .returned (.bool (hasC v L o q)) ∧ Below w.heap.size w w' := by
  have h0 := (((KS.nil w).add hL).box rfl #[.int .u32 (v 0), .int .u32 (v 1), .int .u32 (v 2), .int .u32 (v 3), .int .u32 (v 4), .int .u32 (v 5), .int .u32 (v 6), .int .u32 (v 7), .slice al len cap] 27).box (g := w.heap.size + 1) (by simp) #[.int .i64 o, .int .u32 q] 29
  have H0 := Lib.hid h0
  obtain ⟨a0, a1, a2, a3, a4, a5, a6, a7, a8⟩ := cut_cells (h0.blk 1 rfl)
  obtain ⟨b0, b1⟩ := id_cells (h0.blk 0 rfl)
  clear h0 hL
  cases hv : hasV v o q with
  | true =>
    have HE : Hid (hasC v L o q = true) := Lib.hid (by unfold hasC; rw [hv]; rfl)
    have HV := Lib.hid hv; clear hv
    go_enter Try.func19, Try.ntmps19
    go_wp2_with fail
    refine (rhas_any v o q _).mono ?_
    rw [HV.out]
    rintro e w1 ⟨rfl, k1⟩
    have H1 := Lib.hid (H0.out.next k1); clear k1
    go_wp2
    go_ret
    exact ⟨by rw [HE.out]; rfl, H1.out.bel⟩
  | false =>
    have HE : Hid (hasC v L o q = hasS L (o, q)) := Lib.hid (by unfold hasC; rw [hv]; rfl)
    have HV := Lib.hid hv; clear hv
    go_enter Try.func19, Try.ntmps19
    go_wp2_with fail
    refine (rhas_any v o q _).mono ?_
    rw [HV.out]
    rintro e w1 ⟨rfl, k1⟩
    have h1 := H0.out.next k1
    have H1 := Lib.hid h1
    have a8' := (cut_cells (h1.blk 1 rfl)).2.2.2.2.2.2.2.2
    obtain ⟨b0', b1'⟩ := id_cells (h1.blk 0 rfl)
    clear k1 h1
    go_wp2_with fail
    refine (rHas_any al len cap L o q _ (H1.out.ids 0 rfl)).mono ?_
    rintro e w2 ⟨rfl, k2⟩
    have H2 := Lib.hid (H1.out.next k2); clear k2
    go_wp2
    go_ret
    exact ⟨by rw [HE.out]; rfl, H2.out.bel⟩
end Go.Proofs.Ythbdjgebpjffgaa
