/-
  The library's slices.Grow of nothing and slices.Concat of two lists of names.
  Conditions: none.
-/
import Derived.Test.YthbdjgebpjffgaaCuB
import Derived.Test.YthbdjgebpjffgaaDotP
import Derived.Test.YthbdjgebpjffgaaVecK
import Derived.Shelf.Spec.SlicesGrow
set_option linter.unusedVariables false
set_option linter.unusedSimpArgs false
namespace Go.Proofs
open Go.Shelf
def Try.layGrow_ren : Go.Shelf.Ren := ⟨fun | 4 => 70 | n => n, fun | 0 => 0 | 1 => 1 | 3 => 3 | 4 => 4 | 9 => 9 | 20 => 20 | 22 => 25 | 25 => 29 | n => n, fun n => n⟩
set_option maxRecDepth 100000 in
theorem Try.layGrow : Go.Proofs.Lays8.n4 Try.prog Try.layGrow_ren := {
  mixed := by kernel_rfl
  f4 := ⟨Try.f70.name, by kernel_rfl, Try.func70.trans (congrArg some (by kernel_rfl))⟩
  t0 := Try.underlying0
  a0 := Try.isAgg0
  z0 := Try.sizeOf0
  v0 := Try.zeroValue0
  t3 := Try.underlying3
  a3 := Try.isAgg3
  z3 := Try.sizeOf3
  v3 := Try.zeroValue3
  t4 := Try.underlying4
  a4 := Try.isAgg4
  z4 := Try.sizeOf4
  v4 := Try.zeroValue4
  t9 := Try.underlying9
  a9 := Try.isAgg9
  z9 := Try.sizeOf9
  v9 := Try.zeroValue9
  t20 := Try.underlying20
  a20 := Try.isAgg20
  z20 := Try.sizeOf20
  v20 := Try.zeroValue20
  t22 := Try.underlying25
  a22 := Try.isAgg25
  z22 := Try.sizeOf25
  v22 := Try.zeroValue25 }
end Go.Proofs
namespace Go.Proofs.Ythbdjgebpjffgaa
open Go.RowKit Go.Shelf Go.Lib Go.Sort

/-- slices.Grow of nil: nil, or a new row with room. -/
theorem grow_any (n : Nat) (w : World) (hn : n ≤ 1048576) :
    Calls Try.prog 70 #[.slice none 0 0, .int .i64 (n : Int)] w fun e w' => ∃ v, e = .returned v ∧ w'.ownsRow w.heap.size 29 2 v 0 (idCs []) ∧ Below w.heap.size w w' := by
  obtain ⟨ti, hi, hz0, hz1, hz2⟩ := info_parts Try.infoId
  rcases Nat.eq_zero_or_pos n with rfl | hp
  · refine (Any8.slices_Grow_room Try.layGrow none 0 0 0 w (Nat.le_refl _) (by omega) (by omega) (Nat.le_refl _)).mono ?_
    rintro e w' ⟨rfl, rfl⟩
    exact ⟨_, rfl, World.ownsRow_nil _ _ _ _, Below.refl _ _⟩
  · refine (Any8.slices_Grow_grow Try.layGrow ti (.agg #[.int .i64 0, .int .u32 0]) hi hz0 (by rw [hz1]; decide) none 0 0 n [] w (Nat.le_refl _) (by omega) (by rw [hz2]; omega) (by omega) (by simp) (fun _ => rfl) nofun).mono ?_
    rintro e w' ⟨rfl, rfl⟩
    refine ⟨_, rfl, ⟨rfl, .inr ⟨w.heap.size, _, _, rfl, Nat.le_refl _, Blk.new w.drew _ _, ?_, ?_, ?_, ?_⟩⟩, (Below.refl w.heap.size w).drew.alloc (by simp) _⟩
    · omega
    · exact grownCap_le_maxLen w _ _ _ (by unfold maxLen; omega)
    · have := grownCap_ge w (0 + n) 0 29
      simp only [Array.size_append, size_zeroCells, Value.cells]
      show 0 + (0 + n - 0) * 2 + (grownCap w (0 + n) 0 29 - (0 + n)) * 2 = grownCap w (0 + n) 0 29 * 2
      omega
    · simp [idCs]

/-- append of a list of names to a row of the call's own, whatever both are. -/
theorem wpList_append_list {w : World} {ops : Array Oper} {rest : List Oper} {o : Oper} {a : Act} {Q : Exit → Act → World → Prop} (hgd : o.guard = none) (s x : Operand)
    (ho : o.op = .call { callee := .builtin .append, args := #[s, x], argTypes := #[25, 25] })
    (base : Nat) (i : TypeInfo) (hi : Try.prog.info? 29 = some i) (hz : i.zero = some (.agg #[.int .i64 0, .int .u32 0])) (hsize : i.size = 2) (hby : i.bytes = 16)
    (v : Value) (n : Nat) (N : List (Int × Int)) (hs : a.eval s = v) (hown : w.ownsRow base 29 2 v n (idCs N))
    (ad : Option Addr) (m c : Nat) (L : List (Int × Int)) (hx : a.eval x = .slice ad m c) (hsrc : Ids w ad m c L)
    (hl : n + m ≤ 1048576) (hbase : base ≤ w.heap.size)
    (h : ∀ v' w', w'.ownsRow base 29 2 v' (n + m) (idCs (N ++ L)) → w.grownBy w' v.ownBlock → wpList Try.prog ops Q rest (a.put o.dst v') w') : wpList Try.prog ops Q (o :: rest) a w := by
  cases ad with
  | none =>
    obtain rfl : m = 0 := by
      rcases Nat.eq_zero_or_pos m with e | e
      · exact e
      · obtain ⟨_, _, _, _, k, _⟩ := hsrc.nth 0 e; cases k
    obtain rfl : c = 0 := hsrc.nn rfl
    obtain rfl : L = [] := List.length_eq_zero_iff.1 hsrc.ln.symm
    refine wpList_append_own_none hgd s x 25 ho base 29 i 2 Try.underlying25 hi _ n (idCs N) hs hown hx ?_
    exact h v w (by simpa using hown) ⟨rfl, rfl, rfl, Nat.le_refl _, fun _ _ _ => rfl⟩
  | some ad =>
    refine wpList_append_own w hgd s x 25 ho base 29 i (.agg #[.int .i64 0, .int .u32 0]) 2 16 Try.underlying25 hi hz hsize hby rfl (by decide) v n (idCs N) hs hown ad m c (idCs L) hx (by rw [idCs_len, hsrc.ln]) hsrc.src (idCs_one L) (by unfold maxLen; omega) (by omega) hbase ?_
    intro v' w' hown' hgrow _
    exact h v' w' (by rw [idCs_app]; exact hown') hgrow

theorem own_part {w : World} {B e size n : Nat} {v : Value} {xs : List Value} (h : w.ownsRow B e size v n xs) {g : Nat} (hg : g < B) : some g ≠ v.ownBlock := fun e' => by
  have := own_base h g e'.symm; omega

set_option maxRecDepth 100000 in
set_option maxHeartbeats 2000000 in
theorem concat_any (g : Nat) (al al' : Option Addr) (l c l' c' : Nat) (A B : List (Int × Int)) (w : World) (hb : Blk w g #[.slice al l c, .slice al' l' c'] 25) (hA : Ids w al l c A) (hB : Ids w al' l' c' B) (hl : l + l' ≤ 1048576) :
    Calls Try.prog 40 #[.slice (some ⟨g, 0, none⟩) 2 2] w fun e w' => ∃ al2 cap2, e = .returned (.slice al2 (A ++ B).length cap2) ∧ Ids w' al2 (A ++ B).length cap2 (A ++ B) ∧ Flat al2 ∧ Below w.heap.size w w' := by
  obtain ⟨ti, hi, hz0, hz1, hz2⟩ := info_parts Try.infoId
  have hgl := hb.lt
  have c0 : w.cell? ⟨g, 0, none⟩ = some (.slice al l c) := by rw [Blk.cell hb]; rfl
  have c1 : w.cell? ⟨g, 1, none⟩ = some (.slice al' l' c') := by rw [Blk.cell hb]; rfl
  have HA := Lib.hid hA
  have HB := Lib.hid hB
  have HK := Lib.hid hb
  have HGR := Lib.hid (grow_any (l + l') w hl)
  have w1 : IntKind.i64.wrap ((l : Int) + (l' : Int)) = ((l + l' : Nat) : Int) := by rw [IntKind.wrap_i64]; omega
  have n1 : ¬ ((l : Int) < 0) := by omega
  have n2 : ¬ (((l + l' : Nat) : Int) < 0) := by omega
  clear hA hB hb
  go_enter Try.func40, Try.ntmps40
  go_wp2
  refine wp_loop_rounds 3 ?_
  rw [rounds_succ]
  go_wp2
  rw [rounds_succ]
  go_wp2
  rw [rounds_succ]
  go_wp2_with fail
  refine HGR.out.mono ?_
  rintro e wa ⟨v, rfl, hov, ba⟩
  have HOV := Lib.hid hov
  have d0 : wa.cell? ⟨g, 0, none⟩ = some (.slice al l c) := by rw [Blk.cell (HK.out.below ba)]; rfl
  have d1 : wa.cell? ⟨g, 1, none⟩ = some (.slice al' l' c') := by rw [Blk.cell (HK.out.below ba)]; rfl
  have HAa := Lib.hid (HA.out.below ba)
  have HBa := Lib.hid (HB.out.below ba)
  have HKa := Lib.hid (HK.out.below ba)
  have HW := Lib.hid ba
  have hsa := ba.size
  clear hov ba c0 c1
  go_wp2
  refine wp_loop_rounds 3 ?_
  rw [rounds_succ]
  go_wp2_with (at_builtin; refine wpList_append_list rfl (.tmp 31) (.tmp 32) rfl w.heap.size ti hi hz0 hz1 hz2 _ _ [] rfl HOV.out al l c A rfl HAa.out (by omega) hsa ?_)
  intro vb wb hob hgb
  have HOB := Lib.hid hob
  have HWb : Hid (Below w.heap.size w wb) := Lib.hid (HW.out.grown hgb hsa (fun k hk => by have := own_base HOV.out k hk; omega))
  have HKb : Hid (Blk wb g #[.slice al l c, .slice al' l' c'] 25) := Lib.hid ((hgb.block g (by omega) (own_part HOV.out hgl)).trans HKa.out)
  have d1 : wb.cell? ⟨g, 1, none⟩ = some (.slice al' l' c') := by rw [Blk.cell HKb.out]; rfl
  have HBb := Lib.hid (HB.out.below HWb.out)
  have hsb := HWb.out.size
  clear hob hgb d0
  go_wp2
  rw [rounds_succ]
  go_wp2_with (at_builtin; refine wpList_append_list rfl (.tmp 31) (.tmp 32) rfl w.heap.size ti hi hz0 hz1 hz2 _ _ A rfl HOB.out al' l' c' B rfl HBb.out (by omega) hsb ?_)
  intro vc wc hoc hgc
  have HWc : Hid (Below w.heap.size w wc) := Lib.hid (HWb.out.grown hgc hsb (fun k hk => by have := own_base HOB.out k hk; omega))
  obtain ⟨hlc, alc, capc, rfl, hIc, hFc⟩ := own_ids hoc
  have HIc := Lib.hid hIc
  clear hoc hgc hIc d1
  generalize hnn : (A ++ B).length = nn at HIc ⊢
  have HNN := Lib.hid hnn; clear hnn
  go_wp2
  rw [rounds_succ]
  go_wp2
  go_ret
  exact ⟨alc, capc, by rw [HNN.out]; rfl, by rw [HNN.out]; exact HIc.out, hFc, HWc.out⟩
end Go.Proofs.Ythbdjgebpjffgaa
