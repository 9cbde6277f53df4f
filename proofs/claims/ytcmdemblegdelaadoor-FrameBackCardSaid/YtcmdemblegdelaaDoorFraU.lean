/-
  The walk of the law FrameBack.
  Conditions: the numbers fit their kinds; package errors' own variable holds the handle of the type error.
-/
import Derived.Test.YtcmdemblegdelaaDoorFraR
import Derived.Test.YtcmdemblegdelaaDoorFraT
import Derived.IntWalk
namespace Go.Proofs.YtcmdemblegdelaaDoor
open Go.RowKit

/-- Two frames lie in blocks: the one that came in, the one that was read. -/
structure BS (W : World) (b3 b9 : Nat) (k : Int) (l : ByteArray) (w : World) : Prop where
  f3 : Blk w b3 (fcs k l) 23
  f9 : Blk w b9 (fcs k l) 28
  bel : Below W.heap.size W w
section
variable {W w : World} {b3 b9 : Nat} {k : Int} {l : ByteArray}
theorem BS.drew (h : BS W b3 b9 k l w) : BS W b3 b9 k l w.drew := ⟨h.f3, h.f9, h.bel.drew⟩
theorem BS.all (h : BS W b3 b9 k l w) : w.cell? ⟨b3, 0, none⟩ = some (.int .i64 k) ∧ w.cell? ⟨b3, 1, none⟩ = some (.string l) ∧ w.cell? ⟨b9, 0, none⟩ = some (.int .i64 k) ∧ w.cell? ⟨b9, 1, none⟩ = some (.string l) ∧ BS W b3 b9 k l w :=
  ⟨fcs0 h.f3, fcs1 h.f3, fcs0 h.f9, fcs1 h.f9, h⟩
theorem BS.held {A B C D : Prop} (h : A ∧ B ∧ C ∧ D ∧ BS W b3 b9 k l w) : BS W b3 b9 k l w := h.2.2.2.2
theorem from_BS (h : BS W b3 b9 k l w) :
    Calls Tryd.prog 13 #[.agg #[.int .i64 k, .string l]] w fun e w' => e = .returned (.agg #[.int .i64 k, .string l]) ∧ BS W b3 b9 k l w' :=
  (from_any k l w).mono fun _ _ ⟨h1, h2⟩ => ⟨h1, Blk.below h.f3 h2, Blk.below h.f9 h2, below_then h.bel h2⟩
end

theorem Tryd.fieldE (a c : Int) (W : World) : (Instr.field 34 (.agg #[.int .i64 a, .int .i64 c]) 1).run Tryd.prog W = .ok (.int .i64 c) W := by kernel_rfl

set_option maxRecDepth 100000 in
set_option maxHeartbeats 2000000 in
theorem back_bad (k : Int) (l more : ByteArray) (cut : Int) (w : World) (hg : Handle w) (hl : l.size ≤ 6000) (hm : more.size ≤ 1000) (hc : ¬ wC k l = 0) :
    Calls Tryd.prog 5 #[.agg #[.int .i64 k, .string l], .string more, .int .i64 cut] w fun e w' => e = .returned (.bool true) ∧ Below w.heap.size w w' := by
  have HW := fun o => Lib.hid (fworks_any (w.alloc o) (hg.alloc o))
  have hs : wS k l = ⟨#[]⟩ := by unfold wS; rw [if_neg hc]
  have he : errE (wC k l) = .iface 30 (.int .i64 (wC k l)) := by unfold errE; rw [if_neg hc]
  have HS := Lib.hid hs; clear hs
  have HE := Lib.hid he; clear he hc
  go_enter Tryd.func5, Tryd.ntmps5
  go_wp2_with fail
  refine (HW _).out.mono ?_
  rintro e w1 ⟨rfl, b1⟩
  have h3 : Blk w1 w.heap.size (fcs k l) 23 := Blk.below (Blk.new w _ _) b1
  have g1 : Below w.heap.size w w1 := below_then ((Below.refl _ _).alloc (Nat.le_refl _) _) b1
  have c0 := fcs0 h3
  have c1 := fcs1 h3
  clear b1 h3
  go_wp2_with fail
  refine (to_any k l _).mono ?_
  rintro e w2 ⟨rfl, b2⟩
  have g2 := below_then g1 b2; clear g1 b2
  go_wp2_with fail
  refine (write_any k l _ (by omega)).mono ?_
  rw [HS.out, HE.out]
  rintro e w3 ⟨rfl, b3⟩
  have g3 := below_then g2 b3; clear g2 b3
  go_wp2
  go_ret
  exact ⟨rfl, g3⟩

set_option maxRecDepth 100000 in
set_option maxHeartbeats 4000000 in
theorem back_good (n : Nat) (l more : ByteArray) (cut : Int) (w : World) (hg : Handle w) (h0 : 1 ≤ n) (h1 : n ≤ 99) (hl : l.size ≤ 4096) (hm : more.size ≤ 1000) :
    Calls Tryd.prog 5 #[.agg #[.int .i64 n, .string l], .string more, .int .i64 cut] w fun e w' => e = .returned (.bool true) ∧ Below w.heap.size w w' := by
  have HW := fun o => Lib.hid (fworks_any (w.alloc o) (hg.alloc o))
  have HG := Lib.hid hg; clear hg
  have hE := encS_size h1 hl
  have hE0 : 0 < (encS n l).size := by rw [encS_pre, seal_size]; omega
  obtain ⟨x1, x2, x3, x4⟩ := enc_back more h0 h1 hl
  have hadd : ∀ W, (Op.stringOp .add (encS n l) more).run Tryd.prog W = .ok (.string (encS n l ++ more)) W := fun W => run_string_add_sum W _ _ (by omega)
  have HZ : Hid ((encS n l ++ more).size ≤ 1048576) := Lib.hid (by rw [ByteArray.size_append]; omega)
  have HX1 := Lib.hid x1
  have HX2 := Lib.hid x2
  have HX3 := Lib.hid x3
  have HX4 := Lib.hid x4
  clear x1 x2 x3 x4
  obtain ⟨m, hmw⟩ : ∃ m : Nat, IntKind.u64.wrap cut = (m : Int) := ⟨(IntKind.u64.wrap cut).toNat, by have := IntKind.wrap_u64 cut; rw [this]; omega⟩
  obtain ⟨j, hj⟩ : ∃ j, j = m % (encS n l).size := ⟨_, rfl⟩
  have hjl : j < (encS n l).size := by rw [hj]; exact Nat.mod_lt _ hE0
  have hrem : Int.tmod (m : Int) ((encS n l).size : Int) = (j : Int) := by rw [hj]; rfl
  have HCUT := Lib.hid (enc_cut h0 h1 hl hjl)
  have HCS : Hid (((encS n l).extract 0 j).size ≤ 1048576) := Lib.hid (by rw [ext_size2 _ (Nat.le_of_lt hjl)]; omega)
  have HWR := Lib.hid (write_good n l)
  clear hj
  generalize encS n l = E at *
  have hEz : ((E.size : Int) == 0) = false := beq_eq_false_iff_ne.2 (by omega)
  have hEn : ¬ (E.size : Int) = 0 := by omega
  have hE1 : (E.size : Int) ≤ 4118 := by omega
  have hj1 : (j : Int) < E.size := by omega
  have hfd := Tryd.fieldE
  go_enter Tryd.func5, Tryd.ntmps5
  go_wp2_with fail
  refine (HW _).out.mono ?_
  rintro e w1 ⟨rfl, b1⟩
  have h3 : Blk w1 w.heap.size (fcs n l) 23 := Blk.below (Blk.new w _ _) b1
  have g1 : Below w.heap.size w w1 := below_then ((Below.refl _ _).alloc (Nat.le_refl _) _) b1
  have c0 := fcs0 h3
  have c1 := fcs1 h3
  have H3 := Lib.hid h3; clear b1 h3
  go_wp2_with fail
  refine (to_any n l _).mono ?_
  rintro e w2 ⟨rfl, b2⟩
  have g2 := below_then g1 b2
  have h3 := Blk.below H3.out b2
  clear H3 g1 b2 c0 c1
  have H3 := Lib.hid h3; clear h3
  go_wp2_with fail
  refine (HWR.out _ h0 h1 hl).mono ?_
  rintro e w3 ⟨rfl, b3⟩
  have g3 := below_then g2 b3
  have h3 := Blk.below H3.out b3
  clear H3 g2 b3
  have H3 := Lib.hid h3; clear h3
  go_wp2_with fail
  refine (next_good _ _ HZ.out HX1.out).mono ?_
  rw [HX2.out, HX3.out, HX4.out]
  rintro e w4 ⟨rfl, b4⟩
  have hB : BS w w.heap.size w4.heap.size n l (w4.alloc (.cells #[.int .i64 n, .string l] 28)) := ⟨Blk.alloc (Blk.below H3.out b4) _, Blk.new _ _ _, below_new (below_then g3 b4) _⟩
  clear H3 g3 b4
  go_wp2
  go_region_held3 (fun w' => w'.cell? ⟨w.heap.size, 0, none⟩ = some (.int .i64 n) ∧ w'.cell? ⟨w.heap.size, 1, none⟩ = some (.string l) ∧ w'.cell? ⟨w4.heap.size, 0, none⟩ = some (.int .i64 n) ∧ w'.cell? ⟨w4.heap.size, 1, none⟩ = some (.string l) ∧ BS w w.heap.size w4.heap.size n l w') (first | exact BS.all (by assumption) | exact BS.all (BS.drew (by assumption))) (first | (go_at_call 13; refine (from_BS (W := w) (b3 := w.heap.size) (b9 := w4.heap.size) (k := n) (l := l) (by first | assumption | exact BS.held (by assumption))).mono ?_; rintro e w5 ⟨rfl, hB5⟩))
  have hy : BS w w.heap.size w4.heap.size n l w5 := by assumption
  clear hB hB5
  have g5 := hy.bel; clear hy
  go_wp2_with fail
  refine (next_bad (E.extract 0 j) _ HCS.out (by rw [HCUT.out]; decide)).mono ?_
  rw [HCUT.out]
  rintro e w6 ⟨f, rfl, _, hf, b6⟩
  have g6 := below_new (below_then g5 b6) (.cells #[.int .i64 0, .string ⟨#[]⟩] 28)
  have hf6 := Blk.alloc hf (.cells #[.int .i64 0, .string ⟨#[]⟩] 28)
  clear hf b6 g5
  have HF6 := Lib.hid hf6; clear hf6
  go_wp2_with fail
  refine (seen_some f (xAt (E.extract 0 j)) 1 _ (HG.out.below g6 HG.out.lt) HF6.out (Nat.le_trans (xAt_le _) HCS.out) (by decide)).mono ?_
  rintro e w7 ⟨rfl, b7⟩
  have g7 := below_then g6 b7
  have HF7 := Lib.hid (Blk.below HF6.out b7)
  clear g6 b7 HF6
  go_wp2_with fail
  refine (torn_any (is_fault f _ _ HF7.out)).mono ?_
  rintro e w8 ⟨rfl, rfl⟩
  have g8 := below_new g7 (.cells #[.int .i64 1, .iface 56 (.pointer (some ⟨f, 0, none⟩))] 58)
  have hn8 := nst_new w8 1 f
  have HF8 := Lib.hid (Blk.alloc HF7.out (.cells #[.int .i64 1, .iface 56 (.pointer (some ⟨f, 0, none⟩))] 58))
  have HN8 := Lib.hid hn8; clear hn8
  go_wp2_with fail
  refine (torn_any (is_nst w8.heap.size f 1 _ _ HN8.out HF8.out)).mono ?_
  rintro e w9 ⟨rfl, rfl⟩
  go_wp2_with fail
  refine (torn_any (is_nil _)).mono ?_
  rintro e w10 ⟨rfl, rfl⟩
  go_wp2_with fail
  refine (torn_any (is_sum _)).mono ?_
  rintro e w11 ⟨rfl, rfl⟩
  go_wp2
  go_ret
  exact ⟨rfl, g8⟩

theorem frameBack_walk (k : Int) (l more : ByteArray) (cut : Int) (w : World) (hg : Handle w) (_hk : (Lit.int .i64 k).wf = true) (hl : l.size ≤ maxLen) (hm : more.size ≤ maxLen) (_hc : (Lit.int .i64 cut).wf = true) :
    Calls Tryd.prog 5 #[.agg #[.int .i64 k, .string l], .string more, .int .i64 cut] w fun e w' => e = .returned (.bool true) ∧ Below w.heap.size w w' := by
  unfold maxLen at hl hm
  by_cases h6 : 6000 < l.size
  · have HW := fun o => Lib.hid (fworks_any (w.alloc o) (hg.alloc o))
    go_enter Tryd.func5, Tryd.ntmps5
    go_wp2_with fail
    refine (HW _).out.mono ?_
    rintro e w1 ⟨rfl, b1⟩
    have h3 : Blk w1 w.heap.size (fcs k l) 23 := Blk.below (Blk.new w _ _) b1
    have c1 := fcs1 h3
    have g1 : Below w.heap.size w w1 := below_then ((Below.refl _ _).alloc (Nat.le_refl _) _) b1
    clear b1 h3
    go_wp2
    go_ret
    exact ⟨rfl, g1⟩
  · by_cases h1 : 1000 < more.size
    · have HW := fun o => Lib.hid (fworks_any (w.alloc o) (hg.alloc o))
      go_enter Tryd.func5, Tryd.ntmps5
      go_wp2_with fail
      refine (HW _).out.mono ?_
      rintro e w1 ⟨rfl, b1⟩
      have h3 : Blk w1 w.heap.size (fcs k l) 23 := Blk.below (Blk.new w _ _) b1
      have c1 := fcs1 h3
      have g1 : Below w.heap.size w w1 := below_then ((Below.refl _ _).alloc (Nat.le_refl _) _) b1
      clear b1 h3
      go_wp2
      go_ret
      exact ⟨rfl, g1⟩
    · by_cases hc : wC k l = 0
      · have hk : ¬ (k < 1 ∨ 99 < k) := fun h => by rw [wC_kind h] at hc; simp at hc
        have hl4 : ¬ 4096 < l.size := fun h => by rw [wC_long hk h] at hc; simp at hc
        obtain ⟨n, rfl⟩ : ∃ n : Nat, k = n := ⟨k.toNat, by omega⟩
        exact back_good n l more cut w hg (by omega) (by omega) (by omega) (by omega)
      · exact back_bad k l more cut w hg (by omega) (by omega) hc
end Go.Proofs.YtcmdemblegdelaaDoor
