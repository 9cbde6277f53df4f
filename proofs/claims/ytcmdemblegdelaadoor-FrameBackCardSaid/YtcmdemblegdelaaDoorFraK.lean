/-
  What the document's Read answers at whatever text. (Written by frarread.py.)
  Conditions: the text has at most 2^20 bytes.
-/
import Derived.Test.YtcmdemblegdelaaDoorFraJ
import Derived.RegionTactic
namespace Go.Proofs.YtcmdemblegdelaaDoor
open Go.RowKit


set_option maxRecDepth 100000 in
set_option maxHeartbeats 1000000 in
theorem rread_bad (s : ByteArray) (w : World) (hs : s.size ≤ 1048576) (h : ¬ xC s = 0) :
    Calls Tryd.prog 15 #[.string s] w fun e w' => e = .returned (.tuple #[.agg #[.int .i64 (0), .string (⟨#[]⟩)], .agg #[.int .i64 ((xAt s : Int)), .int .i64 (xC s)]]) ∧ Below w.heap.size w w' := by
  have hb : (xC s != 0) = true := by simpa using h
  clear h
  go_enter Tryd.func15, Tryd.ntmps15
  go_wp2_with fail
  refine (rnext_any s _ hs).mono ?_
  rintro e w1 ⟨rfl, b1⟩
  have hb := RB.new b1; clear b1
  have hz0 := Blk.lt hb.rs
  have hz1 := Blk.lt hb.rf
  have q0 := fcs0 hb.rs
  have q1 := fcs1 hb.rs
  have p0 := ecs0 hb.rf
  have p1 := ecs1 hb.rf
  have g0 := Blk.free hb.rs 0
  have g1 := Blk.free hb.rs 1
  have f0 := Blk.free hb.rf 0
  have f1 := Blk.free hb.rf 1
  have HB := Lib.hid hb; clear hb
  go_wp2
  go_region
  all_goals
    go_wp2
    refine bodyPost_ret (v := .tuple #[.agg #[.int .i64 (0), .string (⟨#[]⟩)], .agg #[.int .i64 ((xAt s : Int)), .int .i64 (xC s)]]) ?_ rfl ⟨rfl, ?_⟩
    · have hs0 := ((Blk.far2 (Blk.put2 (k' := 0) (l' := ⟨#[]⟩) HB.out.rs) (show w.heap.size ≠ w.heap.size + 1 by omega) (.int .i64 ((xAt s : Int))) (.int .i64 (xC s))).alloc (.cells #[.int .i64 (xK s : Int), .string (xL s)] 23)).alloc (.cells #[.int .i64 (xAt s : Int), .int .i64 (xC s)] 34)
      have hs1 := ((Blk.put2e (a' := (xAt s : Int)) (c' := xC s) (Blk.far2 HB.out.rf (show w.heap.size + 1 ≠ w.heap.size by omega) (.int .i64 (0)) (.string (⟨#[]⟩)))).alloc (.cells #[.int .i64 (xK s : Int), .string (xL s)] 23)).alloc (.cells #[.int .i64 (xAt s : Int), .int .i64 (xC s)] 34)
      have r0 := fcs0 hs0
      have r1 := fcs1 hs0
      have r2 := ecs0 hs1
      have r3 := ecs1 hs1
      clear hs0 hs1 q0 q1 p0 p1
      simp [results, Tryd.results15, go_sem, r0, r1, r2, r3]
    · first | exact RB.fin HB.out _ _ _ _ _ _ | exact (RB.fin HB.out _ _ _ _ _ _).drew


set_option maxRecDepth 100000 in
set_option maxHeartbeats 1000000 in
theorem rread_more (s : ByteArray) (w : World) (hs : s.size ≤ 1048576) (h : xC s = 0) (hm : xN s < s.size) :
    Calls Tryd.prog 15 #[.string s] w fun e w' => e = .returned (.tuple #[.agg #[.int .i64 (0), .string (⟨#[]⟩)], .agg #[.int .i64 ((xN s : Int)), .int .i64 (6)]]) ∧ Below w.heap.size w w' := by
  have hm1 : (xN s : Int) < s.size := by omega
  have hb : (xC s != 0) = false := by simpa using h
  clear h hm
  go_enter Tryd.func15, Tryd.ntmps15
  go_wp2_with fail
  refine (rnext_any s _ hs).mono ?_
  rintro e w1 ⟨rfl, b1⟩
  have hb := RB.new b1; clear b1
  have hz0 := Blk.lt hb.rs
  have hz1 := Blk.lt hb.rf
  have q0 := fcs0 hb.rs
  have q1 := fcs1 hb.rs
  have p0 := ecs0 hb.rf
  have p1 := ecs1 hb.rf
  have g0 := Blk.free hb.rs 0
  have g1 := Blk.free hb.rs 1
  have f0 := Blk.free hb.rf 0
  have f1 := Blk.free hb.rf 1
  have HB := Lib.hid hb; clear hb
  go_wp2
  all_goals
    refine bodyPost_ret (v := .tuple #[.agg #[.int .i64 (0), .string (⟨#[]⟩)], .agg #[.int .i64 ((xN s : Int)), .int .i64 (6)]]) ?_ rfl ⟨rfl, ?_⟩
    · have hs0 := ((Blk.far2 (Blk.put2 (k' := 0) (l' := ⟨#[]⟩) HB.out.rs) (show w.heap.size ≠ w.heap.size + 1 by omega) (.int .i64 ((xN s : Int))) (.int .i64 (6))).alloc (.cells #[.int .i64 (xK s : Int), .string (xL s)] 23)).alloc (.cells #[.int .i64 (xAt s : Int), .int .i64 (xC s)] 34)
      have hs1 := ((Blk.put2e (a' := (xN s : Int)) (c' := 6) (Blk.far2 HB.out.rf (show w.heap.size + 1 ≠ w.heap.size by omega) (.int .i64 (0)) (.string (⟨#[]⟩)))).alloc (.cells #[.int .i64 (xK s : Int), .string (xL s)] 23)).alloc (.cells #[.int .i64 (xAt s : Int), .int .i64 (xC s)] 34)
      have r0 := fcs0 hs0
      have r1 := fcs1 hs0
      have r2 := ecs0 hs1
      have r3 := ecs1 hs1
      clear hs0 hs1 q0 q1 p0 p1
      simp [results, Tryd.results15, go_sem, r0, r1, r2, r3]
    · first | exact RB.fin HB.out _ _ _ _ _ _ | exact (RB.fin HB.out _ _ _ _ _ _).drew


set_option maxRecDepth 100000 in
set_option maxHeartbeats 1000000 in
theorem rread_good (s : ByteArray) (w : World) (hs : s.size ≤ 1048576) (h : xC s = 0) (hm : ¬ xN s < s.size) :
    Calls Tryd.prog 15 #[.string s] w fun e w' => e = .returned (.tuple #[.agg #[.int .i64 ((xK s : Int)), .string (xL s)], .agg #[.int .i64 ((xAt s : Int)), .int .i64 (xC s)]]) ∧ Below w.heap.size w w' := by
  have hm1 : (s.size : Int) ≤ xN s := by omega
  have hb : (xC s != 0) = false := by simpa using h
  clear h hm
  go_enter Tryd.func15, Tryd.ntmps15
  go_wp2_with fail
  refine (rnext_any s _ hs).mono ?_
  rintro e w1 ⟨rfl, b1⟩
  have hb := RB.new b1; clear b1
  have hz0 := Blk.lt hb.rs
  have hz1 := Blk.lt hb.rf
  have q0 := fcs0 hb.rs
  have q1 := fcs1 hb.rs
  have p0 := ecs0 hb.rf
  have p1 := ecs1 hb.rf
  have g0 := Blk.free hb.rs 0
  have g1 := Blk.free hb.rs 1
  have f0 := Blk.free hb.rf 0
  have f1 := Blk.free hb.rf 1
  have HB := Lib.hid hb; clear hb
  go_wp2
  go_region
  all_goals
    go_wp2
    refine bodyPost_ret (v := .tuple #[.agg #[.int .i64 ((xK s : Int)), .string (xL s)], .agg #[.int .i64 ((xAt s : Int)), .int .i64 (xC s)]]) ?_ rfl ⟨rfl, ?_⟩
    · have hs0 := ((Blk.far2 (Blk.put2 (k' := (xK s : Int)) (l' := xL s) HB.out.rs) (show w.heap.size ≠ w.heap.size + 1 by omega) (.int .i64 ((xAt s : Int))) (.int .i64 (xC s))).alloc (.cells #[.int .i64 (xK s : Int), .string (xL s)] 23)).alloc (.cells #[.int .i64 (xAt s : Int), .int .i64 (xC s)] 34)
      have hs1 := ((Blk.put2e (a' := (xAt s : Int)) (c' := xC s) (Blk.far2 HB.out.rf (show w.heap.size + 1 ≠ w.heap.size by omega) (.int .i64 ((xK s : Int))) (.string (xL s)))).alloc (.cells #[.int .i64 (xK s : Int), .string (xL s)] 23)).alloc (.cells #[.int .i64 (xAt s : Int), .int .i64 (xC s)] 34)
      have r0 := fcs0 hs0
      have r1 := fcs1 hs0
      have r2 := ecs0 hs1
      have r3 := ecs1 hs1
      clear hs0 hs1 q0 q1 p0 p1
      simp [results, Tryd.results15, go_sem, r0, r1, r2, r3]
    · first | exact RB.fin HB.out _ _ _ _ _ _ | exact (RB.fin HB.out _ _ _ _ _ _).drew


theorem rread_any (s : ByteArray) (w : World) (hs : s.size ≤ 1048576) :
    Calls Tryd.prog 15 #[.string s] w fun e w' => e = .returned (.tuple #[.agg #[.int .i64 (yK s : Int), .string (yL s)], .agg #[.int .i64 (yAt s : Int), .int .i64 (yC s)]]) ∧ Below w.heap.size w w' := by
  by_cases h : xC s = 0
  · by_cases hm : xN s < s.size
    · have e1 : yC s = 6 := by unfold yC; rw [if_pos h, if_pos hm]
      have e2 : yAt s = xN s := by unfold yAt; rw [if_pos h, if_pos hm]
      have e3 : yK s = 0 := by unfold yK; rw [if_neg (by rw [e1]; decide)]
      have e4 : yL s = ⟨#[]⟩ := by unfold yL; rw [if_neg (by rw [e1]; decide)]
      rw [e1, e2, e3, e4]
      exact rread_more s w hs h hm
    · have e1 : yC s = 0 := by unfold yC; rw [if_pos h, if_neg hm]
      have e2 : yAt s = 0 := by unfold yAt; rw [if_pos h, if_neg hm]
      have e3 : yK s = xK s := by unfold yK; rw [if_pos e1]
      have e4 : yL s = xL s := by unfold yL; rw [if_pos e1]
      rw [e1, e2, e3, e4]
      have := rread_good s w hs h hm
      rw [xAt_good h, h] at this
      exact this
  · have e1 : yC s = xC s := by unfold yC; rw [if_neg h]
    have e2 : yAt s = xAt s := by unfold yAt; rw [if_neg h]
    have e3 : yK s = 0 := by unfold yK; rw [if_neg (by rw [e1]; exact h)]
    have e4 : yL s = ⟨#[]⟩ := by unfold yL; rw [if_neg (by rw [e1]; exact h)]
    rw [e1, e2, e3, e4]
    exact rread_bad s w hs h

end Go.Proofs.YtcmdemblegdelaaDoor
