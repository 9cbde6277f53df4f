/-
  What the document's Next answers where the load can't be decoded; and at whatever text. (Written by frarnext.py.)
  Conditions: the text has at most 2^20 bytes.
-/
import Derived.Test.YtcmdemblegdelaaDoorFraG
import Derived.RegionTactic
namespace Go.Proofs.YtcmdemblegdelaaDoor
open Go.RowKit

set_option maxRecDepth 100000 in
set_option maxHeartbeats 1000000 in
theorem rnext_c (s : ByteArray) (w : World) (hs : s.size ≤ 1048576) (hc : iC s 0 99 = 0) (hv : ¬ iV s 0 99 = 0) (ht : ¬ tC s (iP s) 4096 = 0) :
    Calls Tryd.prog 12 #[.string s] w fun e w' => e = .returned (.tuple #[.agg #[.int .i64 (0), .string (⟨#[]⟩)], .int .i64 (0), .agg #[.int .i64 ((iP s : Int)), .int .i64 (tC s (iP s) 4096)]]) ∧ Below w.heap.size w w' := by
  have HV1 : Hid (iV' s 0 99 0 = iV s 0 99) := Lib.hid rfl
  have HA1 : Hid (iA' s 0 99 0 = iP s) := Lib.hid rfl
  have HC1 : Hid (iC' s 0 99 0 = 0) := Lib.hid hc
  have HV2 : Hid (tV' s (iP s) 4096 0 = ⟨#[]⟩) := Lib.hid (tV_bad ht)
  have HA2 : Hid (tA' s (iP s) 4096 0 = iP s) := Lib.hid (tA_bad ht)
  have HC2 : Hid (tC' s (iP s) 4096 0 = tC s (iP s) 4096) := Lib.hid rfl
  have HLE := Lib.hid (iP_le s)
  have hv' : ((iV s 0 99 : Int) == 0) = false := by simpa using hv
  have hf : fA (iP s) (tC s (iP s) 4096) = iP s := by unfold fA; rw [if_neg ht]
  have hb2 : (tC s (iP s) 4096 != 0) = true := by simpa using ht
  clear hc hv ht
  go_enter Tryd.func12, Tryd.ntmps12
  have hr1 : RR (((w.alloc (.cells #[.int .i64 0, .string ⟨#[]⟩] 23)).alloc (.cells #[.int .i64 0, .int .i64 0] 34)).alloc (.cells #[.string s, .int .i64 0, .int .i64 0, .int .i64 0] 75)) (w.heap.size + 2) s 0 (fA 0 0) 0 := by
    have := Blk.new ((w.alloc (.cells #[.int .i64 0, .string ⟨#[]⟩] 23)).alloc (.cells #[.int .i64 0, .int .i64 0] 34)) #[.string s, .int .i64 0, .int .i64 0, .int .i64 0] 75
    simpa [RR, fA] using this
  have HR1 := Lib.hid hr1; clear hr1
  go_wp2_with fail
  refine (rInt_any (w.heap.size + 2) 0 s 99 0 _ HR1.out (by omega) hs (by omega)).mono ?_
  rw [HV1.out, HA1.out, HC1.out]
  rintro e w2 ⟨rfl, hr2, ho2⟩
  have hn2 := NR.new HR1.out hr2 ho2 (iV s 0 99 : Int)
  have hz2 := NR.zold hr2 ho2
  have HR := Lib.hid hz2; clear hz2
  clear HR1 hr2 ho2
  have r1 := hn2.r1
  have r3 := hn2.r3
  have c0 := hn2.c0
  have HN2 := Lib.hid hn2; clear hn2
  go_wp2_with fail
  refine (rText_any (w.heap.size + 2) (iP s) s 4096 (0) _ HN2.out.rr HLE.out hs (by omega)).mono ?_
  rw [HV2.out, HA2.out, HC2.out]
  rintro e w4 ⟨rfl, hr4, ho4⟩
  clear r1 r3 c0
  have hn3 := HN2.out.right hr4 ho4; clear HN2 hr4 ho4
  have f1 := Blk.free hn3.fr 1
  have c0 := hn3.c0
  have c1 := hn3.c1
  have hn4 := hn3.load ⟨#[]⟩; clear hn3
  have r1 := hn4.r1
  have r2 := hn4.r2
  have r3 := hn4.r3
  rw [hf] at r2
  have q0 := hn4.q0
  have q1 := hn4.q1
  have p0 := hn4.p0
  have p1 := hn4.p1
  have g0 := Blk.free hn4.rs 0
  have g1 := Blk.free hn4.rs 1
  have e0 := Blk.free hn4.rf 0
  have e1 := Blk.free hn4.rf 1
  have HN4 := Lib.hid hn4; clear hn4
  go_wp2
  clear r1 f1 c0 c1 hf hb2
  go_region
  all_goals
    go_wp2
    refine bodyPost_ret (v := .tuple #[.agg #[.int .i64 (0), .string (⟨#[]⟩)], .int .i64 (0), .agg #[.int .i64 ((iP s : Int)), .int .i64 (tC s (iP s) 4096)]]) ?_ rfl ⟨rfl, ?_⟩
    · simp [results, Tryd.results12, go_sem, q0, q1, p0, p1]
    · first | exact NR.fin HN4.out _ _ _ _ | exact (NR.fin HN4.out _ _ _ _).drew | exact NR.fin (HN4.out.drewN 1) _ _ _ _


theorem rnext_any (s : ByteArray) (w : World) (hs : s.size ≤ 1048576) :
    Calls Tryd.prog 12 #[.string s] w fun e w' => e = .returned (.tuple #[.agg #[.int .i64 (xK s : Int), .string (xL s)], .int .i64 (xN s : Int), .agg #[.int .i64 (xAt s : Int), .int .i64 (xC s)]]) ∧ Below w.heap.size w w' := by
  by_cases h : xC s = 0
  · obtain ⟨h1, h2, h3, h4⟩ := x_good h
    have e1 : xK s = iV s 0 99 := by unfold xK; rw [if_pos h]
    have e2 : xL s = tV s (iP s) 4096 := by unfold xL; rw [if_pos h]
    have e3 : (xN s : Int) = (tP s : Int) + 4 := by unfold xN; rw [if_pos h]; omega
    have e4 : xAt s = 0 := by unfold xAt; rw [if_pos h1, if_neg h2, if_pos h3, if_pos h4]
    rw [e1, e2, e3, e4, h]; exact rnext_d s w hs h1 h2 h3 (cC_good h4).1 (cC_good h4).2
  · have e1 : xK s = 0 := by unfold xK; rw [if_neg h]
    have e2 : xL s = ⟨#[]⟩ := by unfold xL; rw [if_neg h]
    have e3 : xN s = 0 := by unfold xN; rw [if_neg h]
    rw [e1, e2, e3]
    clear e1 e2 e3
    by_cases h1 : iC s 0 99 = 0
    · by_cases h2 : iV s 0 99 = 0
      · have e1 : xC s = 5 := by unfold xC; rw [if_pos h1, if_pos h2]
        have e2 : xAt s = 0 := by unfold xAt; rw [if_pos h1, if_pos h2]
        rw [e1, e2]; exact rnext_b s w hs h1 h2
      · by_cases h3 : tC s (iP s) 4096 = 0
        · have e1 : xC s = cC s (tP s) := by unfold xC; rw [if_pos h1, if_neg h2, if_pos h3]
          have h4 : ¬ cC s (tP s) = 0 := by rw [e1] at h; exact h
          have e2 : xAt s = tP s := by unfold xAt; rw [if_pos h1, if_neg h2, if_pos h3, if_neg h4]
          rw [e1, e2]
          by_cases h5 : s.size < tP s + 4
          · rw [show cC s (tP s) = 1 by unfold cC; rw [if_pos h5]]; exact rnext_s s w hs h1 h2 h3 h5
          · by_cases h6 : endsB (s.extract 0 (tP s + 4)) = true
            · exact absurd (by unfold cC; rw [if_neg h5, if_pos h6]) h4
            · rw [show cC s (tP s) = 13 by unfold cC; rw [if_neg h5, if_neg h6]]; exact rnext_k s w hs h1 h2 h3 (by omega) (by simpa using h6)
        · have e1 : xC s = tC s (iP s) 4096 := by unfold xC; rw [if_pos h1, if_neg h2, if_neg h3]
          have e2 : xAt s = iP s := by unfold xAt; rw [if_pos h1, if_neg h2, if_neg h3]
          rw [e1, e2]; exact rnext_c s w hs h1 h2 h3
    · have e1 : xC s = iC s 0 99 := by unfold xC; rw [if_neg h1]
      have e2 : xAt s = 0 := by unfold xAt; rw [if_neg h1]
      rw [e1, e2]; exact rnext_a s w hs h1
end Go.Proofs.YtcmdemblegdelaaDoor
