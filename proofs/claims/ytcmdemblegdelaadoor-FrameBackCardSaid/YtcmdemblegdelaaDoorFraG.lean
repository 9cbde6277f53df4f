/-
  What the document's Next answers where the kind can't be decoded. (Written by frarnext.py.)
  Conditions: the text has at most 2^20 bytes.
-/
import Derived.Test.YtcmdemblegdelaaDoorFraF
import Derived.RegionTactic
namespace Go.Proofs.YtcmdemblegdelaaDoor
open Go.RowKit

set_option maxRecDepth 100000 in
set_option maxHeartbeats 1000000 in
theorem rnext_a (s : ByteArray) (w : World) (hs : s.size ≤ 1048576) (hc : ¬ iC s 0 99 = 0) :
    Calls Tryd.prog 12 #[.string s] w fun e w' => e = .returned (.tuple #[.agg #[.int .i64 (0), .string (⟨#[]⟩)], .int .i64 (0), .agg #[.int .i64 (0), .int .i64 (iC s 0 99)]]) ∧ Below w.heap.size w w' := by
  have HV1 : Hid (iV' s 0 99 0 = 0) := Lib.hid (iV_bad hc)
  have HA1 : Hid (iA' s 0 99 0 = 0) := Lib.hid (iA_bad hc)
  have HC1 : Hid (iC' s 0 99 0 = iC s 0 99) := Lib.hid rfl
  have HV2 : Hid (tV' s 0 4096 (iC s 0 99) = ⟨#[]⟩) := Lib.hid (by unfold tV'; rw [if_neg hc])
  have HA2 : Hid (tA' s 0 4096 (iC s 0 99) = 0) := Lib.hid (by unfold tA'; rw [if_neg hc])
  have HC2 : Hid (tC' s 0 4096 (iC s 0 99) = iC s 0 99) := Lib.hid (by unfold tC'; rw [if_neg hc])
  have HLE : Hid (0 ≤ s.size) := Lib.hid (Nat.zero_le _)
  have hf : fA 0 (iC s 0 99) = 0 := by unfold fA; rw [if_neg hc]
  have hb : (iC s 0 99 == 0) = false := by simpa using hc
  have hb2 : (iC s 0 99 != 0) = true := by simpa using hc
  clear hc
  go_enter Tryd.func12, Tryd.ntmps12
  have hr1 : RR (((w.alloc (.cells #[.int .i64 0, .string ⟨#[]⟩] 23)).alloc (.cells #[.int .i64 0, .int .i64 0] 34)).alloc (.cells #[.string s, .int .i64 0, .int .i64 0, .int .i64 0] 75)) (w.heap.size + 2) s 0 (fA 0 0) 0 := by
    have := Blk.new ((w.alloc (.cells #[.int .i64 0, .string ⟨#[]⟩] 23)).alloc (.cells #[.int .i64 0, .int .i64 0] 34)) #[.string s, .int .i64 0, .int .i64 0, .int .i64 0] 75
    simpa [RR, fA] using this
  have HR1 := Lib.hid hr1; clear hr1
  go_wp2_with fail
  refine (rInt_any (w.heap.size + 2) 0 s 99 0 _ HR1.out (by omega) hs (by omega)).mono ?_
  rw [HV1.out, HA1.out, HC1.out]
  rintro e w2 ⟨rfl, hr2, ho2⟩
  have hn2 := NR.new HR1.out hr2 ho2 0
  have hz2 := NR.zold hr2 ho2
  have HR := Lib.hid hz2; clear hz2
  clear HR1 hr2 ho2
  have r1 := hn2.r1
  have r3 := hn2.r3
  have c0 := hn2.c0
  have HN2 := Lib.hid hn2; clear hn2
  go_wp2_with fail
  refine (rText_any (w.heap.size + 2) (0) s 4096 (iC s 0 99) _ HN2.out.rr HLE.out hs (by omega)).mono ?_
  rw [HV2.out, HA2.out, HC2.out]
  rintro e w4 ⟨rfl, hr4, ho4⟩
  clear r1 r3 c0
  have hn3 := HN2.out.right hr4 ho4; clear HN2 hr4 ho4
  have f1 := Blk.free hn3.fr 1
  have c0 := hn3.c0
  have c1 := hn3.c1
  have hn4 := hn3.load ⟨#[]⟩; clear hn3
  have r1 := hn4.r1
  have r2 := hn4.r2
  have r3 := hn4.r3
  rw [hf] at r2
  have q0 := hn4.q0
  have q1 := hn4.q1
  have p0 := hn4.p0
  have p1 := hn4.p1
  have g0 := Blk.free hn4.rs 0
  have g1 := Blk.free hn4.rs 1
  have e0 := Blk.free hn4.rf 0
  have e1 := Blk.free hn4.rf 1
  have HN4 := Lib.hid hn4; clear hn4
  go_wp2
  clear r1 f1 c0 c1 hf hb2
  go_region
  all_goals
    go_wp2
    refine bodyPost_ret (v := .tuple #[.agg #[.int .i64 (0), .string (⟨#[]⟩)], .int .i64 (0), .agg #[.int .i64 (0), .int .i64 (iC s 0 99)]]) ?_ rfl ⟨rfl, ?_⟩
    · simp [results, Tryd.results12, go_sem, q0, q1, p0, p1]
    · first | exact NR.fin HN4.out _ _ _ _ | exact (NR.fin HN4.out _ _ _ _).drew | exact NR.fin (HN4.out.drewN 1) _ _ _ _

end Go.Proofs.YtcmdemblegdelaaDoor
