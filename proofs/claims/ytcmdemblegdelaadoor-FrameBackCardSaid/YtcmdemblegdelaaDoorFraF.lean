/-
  What the document's Next answers. (Written by frarnext.py.)
  Conditions: the text has at most 2^20 bytes.
-/
import Derived.Test.YtcmdemblegdelaaDoorFraC
import Derived.RegionTactic
namespace Go.Proofs.YtcmdemblegdelaaDoor
open Go.RowKit

/-- Next's blocks: the frame and the fault that it returns lie in block number w0's size and the next, the reader in the one behind, the frame that it makes in block g. -/
structure NR (w0 : World) (g : Nat) (s : ByteArray) (a : Nat) (c : Int) (k : Int) (l : ByteArray) (w' : World) : Prop where
  rr : RR w' (w0.heap.size + 2) s a (fA a c) c
  fr : Blk w' g (fcs k l) 23
  rs : Blk w' w0.heap.size (fcs 0 ⟨#[]⟩) 23
  rf : Blk w' (w0.heap.size + 1) #[.int .i64 0, .int .i64 0] 34
  bel : Below w0.heap.size w0 w'
  hg : w0.heap.size + 2 < g

section
variable {w0 w' : World} {g : Nat} {s : ByteArray} {a : Nat} {c : Int} {k : Int} {l : ByteArray}
theorem NR.below {w2 : World} (h : NR w0 g s a c k l w') (b : Below w'.heap.size w' w2) : NR w0 g s a c k l w2 := ⟨Blk.below h.rr b, Blk.below h.fr b, Blk.below h.rs b, Blk.below h.rf b, below_then h.bel b, h.hg⟩
theorem NR.drewN (h : NR w0 g s a c k l w') (n : Nat) : NR w0 g s a c k l (w'.drewN n) := ⟨h.rr, h.fr, h.rs, h.rf, below_drewN h.bel n, h.hg⟩
theorem NR.right {w2 : World} {a' : Nat} {c' : Int} (h : NR w0 g s a c k l w') (hr : RR w2 (w0.heap.size + 2) s a' (fA a' c') c') (ho : Only (w0.heap.size + 2) w' w2) : NR w0 g s a' c' k l w2 :=
  ⟨hr, Blk.only h.fr ho (by have := h.hg; omega), Blk.only h.rs ho (by omega), Blk.only h.rf ho (by omega), Only.below h.bel ho (by omega) h.bel.size, h.hg⟩
theorem NR.load (h : NR w0 g s a c k l w') (l' : ByteArray) : NR w0 g s a c k l' (w'.setCell ⟨g, 1, none⟩ (.string l')) :=
  ⟨Blk.far h.rr (by have := h.hg; omega) _ _, by have := Blk.set h.fr 1 (.string l'); simpa [fcs] using this, Blk.far h.rs (by have := h.hg; omega) _ _, Blk.far h.rf (by have := h.hg; omega) _ _, h.bel.setCell (by have := h.hg; show w0.heap.size ≤ g; omega) _, h.hg⟩
theorem NR.fin (h : NR w0 g s a c k l w') (u0 u1 u2 u3 : Value) :
    Below w0.heap.size w0 ((((w'.setCell ⟨w0.heap.size, 0, none⟩ u0).setCell ⟨w0.heap.size, 1, none⟩ u1).setCell ⟨w0.heap.size + 1, 0, none⟩ u2).setCell ⟨w0.heap.size + 1, 1, none⟩ u3) :=
  (((h.bel.setCell (Nat.le_refl _) _).setCell (Nat.le_refl _) _).setCell (Nat.le_succ _) _).setCell (Nat.le_succ _) _
theorem NR.c0 (h : NR w0 g s a c k l w') : w'.cell? ⟨g, 0, none⟩ = some (.int .i64 k) := by rw [Blk.cell h.fr]; rfl
theorem NR.c1 (h : NR w0 g s a c k l w') : w'.cell? ⟨g, 1, none⟩ = some (.string l) := by rw [Blk.cell h.fr]; rfl
theorem NR.r1 (h : NR w0 g s a c k l w') : w'.cell? ⟨w0.heap.size + 2, 1, none⟩ = some (.int .i64 a) := RR.c1 h.rr
theorem NR.r2 (h : NR w0 g s a c k l w') : w'.cell? ⟨w0.heap.size + 2, 2, none⟩ = some (.int .i64 (fA a c)) := RR.c2 h.rr
theorem NR.r3 (h : NR w0 g s a c k l w') : w'.cell? ⟨w0.heap.size + 2, 3, none⟩ = some (.int .i64 c) := RR.c3 h.rr
theorem NR.q0 (h : NR w0 g s a c k l w') : w'.cell? ⟨w0.heap.size, 0, none⟩ = some (.int .i64 0) := by rw [Blk.cell h.rs]; rfl
theorem NR.q1 (h : NR w0 g s a c k l w') : w'.cell? ⟨w0.heap.size, 1, none⟩ = some (.string ⟨#[]⟩) := by rw [Blk.cell h.rs]; rfl
theorem NR.p0 (h : NR w0 g s a c k l w') : w'.cell? ⟨w0.heap.size + 1, 0, none⟩ = some (.int .i64 0) := by rw [Blk.cell h.rf]; rfl
theorem NR.p1 (h : NR w0 g s a c k l w') : w'.cell? ⟨w0.heap.size + 1, 1, none⟩ = some (.int .i64 0) := by rw [Blk.cell h.rf]; rfl
theorem NR.new {w w2 : World} (_h : RR (((w.alloc (.cells #[.int .i64 0, .string ⟨#[]⟩] 23)).alloc (.cells #[.int .i64 0, .int .i64 0] 34)).alloc (.cells #[.string s, .int .i64 0, .int .i64 0, .int .i64 0] 75)) (w.heap.size + 2) s 0 (fA 0 0) 0)
    (hr : RR w2 (w.heap.size + 2) s a (fA a c) c) (ho : Only (w.heap.size + 2) (((w.alloc (.cells #[.int .i64 0, .string ⟨#[]⟩] 23)).alloc (.cells #[.int .i64 0, .int .i64 0] 34)).alloc (.cells #[.string s, .int .i64 0, .int .i64 0, .int .i64 0] 75)) w2) (k : Int) :
    NR w w2.heap.size s a c k ⟨#[]⟩ (w2.alloc (.cells #[.int .i64 k, .string ⟨#[]⟩] 23)) := by
  have hz := ho.size
  have hb : Below w.heap.size w (((w.alloc (.cells #[.int .i64 0, .string ⟨#[]⟩] 23)).alloc (.cells #[.int .i64 0, .int .i64 0] 34)).alloc (.cells #[.string s, .int .i64 0, .int .i64 0, .int .i64 0] 75)) := (((Below.refl _ _).alloc (Nat.le_refl _) _).alloc (by simp) _).alloc (by simp; omega) _
  have hf : Blk (((w.alloc (.cells #[.int .i64 0, .string ⟨#[]⟩] 23)).alloc (.cells #[.int .i64 0, .int .i64 0] 34)).alloc (.cells #[.string s, .int .i64 0, .int .i64 0, .int .i64 0] 75)) (w.heap.size + 1) #[.int .i64 0, .int .i64 0] 34 := by
    have := (Blk.new (w.alloc (.cells #[.int .i64 0, .string ⟨#[]⟩] 23)) #[.int .i64 0, .int .i64 0] 34).alloc (.cells #[.string s, .int .i64 0, .int .i64 0, .int .i64 0] 75)
    simpa using this
  simp at hz
  exact ⟨Blk.alloc hr _, Blk.new _ _ _, Blk.alloc (Blk.only (((Blk.new w _ _).alloc _).alloc _) ho (by omega)) _, Blk.alloc (Blk.only hf ho (by omega)) _, (Only.below hb ho (by omega) hb.size).alloc (by omega) _, by omega⟩
/-- The world behind Int, ahead of the frame's block. -/
structure NZ (w w2 : World) (s : ByteArray) (a : Nat) (c : Int) : Prop where
  rr : RR w2 (w.heap.size + 2) s a (fA a c) c
  rs : Blk w2 w.heap.size (fcs 0 ⟨#[]⟩) 23
  rf : Blk w2 (w.heap.size + 1) #[.int .i64 0, .int .i64 0] 34
  bel : Below w.heap.size w w2
theorem NR.zold {w w2 : World} (hr : RR w2 (w.heap.size + 2) s a (fA a c) c) (ho : Only (w.heap.size + 2) (((w.alloc (.cells #[.int .i64 0, .string ⟨#[]⟩] 23)).alloc (.cells #[.int .i64 0, .int .i64 0] 34)).alloc (.cells #[.string s, .int .i64 0, .int .i64 0, .int .i64 0] 75)) w2) : NZ w w2 s a c := by
  have hb : Below w.heap.size w (((w.alloc (.cells #[.int .i64 0, .string ⟨#[]⟩] 23)).alloc (.cells #[.int .i64 0, .int .i64 0] 34)).alloc (.cells #[.string s, .int .i64 0, .int .i64 0, .int .i64 0] 75)) := (((Below.refl _ _).alloc (Nat.le_refl _) _).alloc (by simp) _).alloc (by simp; omega) _
  have hf : Blk (((w.alloc (.cells #[.int .i64 0, .string ⟨#[]⟩] 23)).alloc (.cells #[.int .i64 0, .int .i64 0] 34)).alloc (.cells #[.string s, .int .i64 0, .int .i64 0, .int .i64 0] 75)) (w.heap.size + 1) #[.int .i64 0, .int .i64 0] 34 := by
    have := (Blk.new (w.alloc (.cells #[.int .i64 0, .string ⟨#[]⟩] 23)) #[.int .i64 0, .int .i64 0] 34).alloc (.cells #[.string s, .int .i64 0, .int .i64 0, .int .i64 0] 75)
    simpa using this
  exact ⟨hr, Blk.only (((Blk.new w _ _).alloc _).alloc _) ho (by omega), Blk.only hf ho (by omega), Only.below hb ho (by omega) hb.size⟩
end

set_option maxRecDepth 100000 in
set_option maxHeartbeats 1000000 in
theorem rnext_b (s : ByteArray) (w : World) (hs : s.size ≤ 1048576) (hc : iC s 0 99 = 0) (hv : iV s 0 99 = 0) :
    Calls Tryd.prog 12 #[.string s] w fun e w' => e = .returned (.tuple #[.agg #[.int .i64 (0), .string (⟨#[]⟩)], .int .i64 (0), .agg #[.int .i64 (0), .int .i64 (5)]]) ∧ Below w.heap.size w w' := by
  have HV1 : Hid (iV' s 0 99 0 = 0) := Lib.hid hv
  have HA1 : Hid (iA' s 0 99 0 = iP s) := Lib.hid rfl
  have HC1 : Hid (iC' s 0 99 0 = 0) := Lib.hid hc
  clear hc hv
  go_enter Tryd.func12, Tryd.ntmps12
  have hr1 : RR (((w.alloc (.cells #[.int .i64 0, .string ⟨#[]⟩] 23)).alloc (.cells #[.int .i64 0, .int .i64 0] 34)).alloc (.cells #[.string s, .int .i64 0, .int .i64 0, .int .i64 0] 75)) (w.heap.size + 2) s 0 (fA 0 0) 0 := by
    have := Blk.new ((w.alloc (.cells #[.int .i64 0, .string ⟨#[]⟩] 23)).alloc (.cells #[.int .i64 0, .int .i64 0] 34)) #[.string s, .int .i64 0, .int .i64 0, .int .i64 0] 75
    simpa [RR, fA] using this
  have HR1 := Lib.hid hr1; clear hr1
  go_wp2_with fail
  refine (rInt_any (w.heap.size + 2) 0 s 99 0 _ HR1.out (by omega) hs (by omega)).mono ?_
  rw [HV1.out, HA1.out, HC1.out]
  rintro e w2 ⟨rfl, hr2, ho2⟩
  have hn2 := NR.new HR1.out hr2 ho2 0
  have hz2 := NR.zold hr2 ho2
  have HR := Lib.hid hz2; clear hz2
  clear HR1 hr2 ho2
  have r1 := hn2.r1
  have r3 := hn2.r3
  have c0 := hn2.c0
  have HN2 := Lib.hid hn2; clear hn2
  have hlt0 := Blk.lt HR.out.rs
  have hlt1 := Blk.lt HR.out.rf
  have q0 : w2.cell? ⟨w.heap.size, 0, none⟩ = some (.int .i64 0) := by rw [Blk.cell HR.out.rs]; rfl
  have q1 : w2.cell? ⟨w.heap.size, 1, none⟩ = some (.string ⟨#[]⟩) := by rw [Blk.cell HR.out.rs]; rfl
  have p0 : w2.cell? ⟨w.heap.size + 1, 0, none⟩ = some (.int .i64 0) := by rw [Blk.cell HR.out.rf]; rfl
  have p1 : w2.cell? ⟨w.heap.size + 1, 1, none⟩ = some (.int .i64 0) := by rw [Blk.cell HR.out.rf]; rfl
  have z3 : w2.cell? ⟨w.heap.size + 2, 3, none⟩ = some (.int .i64 0) := RR.c3 HR.out.rr
  have hlt2 := Blk.lt HR.out.rr
  have g0 := Blk.free HR.out.rs 0
  have g1 := Blk.free HR.out.rs 1
  have e0 := Blk.free HR.out.rf 0
  have e1 := Blk.free HR.out.rf 1
  go_wp2
  refine bodyPost_ret (v := .tuple #[.agg #[.int .i64 0, .string ⟨#[]⟩], .int .i64 0, .agg #[.int .i64 0, .int .i64 5]]) ?_ rfl ⟨rfl, ?_⟩
  · have hs0 := (Blk.far (Blk.far (Blk.set (Blk.set HR.out.rs 0 (.int .i64 0)) 1 (.string ⟨#[]⟩)) (show w.heap.size ≠ w.heap.size + 1 by omega) 0 (.int .i64 0)) (show w.heap.size ≠ w.heap.size + 1 by omega) 1 (.int .i64 5)).alloc (.cells #[.int .i64 0, .string ⟨#[]⟩] 23)
    have hs1 := (Blk.set (Blk.set (Blk.far (Blk.far HR.out.rf (show w.heap.size + 1 ≠ w.heap.size by omega) 0 (.int .i64 0)) (show w.heap.size + 1 ≠ w.heap.size by omega) 1 (.string ⟨#[]⟩)) 0 (.int .i64 0)) 1 (.int .i64 5)).alloc (.cells #[.int .i64 0, .string ⟨#[]⟩] 23)
    have r0 := (Blk.cell hs0 0).trans (show _ = some (.int .i64 0) from rfl)
    have r1 := (Blk.cell hs0 1).trans (show _ = some (.string ⟨#[]⟩) from rfl)
    have r2 := (Blk.cell hs1 0).trans (show _ = some (.int .i64 0) from rfl)
    have r3 := (Blk.cell hs1 1).trans (show _ = some (.int .i64 5) from rfl)
    clear hs0 hs1 q0 q1 p0 p1
    simp [results, Tryd.results12, go_sem, r0, r1, r2, r3]
  · exact ((((HR.out.bel.setCell (Nat.le_refl _) _).setCell (Nat.le_refl _) _).setCell (Nat.le_succ _) _).setCell (Nat.le_succ _) _).alloc (by simp [World.setCell]; omega) _


set_option maxRecDepth 100000 in
set_option maxHeartbeats 1000000 in
theorem rnext_s (s : ByteArray) (w : World) (hs : s.size ≤ 1048576) (hc : iC s 0 99 = 0) (hv : ¬ iV s 0 99 = 0) (ht : tC s (iP s) 4096 = 0) (h4 : s.size < tP s + 4) :
    Calls Tryd.prog 12 #[.string s] w fun e w' => e = .returned (.tuple #[.agg #[.int .i64 (0), .string (⟨#[]⟩)], .int .i64 (0), .agg #[.int .i64 ((tP s : Int)), .int .i64 (1)]]) ∧ Below w.heap.size w w' := by
  have HV1 : Hid (iV' s 0 99 0 = iV s 0 99) := Lib.hid rfl
  have HA1 : Hid (iA' s 0 99 0 = iP s) := Lib.hid rfl
  have HC1 : Hid (iC' s 0 99 0 = 0) := Lib.hid hc
  have HV2 : Hid (tV' s (iP s) 4096 0 = tV s (iP s) 4096) := Lib.hid rfl
  have HA2 : Hid (tA' s (iP s) 4096 0 = tP s) := Lib.hid rfl
  have HC2 : Hid (tC' s (iP s) 4096 0 = 0) := Lib.hid ht
  have HLE := Lib.hid (iP_le s)
  have hv' : ((iV s 0 99 : Int) == 0) = false := by simpa using hv
  have HTP := Lib.hid (tP_le s)
  have hl4 : (s.size : Int) - (tP s : Int) < 4 := by omega
  clear hc hv ht h4
  go_enter Tryd.func12, Tryd.ntmps12
  have hr1 : RR (((w.alloc (.cells #[.int .i64 0, .string ⟨#[]⟩] 23)).alloc (.cells #[.int .i64 0, .int .i64 0] 34)).alloc (.cells #[.string s, .int .i64 0, .int .i64 0, .int .i64 0] 75)) (w.heap.size + 2) s 0 (fA 0 0) 0 := by
    have := Blk.new ((w.alloc (.cells #[.int .i64 0, .string ⟨#[]⟩] 23)).alloc (.cells #[.int .i64 0, .int .i64 0] 34)) #[.string s, .int .i64 0, .int .i64 0, .int .i64 0] 75
    simpa [RR, fA] using this
  have HR1 := Lib.hid hr1; clear hr1
  go_wp2_with fail
  refine (rInt_any (w.heap.size + 2) 0 s 99 0 _ HR1.out (by omega) hs (by omega)).mono ?_
  rw [HV1.out, HA1.out, HC1.out]
  rintro e w2 ⟨rfl, hr2, ho2⟩
  have hn2 := NR.new HR1.out hr2 ho2 (iV s 0 99 : Int)
  have hz2 := NR.zold hr2 ho2
  have HR := Lib.hid hz2; clear hz2
  clear HR1 hr2 ho2
  have r1 := hn2.r1
  have r3 := hn2.r3
  have c0 := hn2.c0
  have HN2 := Lib.hid hn2; clear hn2
  go_wp2_with fail
  refine (rText_any (w.heap.size + 2) (iP s) s 4096 (0) _ HN2.out.rr HLE.out hs (by omega)).mono ?_
  rw [HV2.out, HA2.out, HC2.out]
  rintro e w4 ⟨rfl, hr4, ho4⟩
  clear r1 r3 c0
  have hn3 := HN2.out.right hr4 ho4; clear HN2 hr4 ho4
  have f1 := Blk.free hn3.fr 1
  have c0 := hn3.c0
  have c1 := hn3.c1
  have hn4 := hn3.load (tV s (iP s) 4096); clear hn3
  have r1 := hn4.r1
  have r2 := hn4.r2
  have r3 := hn4.r3
  have HN4 := Lib.hid hn4; clear hn4
  go_wp2_with fail
  refine (rleft_any _ _ _ _ _ _ HN4.out.rr HTP.out hs).mono ?_
  rintro e w5 ⟨rfl, hx⟩
  clear r1 r2 r3 f1 c0 c1
  have hn5 : NR w w2.heap.size s (tP s) 0 (iV s 0 99 : Int) (tV s (iP s) 4096) w5 := by
    obtain ⟨n, rfl⟩ := hx
    exact HN4.out.drewN n
  clear HN4 hx
  have r1 := hn5.r1
  have q0 := hn5.q0
  have q1 := hn5.q1
  have p0 := hn5.p0
  have p1 := hn5.p1
  have g0 := Blk.free hn5.rs 0
  have g1 := Blk.free hn5.rs 1
  have e0 := Blk.free hn5.rf 0
  have e1 := Blk.free hn5.rf 1
  have HN5 := Lib.hid hn5; clear hn5
  go_wp2
  go_region
  all_goals
    go_wp2
    refine bodyPost_ret (v := .tuple #[.agg #[.int .i64 (0), .string (⟨#[]⟩)], .int .i64 (0), .agg #[.int .i64 ((tP s : Int)), .int .i64 (1)]]) ?_ rfl ⟨rfl, ?_⟩
    · simp [results, Tryd.results12, go_sem, q0, q1, p0, p1]
    · first | exact NR.fin HN5.out _ _ _ _ | exact (NR.fin HN5.out _ _ _ _).drew | exact NR.fin (HN5.out.drewN 1) _ _ _ _


theorem rends_check (s : ByteArray) (a : Nat) (w : World) (hs : s.size ≤ 1048576) :
    Calls Tryd.prog 37 #[.string (s.extract 0 (a + 4))] w fun e w' => e = .returned (.bool (endsB (s.extract 0 (a + 4)))) ∧ Below w.heap.size w w' :=
  rends_any _ w (by have := ext_le s 0 (a + 4); omega)

set_option maxRecDepth 100000 in
set_option maxHeartbeats 1000000 in
theorem rnext_k (s : ByteArray) (w : World) (hs : s.size ≤ 1048576) (hc : iC s 0 99 = 0) (hv : ¬ iV s 0 99 = 0) (ht : tC s (iP s) 4096 = 0) (h4 : tP s + 4 ≤ s.size) (he : endsB (s.extract 0 (tP s + 4)) = false) :
    Calls Tryd.prog 12 #[.string s] w fun e w' => e = .returned (.tuple #[.agg #[.int .i64 (0), .string (⟨#[]⟩)], .int .i64 (0), .agg #[.int .i64 ((tP s : Int)), .int .i64 (13)]]) ∧ Below w.heap.size w w' := by
  have HV1 : Hid (iV' s 0 99 0 = iV s 0 99) := Lib.hid rfl
  have HA1 : Hid (iA' s 0 99 0 = iP s) := Lib.hid rfl
  have HC1 : Hid (iC' s 0 99 0 = 0) := Lib.hid hc
  have HV2 : Hid (tV' s (iP s) 4096 0 = tV s (iP s) 4096) := Lib.hid rfl
  have HA2 : Hid (tA' s (iP s) 4096 0 = tP s) := Lib.hid rfl
  have HC2 : Hid (tC' s (iP s) 4096 0 = 0) := Lib.hid ht
  have HLE := Lib.hid (iP_le s)
  have hv' : ((iV s 0 99 : Int) == 0) = false := by simpa using hv
  have HTP := Lib.hid (tP_le s)
  have hl4 : (4 : Int) ≤ (s.size : Int) - (tP s : Int) := by omega
  have hl5 : (tP s : Int) + 4 ≤ s.size := by omega
  have HX : ∀ W, Hid (Calls Tryd.prog 37 #[.string (s.extract 0 (tP s + 4))] W fun e w' => e = .returned (.bool (false)) ∧ Below W.heap.size W w') := fun W => Lib.hid (by have := rends_check s (tP s) W hs; rw [he] at this; exact this)
  clear hc hv ht h4 he
  go_enter Tryd.func12, Tryd.ntmps12
  have hr1 : RR (((w.alloc (.cells #[.int .i64 0, .string ⟨#[]⟩] 23)).alloc (.cells #[.int .i64 0, .int .i64 0] 34)).alloc (.cells #[.string s, .int .i64 0, .int .i64 0, .int .i64 0] 75)) (w.heap.size + 2) s 0 (fA 0 0) 0 := by
    have := Blk.new ((w.alloc (.cells #[.int .i64 0, .string ⟨#[]⟩] 23)).alloc (.cells #[.int .i64 0, .int .i64 0] 34)) #[.string s, .int .i64 0, .int .i64 0, .int .i64 0] 75
    simpa [RR, fA] using this
  have HR1 := Lib.hid hr1; clear hr1
  go_wp2_with fail
  refine (rInt_any (w.heap.size + 2) 0 s 99 0 _ HR1.out (by omega) hs (by omega)).mono ?_
  rw [HV1.out, HA1.out, HC1.out]
  rintro e w2 ⟨rfl, hr2, ho2⟩
  have hn2 := NR.new HR1.out hr2 ho2 (iV s 0 99 : Int)
  have hz2 := NR.zold hr2 ho2
  have HR := Lib.hid hz2; clear hz2
  clear HR1 hr2 ho2
  have r1 := hn2.r1
  have r3 := hn2.r3
  have c0 := hn2.c0
  have HN2 := Lib.hid hn2; clear hn2
  go_wp2_with fail
  refine (rText_any (w.heap.size + 2) (iP s) s 4096 (0) _ HN2.out.rr HLE.out hs (by omega)).mono ?_
  rw [HV2.out, HA2.out, HC2.out]
  rintro e w4 ⟨rfl, hr4, ho4⟩
  clear r1 r3 c0
  have hn3 := HN2.out.right hr4 ho4; clear HN2 hr4 ho4
  have f1 := Blk.free hn3.fr 1
  have c0 := hn3.c0
  have c1 := hn3.c1
  have hn4 := hn3.load (tV s (iP s) 4096); clear hn3
  have r1 := hn4.r1
  have r2 := hn4.r2
  have r3 := hn4.r3
  have HN4 := Lib.hid hn4; clear hn4
  go_wp2_with fail
  refine (rleft_any _ _ _ _ _ _ HN4.out.rr HTP.out hs).mono ?_
  rintro e w5 ⟨rfl, hx⟩
  clear r1 r2 r3 f1 c0 c1
  have hn5 : NR w w2.heap.size s (tP s) 0 (iV s 0 99 : Int) (tV s (iP s) 4096) w5 := by
    obtain ⟨n, rfl⟩ := hx
    exact HN4.out.drewN n
  clear HN4 hx
  have r1 := hn5.r1
  have HN5 := Lib.hid hn5; clear hn5
  go_wp2_with fail
  refine (HX _).out.mono ?_
  rintro e w6 ⟨rfl, b6⟩
  clear r1
  have hn6 := HN5.out.below b6; clear HN5 b6
  have r1 := hn6.r1
  have q0 := hn6.q0
  have q1 := hn6.q1
  have p0 := hn6.p0
  have p1 := hn6.p1
  have g0 := Blk.free hn6.rs 0
  have g1 := Blk.free hn6.rs 1
  have e0 := Blk.free hn6.rf 0
  have e1 := Blk.free hn6.rf 1
  have HN6 := Lib.hid hn6; clear hn6
  go_wp2
  go_region
  all_goals
    go_wp2
    refine bodyPost_ret (v := .tuple #[.agg #[.int .i64 (0), .string (⟨#[]⟩)], .int .i64 (0), .agg #[.int .i64 ((tP s : Int)), .int .i64 (13)]]) ?_ rfl ⟨rfl, ?_⟩
    · simp [results, Tryd.results12, go_sem, q0, q1, p0, p1]
    · first | exact NR.fin HN6.out _ _ _ _ | exact (NR.fin HN6.out _ _ _ _).drew | exact NR.fin (HN6.out.drewN 1) _ _ _ _


set_option maxRecDepth 100000 in
set_option maxHeartbeats 1000000 in
theorem rnext_d (s : ByteArray) (w : World) (hs : s.size ≤ 1048576) (hc : iC s 0 99 = 0) (hv : ¬ iV s 0 99 = 0) (ht : tC s (iP s) 4096 = 0) (h4 : tP s + 4 ≤ s.size) (he : endsB (s.extract 0 (tP s + 4)) = true) :
    Calls Tryd.prog 12 #[.string s] w fun e w' => e = .returned (.tuple #[.agg #[.int .i64 ((iV s 0 99 : Int)), .string (tV s (iP s) 4096)], .int .i64 ((tP s : Int) + 4), .agg #[.int .i64 (0), .int .i64 (0)]]) ∧ Below w.heap.size w w' := by
  have HV1 : Hid (iV' s 0 99 0 = iV s 0 99) := Lib.hid rfl
  have HA1 : Hid (iA' s 0 99 0 = iP s) := Lib.hid rfl
  have HC1 : Hid (iC' s 0 99 0 = 0) := Lib.hid hc
  have HV2 : Hid (tV' s (iP s) 4096 0 = tV s (iP s) 4096) := Lib.hid rfl
  have HA2 : Hid (tA' s (iP s) 4096 0 = tP s) := Lib.hid rfl
  have HC2 : Hid (tC' s (iP s) 4096 0 = 0) := Lib.hid ht
  have HLE := Lib.hid (iP_le s)
  have hv' : ((iV s 0 99 : Int) == 0) = false := by simpa using hv
  have HTP := Lib.hid (tP_le s)
  have hl4 : (4 : Int) ≤ (s.size : Int) - (tP s : Int) := by omega
  have hl5 : (tP s : Int) + 4 ≤ s.size := by omega
  have HX : ∀ W, Hid (Calls Tryd.prog 37 #[.string (s.extract 0 (tP s + 4))] W fun e w' => e = .returned (.bool (true)) ∧ Below W.heap.size W w') := fun W => Lib.hid (by have := rends_check s (tP s) W hs; rw [he] at this; exact this)
  have hw : IntKind.i64.wrap ((tP s : Int) + 4) = (tP s : Int) + 4 := by rw [IntKind.wrap_i64]; omega
  clear hc hv ht h4 he
  go_enter Tryd.func12, Tryd.ntmps12
  have hr1 : RR (((w.alloc (.cells #[.int .i64 0, .string ⟨#[]⟩] 23)).alloc (.cells #[.int .i64 0, .int .i64 0] 34)).alloc (.cells #[.string s, .int .i64 0, .int .i64 0, .int .i64 0] 75)) (w.heap.size + 2) s 0 (fA 0 0) 0 := by
    have := Blk.new ((w.alloc (.cells #[.int .i64 0, .string ⟨#[]⟩] 23)).alloc (.cells #[.int .i64 0, .int .i64 0] 34)) #[.string s, .int .i64 0, .int .i64 0, .int .i64 0] 75
    simpa [RR, fA] using this
  have HR1 := Lib.hid hr1; clear hr1
  go_wp2_with fail
  refine (rInt_any (w.heap.size + 2) 0 s 99 0 _ HR1.out (by omega) hs (by omega)).mono ?_
  rw [HV1.out, HA1.out, HC1.out]
  rintro e w2 ⟨rfl, hr2, ho2⟩
  have hn2 := NR.new HR1.out hr2 ho2 (iV s 0 99 : Int)
  have hz2 := NR.zold hr2 ho2
  have HR := Lib.hid hz2; clear hz2
  clear HR1 hr2 ho2
  have r1 := hn2.r1
  have r3 := hn2.r3
  have c0 := hn2.c0
  have HN2 := Lib.hid hn2; clear hn2
  go_wp2_with fail
  refine (rText_any (w.heap.size + 2) (iP s) s 4096 (0) _ HN2.out.rr HLE.out hs (by omega)).mono ?_
  rw [HV2.out, HA2.out, HC2.out]
  rintro e w4 ⟨rfl, hr4, ho4⟩
  clear r1 r3 c0
  have hn3 := HN2.out.right hr4 ho4; clear HN2 hr4 ho4
  have f1 := Blk.free hn3.fr 1
  have c0 := hn3.c0
  have c1 := hn3.c1
  have hn4 := hn3.load (tV s (iP s) 4096); clear hn3
  have r1 := hn4.r1
  have r2 := hn4.r2
  have r3 := hn4.r3
  have HN4 := Lib.hid hn4; clear hn4
  go_wp2_with fail
  refine (rleft_any _ _ _ _ _ _ HN4.out.rr HTP.out hs).mono ?_
  rintro e w5 ⟨rfl, hx⟩
  clear r1 r2 r3 f1 c0 c1
  have hn5 : NR w w2.heap.size s (tP s) 0 (iV s 0 99 : Int) (tV s (iP s) 4096) w5 := by
    obtain ⟨n, rfl⟩ := hx
    exact HN4.out.drewN n
  clear HN4 hx
  have r1 := hn5.r1
  have HN5 := Lib.hid hn5; clear hn5
  go_wp2_with fail
  refine (HX _).out.mono ?_
  rintro e w6 ⟨rfl, b6⟩
  clear r1
  have hn6 := HN5.out.below b6; clear HN5 b6
  have r1 := hn6.r1
  have c0 := hn6.c0
  have c1 := hn6.c1
  have q0 := hn6.q0
  have q1 := hn6.q1
  have p0 := hn6.p0
  have p1 := hn6.p1
  have g0 := Blk.free hn6.rs 0
  have g1 := Blk.free hn6.rs 1
  have e0 := Blk.free hn6.rf 0
  have e1 := Blk.free hn6.rf 1
  have HN6 := Lib.hid hn6; clear hn6
  go_wp2
  go_region
  all_goals
    go_wp2
    refine bodyPost_ret (v := .tuple #[.agg #[.int .i64 ((iV s 0 99 : Int)), .string (tV s (iP s) 4096)], .int .i64 ((tP s : Int) + 4), .agg #[.int .i64 (0), .int .i64 (0)]]) ?_ rfl ⟨rfl, ?_⟩
    · simp [results, Tryd.results12, go_sem, q0, q1, p0, p1]
    · first | exact NR.fin HN6.out _ _ _ _ | exact (NR.fin HN6.out _ _ _ _).drew | exact NR.fin (HN6.out.drewN 1) _ _ _ _

end Go.Proofs.YtcmdemblegdelaaDoor
