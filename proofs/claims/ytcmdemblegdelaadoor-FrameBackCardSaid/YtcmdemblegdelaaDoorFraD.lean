/-
  What Next of package frame answers: the frame and its length, or a fault with the document's place and number. (Written by franext.py.)
  Conditions: the text has at most 2^20 bytes.
-/
import Derived.Test.YtcmdemblegdelaaDoorFraC
import Derived.Deep.RegionWith
namespace Go.Proofs.YtcmdemblegdelaaDoor
open Go.RowKit

/-- Next's blocks: what it returns lies in block number w0's size, the reader in the next, the frame in block g. -/
structure NX (w0 : World) (g : Nat) (s : ByteArray) (a : Nat) (c : Int) (k : Int) (l : ByteArray) (w' : World) : Prop where
  rd : Rdr w' (w0.heap.size + 1) s a c
  fr : Blk w' g (fcs k l) 28
  rs : Blk w' w0.heap.size (fcs 0 ⟨#[]⟩) 28
  bel : Below w0.heap.size w0 w'
  hg : w0.heap.size + 1 < g

section
variable {w0 w' : World} {g : Nat} {s : ByteArray} {a : Nat} {c : Int} {k : Int} {l : ByteArray}
theorem NX.below {w2 : World} (h : NX w0 g s a c k l w') (b : Below w'.heap.size w' w2) : NX w0 g s a c k l w2 := ⟨Blk.below h.rd b, Blk.below h.fr b, Blk.below h.rs b, below_then h.bel b, h.hg⟩
theorem NX.alloc (h : NX w0 g s a c k l w') (o : Obj) : NX w0 g s a c k l (w'.alloc o) := h.below ((Below.refl _ _).alloc (Nat.le_refl _) o)
theorem NX.left {w2 : World} {a' : Nat} {c' : Int} (h : NX w0 g s a c k l w') (hr : Rdr w2 (w0.heap.size + 1) s a' c') (ho : Only (w0.heap.size + 1) w' w2) : NX w0 g s a' c' k l w2 :=
  ⟨hr, Blk.only h.fr ho (by have := h.hg; omega), Blk.only h.rs ho (by omega), Only.below h.bel ho (by omega) h.bel.size, h.hg⟩
theorem NX.load (h : NX w0 g s a c k l w') (l' : ByteArray) : NX w0 g s a c k l' (w'.setCell ⟨g, 1, none⟩ (.string l')) :=
  ⟨Blk.far h.rd (by have := h.hg; omega) _ _, by have := Blk.set h.fr 1 (.string l'); simpa [fcs] using this, Blk.far h.rs (by have := h.hg; omega) _ _, h.bel.setCell (by have := h.hg; show w0.heap.size ≤ g; omega) _, h.hg⟩
theorem NX.c0 (h : NX w0 g s a c k l w') : w'.cell? ⟨g, 0, none⟩ = some (.int .i64 k) := by rw [Blk.cell h.fr]; rfl
theorem NX.c1 (h : NX w0 g s a c k l w') : w'.cell? ⟨g, 1, none⟩ = some (.string l) := by rw [Blk.cell h.fr]; rfl
theorem NX.q0 (h : NX w0 g s a c k l w') : w'.cell? ⟨w0.heap.size, 0, none⟩ = some (.int .i64 0) := by rw [Blk.cell h.rs]; rfl
theorem NX.q1 (h : NX w0 g s a c k l w') : w'.cell? ⟨w0.heap.size, 1, none⟩ = some (.string ⟨#[]⟩) := by rw [Blk.cell h.rs]; rfl
theorem NX.new {w2 : World} (_h : Rdr ((w0.alloc (.cells #[.int .i64 0, .string ⟨#[]⟩] 28)).alloc (.cells #[.string s, .int .i64 0, .int .i64 0] 96)) (w0.heap.size + 1) s 0 0)
    (hr : Rdr w2 (w0.heap.size + 1) s a c) (ho : Only (w0.heap.size + 1) ((w0.alloc (.cells #[.int .i64 0, .string ⟨#[]⟩] 28)).alloc (.cells #[.string s, .int .i64 0, .int .i64 0] 96)) w2) (k : Int) :
    NX w0 w2.heap.size s a c k ⟨#[]⟩ (w2.alloc (.cells #[.int .i64 k, .string ⟨#[]⟩] 28)) := by
  have hz := ho.size
  have hb : Below w0.heap.size w0 ((w0.alloc (.cells #[.int .i64 0, .string ⟨#[]⟩] 28)).alloc (.cells #[.string s, .int .i64 0, .int .i64 0] 96)) := ((Below.refl _ _).alloc (Nat.le_refl _) _).alloc (by simp) _
  simp at hz
  exact ⟨Blk.alloc hr _, Blk.new _ _ _, Blk.alloc (Blk.only ((Blk.new w0 _ _).alloc _) ho (by omega)) _, (Only.below hb ho (by omega) hb.size).alloc (by omega) _, by omega⟩
end


set_option maxRecDepth 100000 in
set_option maxHeartbeats 1000000 in
theorem next_a (s : ByteArray) (w : World) (hs : s.size ≤ 1048576) (hc : ¬ iC s 0 99 = 0) :
    Calls Tryd.prog 11 #[.string s] w fun e w' => ∃ f, e = .returned (.tuple #[.agg #[.int .i64 0, .string ⟨#[]⟩], .int .i64 0, .iface 56 (.pointer (some ⟨f, 0, none⟩))]) ∧ w.heap.size ≤ f ∧ Blk w' f (flt (0) (iC s 0 99)) 58 ∧ Below w.heap.size w w' := by
  have HV1 : Hid (iV' s 0 99 0 = 0) := Lib.hid (iV_bad hc)
  have HA1 : Hid (iA' s 0 99 0 = 0) := Lib.hid (iA_bad hc)
  have HC1 : Hid (iC' s 0 99 0 = iC s 0 99) := Lib.hid rfl
  have HV2 : Hid (tV' s 0 4096 (iC s 0 99) = ⟨#[]⟩) := Lib.hid (by unfold tV'; rw [if_neg hc])
  have HA2 : Hid (tA' s 0 4096 (iC s 0 99) = 0) := Lib.hid (by unfold tA'; rw [if_neg hc])
  have HC2 : Hid (tC' s 0 4096 (iC s 0 99) = iC s 0 99) := Lib.hid (by unfold tC'; rw [if_neg hc])
  have HC3 : Hid (failC (iC s 0 99) (cC s 0) = iC s 0 99) := Lib.hid (by unfold failC; rw [if_neg hc])
  have HLE : Hid (0 ≤ s.size) := Lib.hid (Nat.zero_le _)
  have HLE2 : Hid (0 ≤ s.size) := Lib.hid (Nat.zero_le _)
  have HB := Lib.hid hc
  have HB2 := Lib.hid hc
  clear hc
  go_enter Tryd.func11, Tryd.ntmps11
  go_wp2_with fail
  refine (new_any s _).mono ?_
  rintro e w1 ⟨rfl, rfl⟩
  have hr1 : Rdr ((w.alloc (.cells #[.int .i64 0, .string ⟨#[]⟩] 28)).alloc (.cells #[.string s, .int .i64 0, .int .i64 0] 96)) (w.heap.size + 1) s 0 0 := by
    have := Blk.new (w.alloc (.cells #[.int .i64 0, .string ⟨#[]⟩] 28)) #[.string s, .int .i64 0, .int .i64 0] 96
    simpa [Rdr] using this
  have HR1 := Lib.hid hr1; clear hr1
  go_wp2_with fail
  refine (rdInt_any (w.heap.size + 1) 0 s 99 0 _ HR1.out (by omega) hs (by omega)).mono ?_
  rw [HV1.out, HA1.out, HC1.out]
  rintro e w2 ⟨rfl, hr2, ho2⟩
  have HN2 := Lib.hid (NX.new HR1.out hr2 ho2 0); clear HR1 hr2 ho2
  go_wp2_with fail
  refine (err_some _ _ _ _ _ HN2.out.rd HB.out).mono ?_
  rintro e w3 ⟨rfl, _, b3⟩
  have HN3 := Lib.hid (HN2.out.below b3); clear HN2 b3
  go_wp2_with fail
  refine (rdText_any (w.heap.size + 1) (0) s 4096 (iC s 0 99) _ HN3.out.rd HLE.out hs (by omega)).mono ?_
  rw [HV2.out, HA2.out, HC2.out]
  rintro e w4 ⟨rfl, hr4, ho4⟩
  have hn4 := HN3.out.left hr4 ho4; clear HN3 hr4 ho4
  have f4 := Blk.free hn4.fr 1
  have c4 := hn4.c1
  have HN4 := Lib.hid (hn4.load ⟨#[]⟩); clear hn4
  go_wp2_with fail
  refine (at_any _ _ _ _ _ HN4.out.rd).mono ?_
  rintro e w5 ⟨rfl, rfl⟩
  clear f4 c4
  go_wp2_with fail
  refine (check_any s _ _ hs HLE2.out).mono ?_
  rintro e w5 ⟨rfl, b5⟩
  have HN5 := Lib.hid (HN4.out.below b5); clear HN4 b5
  go_wp2_with fail
  refine (fail_any _ _ _ _ _ _ HN5.out.rd).mono ?_
  rw [HC3.out]
  rintro e w6 ⟨rfl, hr6, ho6⟩
  have HN6 := Lib.hid (HN5.out.left hr6 ho6); clear HN5 hr6 ho6
  go_wp2_with fail
  refine (err_some _ _ _ _ _ HN6.out.rd HB2.out).mono ?_
  rintro e w7 ⟨rfl, hf, b7⟩
  have HF := Lib.hid hf; clear hf
  have hn7 := HN6.out.below b7
  have hlt := Nat.le_of_lt (Nat.lt_of_lt_of_le (Blk.lt HN6.out.rs) (Nat.le_refl _))
  have hne := Blk.lt HN6.out.rs
  have q0 := hn7.q0
  have q1 := hn7.q1
  have g0 := Blk.free hn7.rs 0
  have g1 := Blk.free hn7.rs 1
  have HN7 := Lib.hid hn7; clear hn7 b7 HN6
  go_wp2
  refine bodyPost_ret (v := .tuple #[.agg #[.int .i64 0, .string ⟨#[]⟩], .int .i64 0, .iface 56 (.pointer (some ⟨w6.heap.size, 0, none⟩))]) ?_ rfl ⟨_, rfl, hlt, Blk.far (Blk.far HF.out (by omega) _ _) (by omega) _ _, Below.setCell (Below.setCell HN7.out.bel (Nat.le_refl _) _) (Nat.le_refl _) _⟩
  simp [results, Tryd.results11, go_sem, q0, q1]


set_option maxRecDepth 100000 in
set_option maxHeartbeats 1000000 in
theorem next_b (s : ByteArray) (w : World) (hs : s.size ≤ 1048576) (hc : iC s 0 99 = 0) (hv : iV s 0 99 = 0) :
    Calls Tryd.prog 11 #[.string s] w fun e w' => ∃ f, e = .returned (.tuple #[.agg #[.int .i64 0, .string ⟨#[]⟩], .int .i64 0, .iface 56 (.pointer (some ⟨f, 0, none⟩))]) ∧ w.heap.size ≤ f ∧ Blk w' f (flt (0) (5)) 58 ∧ Below w.heap.size w w' := by
  have HV1 : Hid (iV' s 0 99 0 = 0) := Lib.hid hv
  have HA1 : Hid (iA' s 0 99 0 = iP s) := Lib.hid rfl
  have HC1 : Hid (iC' s 0 99 0 = 0) := Lib.hid hc
  clear hc hv
  go_enter Tryd.func11, Tryd.ntmps11
  go_wp2_with fail
  refine (new_any s _).mono ?_
  rintro e w1 ⟨rfl, rfl⟩
  have hr1 : Rdr ((w.alloc (.cells #[.int .i64 0, .string ⟨#[]⟩] 28)).alloc (.cells #[.string s, .int .i64 0, .int .i64 0] 96)) (w.heap.size + 1) s 0 0 := by
    have := Blk.new (w.alloc (.cells #[.int .i64 0, .string ⟨#[]⟩] 28)) #[.string s, .int .i64 0, .int .i64 0] 96
    simpa [Rdr] using this
  have HR1 := Lib.hid hr1; clear hr1
  go_wp2_with fail
  refine (rdInt_any (w.heap.size + 1) 0 s 99 0 _ HR1.out (by omega) hs (by omega)).mono ?_
  rw [HV1.out, HA1.out, HC1.out]
  rintro e w2 ⟨rfl, hr2, ho2⟩
  have HR := Lib.hid (Blk.only ((Blk.new w #[.int .i64 0, .string ⟨#[]⟩] 28).alloc (.cells #[.string s, .int .i64 0, .int .i64 0] 96)) ho2 (by omega))
  have HB := Lib.hid (Only.below (((Below.refl w.heap.size w).alloc (Nat.le_refl _) (.cells #[.int .i64 0, .string ⟨#[]⟩] 28)).alloc (by simp) (.cells #[.string s, .int .i64 0, .int .i64 0] 96)) ho2 (by omega) (by simp; omega))
  have HN2 := Lib.hid (NX.new HR1.out hr2 ho2 0); clear HR1 hr2 ho2
  go_wp2_with fail
  refine (err_none _ _ _ _ HN2.out.rd).mono ?_
  rintro e w3 ⟨rfl, rfl⟩
  have c0 := HN2.out.c0
  have hlt := Blk.lt HR.out
  have q0 : w2.cell? ⟨w.heap.size, 0, none⟩ = some (.int .i64 0) := by rw [Blk.cell HR.out]; rfl
  have q1 : w2.cell? ⟨w.heap.size, 1, none⟩ = some (.string ⟨#[]⟩) := by rw [Blk.cell HR.out]; rfl
  have g0 := Blk.free HR.out 0
  have g1 := Blk.free HR.out 1
  go_wp2
  refine bodyPost_ret (v := .tuple #[.agg #[.int .i64 0, .string ⟨#[]⟩], .int .i64 0, .iface 56 (.pointer (some ⟨w2.heap.size + 1, 0, none⟩))]) ?_ rfl ⟨_, rfl, by omega, ?_, ?_⟩
  · have hfin := ((Blk.set (Blk.set HR.out 0 (.int .i64 0)) 1 (.string ⟨#[]⟩)).alloc (.cells #[.int .i64 0, .string ⟨#[]⟩] 28)).alloc (.cells #[.int .i64 0, .iface 30 (.int .i64 5)] 58)
    have r0 := Blk.cell hfin 0
    have r1 := Blk.cell hfin 1
    clear hfin q0 q1
    simp [results, Tryd.results11, go_sem, r0, r1]
  · have := Blk.new (((w2.setCell ⟨w.heap.size, 0, none⟩ (.int .i64 0)).setCell ⟨w.heap.size, 1, none⟩ (.string ⟨#[]⟩)).alloc (.cells #[.int .i64 0, .string ⟨#[]⟩] 28)) #[.int .i64 0, .iface 30 (.int .i64 5)] 58
    simpa [flt, World.setCell] using this
  · exact (((HB.out.setCell (Nat.le_refl _) _).setCell (Nat.le_refl _) _).alloc (by simp [World.setCell]; omega) _).alloc (by simp [World.setCell]; omega) _


set_option maxRecDepth 100000 in
set_option maxHeartbeats 1000000 in
theorem next_c1 (s : ByteArray) (w : World) (hs : s.size ≤ 1048576) (hc : iC s 0 99 = 0) (hv : ¬ iV s 0 99 = 0) (ht : ¬ tC s (iP s) 4096 = 0) :
    Calls Tryd.prog 11 #[.string s] w fun e w' => ∃ f, e = .returned (.tuple #[.agg #[.int .i64 0, .string ⟨#[]⟩], .int .i64 0, .iface 56 (.pointer (some ⟨f, 0, none⟩))]) ∧ w.heap.size ≤ f ∧ Blk w' f (flt (iP s) (tC s (iP s) 4096)) 58 ∧ Below w.heap.size w w' := by
  have HV1 : Hid (iV' s 0 99 0 = iV s 0 99) := Lib.hid rfl
  have HA1 : Hid (iA' s 0 99 0 = iP s) := Lib.hid rfl
  have HC1 : Hid (iC' s 0 99 0 = 0) := Lib.hid hc
  have HV2 : Hid (tV' s (iP s) 4096 0 = ⟨#[]⟩) := Lib.hid (tV_bad ht)
  have HA2 : Hid (tA' s (iP s) 4096 0 = iP s) := Lib.hid (tA_bad ht)
  have HC2 : Hid (tC' s (iP s) 4096 0 = tC s (iP s) 4096) := Lib.hid rfl
  have HC3 : Hid (failC (tC s (iP s) 4096) (cC s (iP s)) = tC s (iP s) 4096) := Lib.hid (by unfold failC; rw [if_neg ht])
  have HLE := Lib.hid (iP_le s)
  have HLE2 : Hid (iP s ≤ s.size) := Lib.hid (iP_le s)
  have hv' : ((iV s 0 99 : Int) == 0) = false := by simpa using hv
  have HB2 := Lib.hid ht
  clear hc hv ht
  go_enter Tryd.func11, Tryd.ntmps11
  go_wp2_with fail
  refine (new_any s _).mono ?_
  rintro e w1 ⟨rfl, rfl⟩
  have hr1 : Rdr ((w.alloc (.cells #[.int .i64 0, .string ⟨#[]⟩] 28)).alloc (.cells #[.string s, .int .i64 0, .int .i64 0] 96)) (w.heap.size + 1) s 0 0 := by
    have := Blk.new (w.alloc (.cells #[.int .i64 0, .string ⟨#[]⟩] 28)) #[.string s, .int .i64 0, .int .i64 0] 96
    simpa [Rdr] using this
  have HR1 := Lib.hid hr1; clear hr1
  go_wp2_with fail
  refine (rdInt_any (w.heap.size + 1) 0 s 99 0 _ HR1.out (by omega) hs (by omega)).mono ?_
  rw [HV1.out, HA1.out, HC1.out]
  rintro e w2 ⟨rfl, hr2, ho2⟩
  have HN2 := Lib.hid (NX.new HR1.out hr2 ho2 (iV s 0 99 : Int)); clear HR1 hr2 ho2
  have c0 := HN2.out.c0
  go_wp2_with fail
  refine (err_none _ _ _ _ HN2.out.rd).mono ?_
  rintro e w3 ⟨rfl, rfl⟩
  go_wp2_with fail
  refine (rdText_any (w.heap.size + 1) (iP s) s 4096 (0) _ HN2.out.rd HLE.out hs (by omega)).mono ?_
  rw [HV2.out, HA2.out, HC2.out]
  rintro e w4 ⟨rfl, hr4, ho4⟩
  have hn4 := HN2.out.left hr4 ho4; clear HN2 hr4 ho4
  have f4 := Blk.free hn4.fr 1
  have c4 := hn4.c1
  have HN4 := Lib.hid (hn4.load ⟨#[]⟩); clear hn4
  go_wp2_with fail
  refine (at_any _ _ _ _ _ HN4.out.rd).mono ?_
  rintro e w5 ⟨rfl, rfl⟩
  clear f4 c4
  go_wp2_with fail
  refine (check_any s _ _ hs HLE2.out).mono ?_
  rintro e w5 ⟨rfl, b5⟩
  have HN5 := Lib.hid (HN4.out.below b5); clear HN4 b5
  go_wp2_with fail
  refine (fail_any _ _ _ _ _ _ HN5.out.rd).mono ?_
  rw [HC3.out]
  rintro e w6 ⟨rfl, hr6, ho6⟩
  have HN6 := Lib.hid (HN5.out.left hr6 ho6); clear HN5 hr6 ho6
  go_wp2_with fail
  refine (err_some _ _ _ _ _ HN6.out.rd HB2.out).mono ?_
  rintro e w7 ⟨rfl, hf, b7⟩
  have HF := Lib.hid hf; clear hf
  have hn7 := HN6.out.below b7
  have hlt := Nat.le_of_lt (Nat.lt_of_lt_of_le (Blk.lt HN6.out.rs) (Nat.le_refl _))
  have hne := Blk.lt HN6.out.rs
  have q0 := hn7.q0
  have q1 := hn7.q1
  have g0 := Blk.free hn7.rs 0
  have g1 := Blk.free hn7.rs 1
  have HN7 := Lib.hid hn7; clear hn7 b7 HN6
  go_wp2
  refine bodyPost_ret (v := .tuple #[.agg #[.int .i64 0, .string ⟨#[]⟩], .int .i64 0, .iface 56 (.pointer (some ⟨w6.heap.size, 0, none⟩))]) ?_ rfl ⟨_, rfl, hlt, Blk.far (Blk.far HF.out (by omega) _ _) (by omega) _ _, Below.setCell (Below.setCell HN7.out.bel (Nat.le_refl _) _) (Nat.le_refl _) _⟩
  simp [results, Tryd.results11, go_sem, q0, q1]


set_option maxRecDepth 100000 in
set_option maxHeartbeats 1000000 in
theorem next_c2 (s : ByteArray) (w : World) (hs : s.size ≤ 1048576) (hc : iC s 0 99 = 0) (hv : ¬ iV s 0 99 = 0) (ht : tC s (iP s) 4096 = 0) (hk : ¬ cC s (tP s) = 0) :
    Calls Tryd.prog 11 #[.string s] w fun e w' => ∃ f, e = .returned (.tuple #[.agg #[.int .i64 0, .string ⟨#[]⟩], .int .i64 0, .iface 56 (.pointer (some ⟨f, 0, none⟩))]) ∧ w.heap.size ≤ f ∧ Blk w' f (flt (tP s) (cC s (tP s))) 58 ∧ Below w.heap.size w w' := by
  have HV1 : Hid (iV' s 0 99 0 = iV s 0 99) := Lib.hid rfl
  have HA1 : Hid (iA' s 0 99 0 = iP s) := Lib.hid rfl
  have HC1 : Hid (iC' s 0 99 0 = 0) := Lib.hid hc
  have HV2 : Hid (tV' s (iP s) 4096 0 = tV s (iP s) 4096) := Lib.hid rfl
  have HA2 : Hid (tA' s (iP s) 4096 0 = tP s) := Lib.hid rfl
  have HC2 : Hid (tC' s (iP s) 4096 0 = 0) := Lib.hid ht
  have HC3 : Hid (failC (0) (cC s (tP s)) = cC s (tP s)) := Lib.hid rfl
  have HLE := Lib.hid (iP_le s)
  have HLE2 : Hid (tP s ≤ s.size) := Lib.hid (tP_le s)
  have hv' : ((iV s 0 99 : Int) == 0) = false := by simpa using hv
  have HB2 := Lib.hid hk
  clear hc hv ht hk
  go_enter Tryd.func11, Tryd.ntmps11
  go_wp2_with fail
  refine (new_any s _).mono ?_
  rintro e w1 ⟨rfl, rfl⟩
  have hr1 : Rdr ((w.alloc (.cells #[.int .i64 0, .string ⟨#[]⟩] 28)).alloc (.cells #[.string s, .int .i64 0, .int .i64 0] 96)) (w.heap.size + 1) s 0 0 := by
    have := Blk.new (w.alloc (.cells #[.int .i64 0, .string ⟨#[]⟩] 28)) #[.string s, .int .i64 0, .int .i64 0] 96
    simpa [Rdr] using this
  have HR1 := Lib.hid hr1; clear hr1
  go_wp2_with fail
  refine (rdInt_any (w.heap.size + 1) 0 s 99 0 _ HR1.out (by omega) hs (by omega)).mono ?_
  rw [HV1.out, HA1.out, HC1.out]
  rintro e w2 ⟨rfl, hr2, ho2⟩
  have HN2 := Lib.hid (NX.new HR1.out hr2 ho2 (iV s 0 99 : Int)); clear HR1 hr2 ho2
  have c0 := HN2.out.c0
  go_wp2_with fail
  refine (err_none _ _ _ _ HN2.out.rd).mono ?_
  rintro e w3 ⟨rfl, rfl⟩
  go_wp2_with fail
  refine (rdText_any (w.heap.size + 1) (iP s) s 4096 (0) _ HN2.out.rd HLE.out hs (by omega)).mono ?_
  rw [HV2.out, HA2.out, HC2.out]
  rintro e w4 ⟨rfl, hr4, ho4⟩
  have hn4 := HN2.out.left hr4 ho4; clear HN2 hr4 ho4
  have f4 := Blk.free hn4.fr 1
  have c4 := hn4.c1
  have HN4 := Lib.hid (hn4.load (tV s (iP s) 4096)); clear hn4
  go_wp2_with fail
  refine (at_any _ _ _ _ _ HN4.out.rd).mono ?_
  rintro e w5 ⟨rfl, rfl⟩
  clear f4 c4
  go_wp2_with fail
  refine (check_any s _ _ hs HLE2.out).mono ?_
  rintro e w5 ⟨rfl, b5⟩
  have HN5 := Lib.hid (HN4.out.below b5); clear HN4 b5
  go_wp2_with fail
  refine (fail_any _ _ _ _ _ _ HN5.out.rd).mono ?_
  rw [HC3.out]
  rintro e w6 ⟨rfl, hr6, ho6⟩
  have HN6 := Lib.hid (HN5.out.left hr6 ho6); clear HN5 hr6 ho6
  go_wp2_with fail
  refine (err_some _ _ _ _ _ HN6.out.rd HB2.out).mono ?_
  rintro e w7 ⟨rfl, hf, b7⟩
  have HF := Lib.hid hf; clear hf
  have hn7 := HN6.out.below b7
  have hlt := Nat.le_of_lt (Nat.lt_of_lt_of_le (Blk.lt HN6.out.rs) (Nat.le_refl _))
  have hne := Blk.lt HN6.out.rs
  have q0 := hn7.q0
  have q1 := hn7.q1
  have g0 := Blk.free hn7.rs 0
  have g1 := Blk.free hn7.rs 1
  have HN7 := Lib.hid hn7; clear hn7 b7 HN6
  go_wp2
  refine bodyPost_ret (v := .tuple #[.agg #[.int .i64 0, .string ⟨#[]⟩], .int .i64 0, .iface 56 (.pointer (some ⟨w6.heap.size, 0, none⟩))]) ?_ rfl ⟨_, rfl, hlt, Blk.far (Blk.far HF.out (by omega) _ _) (by omega) _ _, Below.setCell (Below.setCell HN7.out.bel (Nat.le_refl _) _) (Nat.le_refl _) _⟩
  simp [results, Tryd.results11, go_sem, q0, q1]


set_option maxRecDepth 100000 in
set_option maxHeartbeats 1000000 in
theorem next_d (s : ByteArray) (w : World) (hs : s.size ≤ 1048576) (hc : iC s 0 99 = 0) (hv : ¬ iV s 0 99 = 0) (ht : tC s (iP s) 4096 = 0) (hk : cC s (tP s) = 0) :
    Calls Tryd.prog 11 #[.string s] w fun e w' => e = .returned (.tuple #[.agg #[.int .i64 (iV s 0 99 : Int), .string (tV s (iP s) 4096)], .int .i64 ((tP s : Int) + 4), .nilIface]) ∧ Below w.heap.size w w' := by
  have HV1 : Hid (iV' s 0 99 0 = iV s 0 99) := Lib.hid rfl
  have HA1 : Hid (iA' s 0 99 0 = iP s) := Lib.hid rfl
  have HC1 : Hid (iC' s 0 99 0 = 0) := Lib.hid hc
  have HV2 : Hid (tV' s (iP s) 4096 0 = tV s (iP s) 4096) := Lib.hid rfl
  have HA2 : Hid (tA' s (iP s) 4096 0 = tP s) := Lib.hid rfl
  have HC2 : Hid (tC' s (iP s) 4096 0 = 0) := Lib.hid ht
  have HC3 : Hid (failC (0) (cC s (tP s)) = 0) := Lib.hid hk
  have HLE := Lib.hid (iP_le s)
  have HLE2 : Hid (tP s ≤ s.size) := Lib.hid (tP_le s)
  have hv' : ((iV s 0 99 : Int) == 0) = false := by simpa using hv
  have hw : IntKind.i64.wrap ((tP s : Int) + 4) = (tP s : Int) + 4 := by rw [IntKind.wrap_i64]; have := tP_le s; omega
  clear hc hv ht hk
  go_enter Tryd.func11, Tryd.ntmps11
  go_wp2_with fail
  refine (new_any s _).mono ?_
  rintro e w1 ⟨rfl, rfl⟩
  have hr1 : Rdr ((w.alloc (.cells #[.int .i64 0, .string ⟨#[]⟩] 28)).alloc (.cells #[.string s, .int .i64 0, .int .i64 0] 96)) (w.heap.size + 1) s 0 0 := by
    have := Blk.new (w.alloc (.cells #[.int .i64 0, .string ⟨#[]⟩] 28)) #[.string s, .int .i64 0, .int .i64 0] 96
    simpa [Rdr] using this
  have HR1 := Lib.hid hr1; clear hr1
  go_wp2_with fail
  refine (rdInt_any (w.heap.size + 1) 0 s 99 0 _ HR1.out (by omega) hs (by omega)).mono ?_
  rw [HV1.out, HA1.out, HC1.out]
  rintro e w2 ⟨rfl, hr2, ho2⟩
  have HN2 := Lib.hid (NX.new HR1.out hr2 ho2 (iV s 0 99 : Int)); clear HR1 hr2 ho2
  have c0 := HN2.out.c0
  go_wp2_with fail
  refine (err_none _ _ _ _ HN2.out.rd).mono ?_
  rintro e w3 ⟨rfl, rfl⟩
  go_wp2_with fail
  refine (rdText_any (w.heap.size + 1) (iP s) s 4096 (0) _ HN2.out.rd HLE.out hs (by omega)).mono ?_
  rw [HV2.out, HA2.out, HC2.out]
  rintro e w4 ⟨rfl, hr4, ho4⟩
  have hn4 := HN2.out.left hr4 ho4; clear HN2 hr4 ho4
  have f4 := Blk.free hn4.fr 1
  have c4 := hn4.c1
  have HN4 := Lib.hid (hn4.load (tV s (iP s) 4096)); clear hn4
  go_wp2_with fail
  refine (at_any _ _ _ _ _ HN4.out.rd).mono ?_
  rintro e w5 ⟨rfl, rfl⟩
  clear f4 c4
  go_wp2_with fail
  refine (check_any s _ _ hs HLE2.out).mono ?_
  rintro e w5 ⟨rfl, b5⟩
  have HN5 := Lib.hid (HN4.out.below b5); clear HN4 b5
  go_wp2_with fail
  refine (fail_any _ _ _ _ _ _ HN5.out.rd).mono ?_
  rw [HC3.out]
  rintro e w6 ⟨rfl, hr6, ho6⟩
  have HN6 := Lib.hid (HN5.out.left hr6 ho6); clear HN5 hr6 ho6
  go_wp2_with fail
  refine (err_none _ _ _ _ HN6.out.rd).mono ?_
  rintro e w7 ⟨rfl, rfl⟩
  have c0 := HN6.out.c0
  have c1 := HN6.out.c1
  have q0 := HN6.out.q0
  have q1 := HN6.out.q1
  have g0 := Blk.free HN6.out.rs 0
  have g1 := Blk.free HN6.out.rs 1
  go_wp2
  go_region_with (go_at_call 33; refine (at_any (w.heap.size + 1) (tP s) s 0 _ (by first | exact HN6.out.rd | exact Blk.far HN6.out.rd (by omega) _ _ | exact Blk.far (Blk.far HN6.out.rd (by omega) _ _) (by omega) _ _)).mono ?_; rintro e w9 ⟨rfl, rfl⟩)
  all_goals
    go_wp2
    refine bodyPost_ret (v := .tuple #[.agg #[.int .i64 (iV s 0 99 : Int), .string (tV s (iP s) 4096)], .int .i64 ((tP s : Int) + 4), .nilIface]) ?_ rfl ⟨rfl, ?_⟩
    · simp [results, Tryd.results11, go_sem, q0, q1]
    · exact (HN6.out.bel.drew.setCell (Nat.le_refl _) _).setCell (Nat.le_refl _) _


theorem next_bad (s : ByteArray) (w : World) (hs : s.size ≤ 1048576) (h : ¬ xC s = 0) :
    Calls Tryd.prog 11 #[.string s] w fun e w' => ∃ f, e = .returned (.tuple #[.agg #[.int .i64 0, .string ⟨#[]⟩], .int .i64 0, .iface 56 (.pointer (some ⟨f, 0, none⟩))]) ∧ w.heap.size ≤ f ∧ Blk w' f (flt (xAt s) (xC s)) 58 ∧ Below w.heap.size w w' := by
  by_cases h1 : iC s 0 99 = 0
  · by_cases h2 : iV s 0 99 = 0
    · have e1 : xC s = 5 := by unfold xC; rw [if_pos h1, if_pos h2]
      have e2 : xAt s = 0 := by unfold xAt; rw [if_pos h1, if_pos h2]
      rw [e1, e2]; exact next_b s w hs h1 h2
    · by_cases h3 : tC s (iP s) 4096 = 0
      · have e1 : xC s = cC s (tP s) := by unfold xC; rw [if_pos h1, if_neg h2, if_pos h3]
        have h4 : ¬ cC s (tP s) = 0 := by rw [e1] at h; exact h
        have e2 : xAt s = tP s := by unfold xAt; rw [if_pos h1, if_neg h2, if_pos h3, if_neg h4]
        rw [e1, e2]; exact next_c2 s w hs h1 h2 h3 h4
      · have e1 : xC s = tC s (iP s) 4096 := by unfold xC; rw [if_pos h1, if_neg h2, if_neg h3]
        have e2 : xAt s = iP s := by unfold xAt; rw [if_pos h1, if_neg h2, if_neg h3]
        rw [e1, e2]; exact next_c1 s w hs h1 h2 h3
  · have e1 : xC s = iC s 0 99 := by unfold xC; rw [if_neg h1]
    have e2 : xAt s = 0 := by unfold xAt; rw [if_neg h1]
    rw [e1, e2]; exact next_a s w hs h1
theorem next_good (s : ByteArray) (w : World) (hs : s.size ≤ 1048576) (h : xC s = 0) :
    Calls Tryd.prog 11 #[.string s] w fun e w' => e = .returned (.tuple #[.agg #[.int .i64 (xK s : Int), .string (xL s)], .int .i64 (xN s : Int), .nilIface]) ∧ Below w.heap.size w w' := by
  obtain ⟨h1, h2, h3, h4⟩ := x_good h
  have e1 : xK s = iV s 0 99 := by unfold xK; rw [if_pos h]
  have e2 : xL s = tV s (iP s) 4096 := by unfold xL; rw [if_pos h]
  have e3 : (xN s : Int) = (tP s : Int) + 4 := by unfold xN; rw [if_pos h]; omega
  rw [e1, e2, e3]; exact next_d s w hs h1 h2 h3 h4

end Go.Proofs.YtcmdemblegdelaaDoor
