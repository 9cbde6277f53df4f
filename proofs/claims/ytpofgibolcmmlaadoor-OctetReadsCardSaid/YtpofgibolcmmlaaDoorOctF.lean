/-
  What Err and End of package octet's Reader answer.
  Conditions: the reader lies in a block of its own.
-/
import Derived.Test.YtpofgibolcmmlaaDoorOctT
import Derived.StillTailTactics
import Derived.RegionTactic
namespace Go.Proofs.YtpofgibolcmmlaaDoor
open Go.RowKit

theorem err_none (r a : Nat) (s : ByteArray) (w : World) (h : Rdr w r s a 0) :
    Calls Tryd.prog 22 #[.pointer (some ⟨r, 0, none⟩)] w fun e w' => e = .returned .nilIface ∧ w = w' := by
  have h2 := h.c2
  clear h
  go_enter Tryd.func22, Tryd.ntmps22
  go_wp2
  go_ret
  exact ⟨rfl, rfl⟩

/-- The cells of an error with a place. -/
def flt (a : Nat) (c : Int) : Array Value := #[.int .i64 (a : Int), .iface 26 (.int .i64 c)]

set_option maxHeartbeats 400000 in
theorem err_some (r a : Nat) (s : ByteArray) (c : Int) (w : World) (h : Rdr w r s a c) (hc : ¬ c = 0) :
    Calls Tryd.prog 22 #[.pointer (some ⟨r, 0, none⟩)] w fun e w' => e = .returned (.iface 67 (.pointer (some ⟨w.heap.size, 0, none⟩))) ∧ Blk w' w.heap.size (flt a c) 71 ∧ Below w.heap.size w w' := by
  have h1 := h.c1
  have h2 := h.c2
  have hc' : (c == 0) = false := by simpa using hc
  clear h hc
  go_enter Tryd.func22, Tryd.ntmps22
  go_wp2
  go_region
  all_goals
    go_wp2
    go_ret
    exact ⟨rfl, Blk.new _ _ _, ((Below.refl _ _).alloc (Nat.le_refl _) _).drew⟩

/-- What is wrong behind End. -/
def endC (s : ByteArray) (a : Nat) (c : Int) : Int := if a < s.size then failC c 6 else c

set_option maxHeartbeats 400000 in
theorem end_none (r a : Nat) (s : ByteArray) (c : Int) (w : World) (h : Rdr w r s a c) (ha : a ≤ s.size) (hs : s.size ≤ 1048576) (he : endC s a c = 0) :
    Calls Tryd.prog 23 #[.pointer (some ⟨r, 0, none⟩)] w fun e w' => e = .returned .nilIface ∧ Rdr w' r s a 0 ∧ Only r w w' := by
  have hl : ¬ a < s.size := by
    intro hl
    unfold endC at he
    rw [if_pos hl] at he
    unfold failC at he
    split at he
    · simp at he
    · rename_i h0; exact h0 he
  have hc : c = 0 := by unfold endC at he; rw [if_neg hl] at he; exact he
  subst hc
  have HL := Lib.hid (left_any r a s 0 w h ha hs)
  have HH := Lib.hid h; clear h he
  go_enter Tryd.func23, Tryd.ntmps23
  go_wp2_with fail
  refine HL.out.mono ?_
  rintro e w1 ⟨rfl, n, rfl⟩
  go_wp2_with fail
  refine (err_none r a s _ (HH.out.drewN n)).mono ?_
  rintro e w2 ⟨rfl, rfl⟩
  go_wp2
  go_ret
  exact ⟨rfl, HH.out.drewN _, (Only.refl r w).drewN _⟩

set_option maxHeartbeats 400000 in
theorem end_some (r a : Nat) (s : ByteArray) (c : Int) (w : World) (h : Rdr w r s a c) (ha : a ≤ s.size) (hs : s.size ≤ 1048576) (he : ¬ endC s a c = 0) :
    Calls Tryd.prog 23 #[.pointer (some ⟨r, 0, none⟩)] w fun e w' => ∃ b, e = .returned (.iface 67 (.pointer (some ⟨b, 0, none⟩))) ∧ w.heap.size ≤ b ∧ Blk w' b (flt a (endC s a c)) 71 ∧ Rdr w' r s a (endC s a c) ∧ Only r w w' := by
  have HL := Lib.hid (left_any r a s c w h ha hs)
  have HH := Lib.hid h; clear h
  by_cases hl : a < s.size
  · have HE : Hid (endC s a c = failC c 6) := Lib.hid (by unfold endC; rw [if_pos hl])
    have HN := Lib.hid he; clear he
    go_enter Tryd.func23, Tryd.ntmps23
    go_wp2_with fail
    refine HL.out.mono ?_
    rintro e w1 ⟨rfl, n, rfl⟩
    go_wp2_with fail
    refine (fail_any r a s c 6 _ (HH.out.drewN n)).mono ?_
    rintro e w2 ⟨rfl, hr2, ho2⟩
    have HR2 := Lib.hid hr2; clear hr2
    go_wp2_with fail
    refine (err_some r a s _ _ HR2.out (by rw [← HE.out]; exact HN.out)).mono ?_
    rintro e w3 ⟨rfl, hb, hbl⟩
    have HB := Lib.hid hb; clear hb
    go_wp2
    go_ret
    exact ⟨_, rfl, ho2.size, by rw [HE.out]; exact HB.out, by rw [HE.out]; exact Blk.below HR2.out hbl, (((Only.refl r w).drewN _).trans ho2).trans (only_of hbl)⟩
  · have HE : Hid (endC s a c = c) := Lib.hid (by unfold endC; rw [if_neg hl])
    have HN := Lib.hid he; clear he
    go_enter Tryd.func23, Tryd.ntmps23
    go_wp2_with fail
    refine HL.out.mono ?_
    rintro e w1 ⟨rfl, n, rfl⟩
    go_wp2_with fail
    refine (err_some r a s _ _ (HH.out.drewN n) (by rw [← HE.out]; exact HN.out)).mono ?_
    rintro e w3 ⟨rfl, hb, hbl⟩
    have HB := Lib.hid hb; clear hb
    go_wp2
    go_ret
    exact ⟨_, rfl, Nat.le_refl _, by rw [HE.out]; exact HB.out, by rw [HE.out]; exact Blk.below (HH.out.drewN n) hbl, ((Only.refl r w).drewN n).trans (only_of hbl)⟩
end Go.Proofs.YtpofgibolcmmlaaDoor
