/-
  A number is written in one way alone: plain mathematics; and the walk of the law OctetOne.
  Conditions: package errors' own variable holds the handle of the type error.
-/
import Derived.Test.YtpofgibolcmmlaaDoorOctX
import Derived.OpenShut
import Derived.Deep.RegionHeld3
import Derived.IntWalk
namespace Go.Proofs.YtpofgibolcmmlaaDoor
open Go.RowKit

theorem nC_zero {s : ByteArray} {a : Nat} (h : nC s a = 0) : a < s.size ∧ bt s a ≤ 8 ∧ a + 1 + bt s a ≤ s.size ∧ (bt s a = 0 ∨ bt s (a + 1) ≠ 0) := by
  unfold nC at h
  split at h
  · simp at h
  · split at h
    · simp at h
    · split at h
      · simp at h
      · split at h
        · simp at h
        · omega

theorem win_succ (s : ByteArray) (a k : Nat) (h : a < s.size) : win s a (k + 1) = UInt8.ofNat (bt s a) :: win s (a + 1) k := by
  have h' : a < s.data.toList.length := by rw [← Lib.size_eq]; exact h
  unfold win bt
  rw [List.drop_eq_getElem_cons h', List.take_succ_cons, List.getD, List.getElem?_eq_getElem h', Option.getD_some]
  simp

theorem win_head (s : ByteArray) (a k : Nat) (h : a + k ≤ s.size) (h0 : k = 0 ∨ bt s a ≠ 0) : (win s a k).head? ≠ some 0 := by
  rcases k with _ | k
  · simp [win]
  · rw [win_succ s a k (by omega), List.head?_cons]
    intro e
    have e2 := congrArg UInt8.toNat (Option.some.inj e)
    rw [UInt8.toNat_ofNat', Nat.mod_eq_of_lt (bt_lt s a)] at e2
    rcases h0 with h0 | h0
    · omega
    · exact h0 e2

theorem one_way {s : ByteArray} {a : Nat} (h : nC s a = 0) : numS (nV s a) = s.extract a (nA s a) := by
  obtain ⟨h1, h2, h3, h4⟩ := nC_zero h
  have hv : nV s a = valB (win s (a + 1) (bt s a)) := by unfold nV; rw [if_pos h]
  have hA : nA s a = a + (bt s a + 1) := by unfold nA; rw [if_pos h]; omega
  have hl := win_len s (a + 1) (bt s a) (by omega)
  have hd : digs (nV s a) = win s (a + 1) (bt s a) := by
    rw [hv]
    exact digs_val _ _ rfl (win_head s (a + 1) (bt s a) (by omega) h4)
  apply ByteArray.ext
  apply Array.toList_inj.1
  rw [hA, ext_win, win_succ s a _ h1]
  show numL (nV s a) = _
  unfold numL
  rw [hd, hl]

/-- The reader is as it was, and below block number B nothing has turned. -/
def S1 (w : World) (r : Nat) (s : ByteArray) (a : Nat) (c : Int) (w' : World) : Prop := Rdr w' r s a c ∧ Below w.heap.size w w' ∧ w.heap.size ≤ r

theorem S1.drew {w : World} {r : Nat} {s : ByteArray} {a : Nat} {c : Int} {w' : World} (h : S1 w r s a c w') : S1 w r s a c w'.drew := ⟨h.1, h.2.1.drew, h.2.2⟩

theorem S1.bel {w : World} {r : Nat} {s : ByteArray} {a : Nat} {c : Int} {w' : World} (h : S1 w r s a c w') : Below w.heap.size w w' := h.2.1

theorem left_S1 {w : World} {r : Nat} {s : ByteArray} {a : Nat} {c : Int} {w' : World} (h : S1 w r s a c w') (ha : a ≤ s.size) (hs : s.size ≤ 1048576) :
    Calls Tryd.prog 19 #[.pointer (some ⟨r, 0, none⟩)] w' fun e w2 => e = .returned (.int .i64 ((s.size : Int) - a)) ∧ S1 w r s a c w2 :=
  (left_any r a s c w' h.1 ha hs).mono fun _ _ ⟨he, n, hw⟩ => ⟨he, by subst hw; exact ⟨h.1, below_drewN h.2.1 n, h.2.2⟩⟩

theorem num_S1 {w : World} {r : Nat} {s : ByteArray} {a : Nat} {c : Int} {w' : World} (v : Nat) (h : S1 w r s a c w') (hv : v < 18446744073709551616) :
    Calls Tryd.prog 26 #[.int .u64 v] w' fun e w2 => e = .returned (.string (numS v)) ∧ S1 w r s a c w2 :=
  (num_any v w' hv).mono fun _ _ ⟨he, hb⟩ => ⟨he, Blk.below h.1 hb, below_then h.2.1 hb, h.2.2⟩

set_option maxRecDepth 100000 in
set_option maxHeartbeats 1000000 in
theorem octetOne_walk (s : ByteArray) (w : World) (hg : Handle w) (hs : s.size ≤ maxLen) :
    Calls Tryd.prog 5 #[.string s] w fun e w' => e = .returned (.bool true) ∧ Below w.heap.size w w' := by
  unfold maxLen at hs
  have HW := Lib.hid (works_any w hg)
  by_cases hl : 2000 < s.size
  · go_enter Tryd.func5, Tryd.ntmps5
    go_wp2_with fail
    refine HW.out.mono ?_
    rintro e w1 ⟨rfl, b1⟩
    go_wp2
    go_ret
    exact ⟨rfl, b1⟩
  · by_cases hc : nC s 0 = 0
    · have HC : Hid (nC' s 0 0 = 0) := Lib.hid hc
      have HV : Hid (nV' s 0 0 = nV s 0) := Lib.hid rfl
      have HA : Hid (nA' s 0 0 = nA s 0) := Lib.hid rfl
      have HE := Lib.hid (one_way hc)
      have hle : nA s 0 ≤ s.size := nA_le (Nat.zero_le _)
      have hlt := nV_lt s 0
      clear hc
      go_enter Tryd.func5, Tryd.ntmps5
      go_wp2_with fail
      refine HW.out.mono ?_
      rintro e w1 ⟨rfl, b1⟩
      go_wp2_with fail
      refine (new_any _ _).mono ?_
      rintro e w2 ⟨rfl, rfl⟩
      have hr2 : Rdr (w1.alloc (.cells #[.string s, .int .i64 0, .int .i64 0] 54)) w1.heap.size s 0 0 := Blk.new _ _ _
      have HR2 := Lib.hid hr2; clear hr2
      have g2 := below_new b1 (.cells #[.string s, .int .i64 0, .int .i64 0] 54)
      have hz := b1.size
      clear b1
      go_wp2_with fail
      refine (rdNum_any w1.heap.size 0 s 0 _ HR2.out (by omega) (by omega)).mono ?_
      rw [HV.out, HA.out, HC.out]
      rintro e w3 ⟨rfl, hr3, ho3⟩
      have g3 : Below w.heap.size w w3 := Only.below g2 ho3 hz (by simp; omega)
      have HR3 := Lib.hid hr3; clear hr3 ho3 g2
      go_wp2_with fail
      refine (err_none _ _ s _ HR3.out).mono ?_
      rintro e w4 ⟨rfl, rfl⟩
      go_wp2_with fail
      refine (at_any _ _ s 0 _ HR3.out).mono ?_
      rintro e w4 ⟨rfl, rfl⟩
      go_wp2
      have hS : S1 w w1.heap.size s (nA s 0) 0 w3 := ⟨HR3.out, g3, hz⟩
      have heq : ((numS (nV s 0)).toList == (s.extract 0 (nA s 0)).toList) = true := by rw [HE.out]; simp
      have hs2 : s.size ≤ 1048576 := by omega
      have hn0 : (nA s 0 : Int) ≤ s.size := by omega
      have hwr : IntKind.i64.wrap ((s.size : Int) - (nA s 0 : Int)) = (s.size : Int) - (nA s 0 : Int) := IntWalk.i64_in _ (by omega)
      go_region_held3 (fun w' => S1 w w1.heap.size s (nA s 0) 0 w') (first | assumption | exact S1.drew (by assumption)) (first | (go_at_call 19; refine (left_S1 (by assumption) hle hs2).mono ?_; rintro e w4 ⟨rfl, hs4⟩) | (go_at_call 26; refine (num_S1 (nV s 0) (by assumption) hlt).mono ?_; rintro e w5 ⟨rfl, hs5⟩))
      all_goals
        go_wp2
        go_ret
        exact ⟨rfl, S1.bel (r := w1.heap.size) (s := s) (a := nA s 0) (c := 0) (by assumption)⟩
    · have HC : Hid (nC' s 0 0 = nC s 0) := Lib.hid rfl
      have HV : Hid (nV' s 0 0 = 0) := Lib.hid (nV_bad hc)
      have HA : Hid (nA' s 0 0 = 0) := Lib.hid (nA_bad hc)
      have HN := Lib.hid hc; clear hc
      go_enter Tryd.func5, Tryd.ntmps5
      go_wp2_with fail
      refine HW.out.mono ?_
      rintro e w1 ⟨rfl, b1⟩
      go_wp2_with fail
      refine (new_any _ _).mono ?_
      rintro e w2 ⟨rfl, rfl⟩
      have hr2 : Rdr (w1.alloc (.cells #[.string s, .int .i64 0, .int .i64 0] 54)) w1.heap.size s 0 0 := Blk.new _ _ _
      have HR2 := Lib.hid hr2; clear hr2
      have g2 := below_new b1 (.cells #[.string s, .int .i64 0, .int .i64 0] 54)
      have hz := b1.size
      clear b1
      go_wp2_with fail
      refine (rdNum_any w1.heap.size 0 s 0 _ HR2.out (by omega) (by omega)).mono ?_
      rw [HV.out, HA.out, HC.out]
      rintro e w3 ⟨rfl, hr3, ho3⟩
      have g3 : Below w.heap.size w w3 := Only.below g2 ho3 hz (by simp; omega)
      have HR3 := Lib.hid hr3; clear hr3 ho3 g2
      go_wp2_with fail
      refine (err_some _ 0 s _ _ HR3.out HN.out).mono ?_
      rintro e w4 ⟨rfl, _, b4⟩
      have g4 := below_then g3 b4
      have hr4 := Blk.below HR3.out b4
      have HR4 := Lib.hid hr4; clear hr4 b4 g3 HR3
      go_wp2_with fail
      refine (left_any _ 0 s _ _ HR4.out (by omega) (by omega)).mono ?_
      rintro e w5 ⟨rfl, n, rfl⟩
      have hz0 : (((s.size : Int) - (0 : Nat)) == s.size) = true := by simp
      have hz1 : (s.size : Int) - (0 : Nat) = s.size := by omega
      rw [hz1]
      clear hz0 hz1
      go_wp2
      go_ret
      exact ⟨rfl, below_drewN g4 n⟩
end Go.Proofs.YtpofgibolcmmlaaDoor
