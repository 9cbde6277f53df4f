/-
  A number is written in one way alone: plain mathematics; and the walk of the law OctetOne.
  Conditions: package errors' own variable holds the handle of the type error.
-/
import Derived.Test.YtgcmlefalilodaaOctX
import Derived.OpenShut
import Derived.Deep.RegionHeld3
import Derived.IntWalk
namespace Go.Proofs.Ytgcmlefalilodaa
open Go.RowKit

theorem nC_zero {s : ByteArray} {a : Nat} (h : nC s a = 0) : a < s.size ∧ bt s a ≤ 8 ∧ a + 1 + bt s a ≤ s.size ∧ (bt s a = 0 ∨ bt s (a + 1) ≠ 0) := by
  unfold nC at h
  split at h
  · simp at h
  · split at h
    · simp at h
    · split at h
      · simp at h
      · split at h
        · simp at h
        · omega

theorem win_succ (s : ByteArray) (a k : Nat) (h : a < s.size) : win s a (k + 1) = UInt8.ofNat (bt s a) :: win s (a + 1) k := by
  have h' : a < s.data.toList.length := by rw [← Lib.size_eq]; exact h
  unfold win bt
  rw [List.drop_eq_getElem_cons h', List.take_succ_cons, List.getD, List.getElem?_eq_getElem h', Option.getD_some]
  simp

theorem win_head (s : ByteArray) (a k : Nat) (h : a + k ≤ s.size) (h0 : k = 0 ∨ bt s a ≠ 0) : (win s a k).head? ≠ some 0 := by
  rcases k with _ | k
  · simp [win]
  · rw [win_succ s a k (by omega), List.head?_cons]
    intro e
    have e2 := congrArg UInt8.toNat (Option.some.inj e)
    rw [UInt8.toNat_ofNat', Nat.mod_eq_of_lt (bt_lt s a)] at e2
    rcases h0 with h0 | h0
    · omega
    · exact h0 e2

theorem one_way {s : ByteArray} {a : Nat} (h : nC s a = 0) : numS (nV s a) = s.extract a (nA s a) := by
  obtain ⟨h1, h2, h3, h4⟩ := nC_zero h
  have hv : nV s a = valB (win s (a + 1) (bt s a)) := by unfold nV; rw [if_pos h]
  have hA : nA s a = a + (bt s a + 1) := by unfold nA; rw [if_pos h]; omega
  have hl := win_len s (a + 1) (bt s a) (by omega)
  have hd : digs (nV s a) = win s (a + 1) (bt s a) := by
    rw [hv]
    exact digs_val _ _ rfl (win_head s (a + 1) (bt s a) (by omega) h4)
  apply ByteArray.ext
  apply Array.toList_inj.1
  rw [hA, ext_win, win_succ s a _ h1]
  show numL (nV s a) = _
  unfold numL
  rw [hd, hl]

/-- The reader is as it was, and below block number B nothing has turned. -/
def S1 (w : World) (r : Nat) (s : ByteArray) (a : Nat) (c : Int) (w' : World) : Prop := Rdr w' r s a c ∧ Below w.heap.size w w' ∧ w.heap.size ≤ r

theorem S1.drew {w : World} {r : Nat} {s : ByteArray} {a : Nat} {c : Int} {w' : World} (h : S1 w r s a c w') : S1 w r s a c w'.drew := ⟨h.1, h.2.1.drew, h.2.2⟩

theorem S1.bel {w : World} {r : Nat} {s : ByteArray} {a : Nat} {c : Int} {w' : World} (h : S1 w r s a c w') : Below w.heap.size w w' := h.2.1

theorem left_S1 {w : World} {r : Nat} {s : ByteArray} {a : Nat} {c : Int} {w' : World} (h : S1 w r s a c w') (ha : a ≤ s.size) (hs : s.size ≤ 1048576) :
    Calls Try.prog 32 #[.pointer (some ⟨r, 0, none⟩)] w' fun e w2 => e = .returned (.int .i64 ((s.size : Int) - a)) ∧ S1 w r s a c w2 :=
  (left_any r a s c w' h.1 ha hs).mono fun _ _ ⟨he, n, hw⟩ => ⟨he, by subst hw; exact ⟨h.1, below_drewN h.2.1 n, h.2.2⟩⟩

theorem num_S1 {w : World} {r : Nat} {s : ByteArray} {a : Nat} {c : Int} {w' : World} (v : Nat) (h : S1 w r s a c w') (hv : v < 18446744073709551616) :
    Calls Try.prog 51 #[.int .u64 v] w' fun e w2 => e = .returned (.string (numS v)) ∧ S1 w r s a c w2 :=
  (num_any v w' hv).mono fun _ _ ⟨he, hb⟩ => ⟨he, Blk.below h.1 hb, below_then h.2.1 hb, h.2.2⟩

end Go.Proofs.Ytgcmlefalilodaa
