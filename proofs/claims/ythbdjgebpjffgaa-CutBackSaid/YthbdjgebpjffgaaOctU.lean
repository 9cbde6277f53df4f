/-
  What Int, Signed and Text of package octet's Reader answer, and Err, End.
  Conditions: the reader lies in a block of its own.
-/
import Derived.Test.YthbdjgebpjffgaaOctT
set_option linter.unusedVariables false
set_option linter.unusedSimpArgs false
namespace Go.Proofs.Ythbdjgebpjffgaa
open Go.RowKit

theorem iV_bad {s : ByteArray} {a : Nat} {m : Int} (h : ¬ iC s a m = 0) : iV s a m = 0 := by unfold iV; rw [if_neg h]
theorem iA_bad {s : ByteArray} {a : Nat} {m : Int} (h : ¬ iC s a m = 0) : iA s a m = a := by unfold iA; rw [if_neg h]
theorem nA_le {s : ByteArray} {a : Nat} (ha : a ≤ s.size) : nA s a ≤ s.size := by
  unfold nA
  split
  · rename_i h
    unfold nC at h
    split at h
    · simp at h
    · split at h
      · simp at h
      · split at h
        · simp at h
        · omega
  · exact ha
theorem iA_le {s : ByteArray} {a : Nat} {m : Int} (ha : a ≤ s.size) : iA s a m ≤ s.size := by
  unfold iA
  split
  · exact nA_le ha
  · exact ha

set_option maxHeartbeats 400000 in
theorem attemptI_any (r a b0 b1 : Nat) (s : ByteArray) (m c : Int) (w : World) (h : Rdr w r s a c) (ha : a ≤ s.size) (hs : s.size ≤ 1048576) (hm : -9223372036854775808 ≤ m ∧ m ≤ 9223372036854775807) (k0 : w.cell? ⟨b0, 0, none⟩ = some (stepN r)) (k1 : Blk w b1 #[.int .i64 m] 3) (hb : b1 ≠ r) :
    Calls Try.prog 87 #[.pointer (some ⟨r, 0, none⟩), .func (Fn.func 103) #[] #[.pointer (some ⟨b0, 0, none⟩), .pointer (some ⟨b1, 0, none⟩)]] w fun e w' =>
      e = .returned (.int .i64 (iV' s a m c)) ∧ Rdr w' r s (iA' s a m c) (iC' s a m c) ∧ Only r w w' := by
  have h1 := h.c1
  have h2 := h.c2
  by_cases hc : c = 0
  · subst hc
    have HC : Hid (iC' s a m 0 = iC s a m) := Lib.hid rfl
    have HV : Hid (iV' s a m 0 = iV s a m) := Lib.hid rfl
    have HA : Hid (iA' s a m 0 = iA s a m) := Lib.hid rfl
    have HN := Lib.hid (limited1_any r a b0 b1 s m 0 w h ha hs hm k0 k1 hb)
    clear h k0 k1
    by_cases he : iC s a m = 0
    · have he' : (iC s a m != 0) = false := by simpa using he
      have HE := Lib.hid he; clear he
      go_enter Try.func87, Try.ntmps87
      go_wp2_with fail
      refine HN.out.mono ?_
      rintro e w1 ⟨rfl, a', hr, ha', ho⟩
      have hr' : Rdr w1 r s (iA' s a m 0) (iC' s a m 0) := by rw [HC.out, HA.out, HE.out]; have e1 := ha' HE.out; subst e1; exact hr
      have HR := Lib.hid hr'; clear hr hr' ha'
      go_wp2
      go_ret
      exact ⟨rfl, HR.out, ho⟩
    · have he' : (iC s a m != 0) = true := by simpa using he
      have HE := Lib.hid he; clear he
      go_enter Try.func87, Try.ntmps87
      go_wp2_with fail
      refine HN.out.mono ?_
      rintro e w1 ⟨rfl, a', hr, ha', ho⟩
      have g1 := hr.c1
      have f1 := Blk.free hr 1
      have HR := Lib.hid hr; clear hr ha'
      go_wp2_with fail
      refine (fail_any r a s 0 (iC s a m) _ (HR.out.set1 rfl)).mono ?_
      rintro e w2 ⟨rfl, hr2, ho2⟩
      have HR2 := Lib.hid hr2; clear hr2
      go_wp2
      go_ret
      exact ⟨by rw [HV.out, iV_bad HE.out]; rfl, by rw [HC.out, HA.out, iA_bad HE.out]; exact HR2.out, (ho.set _ _).trans ho2⟩
  · have hc' : (c != 0) = true := by simpa using hc
    have HC : Hid (iC' s a m c = c) := Lib.hid (by unfold iC'; rw [if_neg hc])
    have HV : Hid (iV' s a m c = 0) := Lib.hid (by unfold iV'; rw [if_neg hc])
    have HA : Hid (iA' s a m c = a) := Lib.hid (by unfold iA'; rw [if_neg hc])
    have HH := Lib.hid h; clear h hc k0 k1
    go_enter Try.func87, Try.ntmps87
    go_wp2
    go_ret
    exact ⟨by rw [HV.out]; rfl, by rw [HC.out, HA.out]; exact HH.out, Only.refl _ _⟩

set_option maxHeartbeats 400000 in
theorem rdInt_any (r a : Nat) (s : ByteArray) (m c : Int) (w : World) (h : Rdr w r s a c) (ha : a ≤ s.size) (hs : s.size ≤ 1048576) (hm : -9223372036854775808 ≤ m ∧ m ≤ 9223372036854775807) :
    Calls Try.prog 77 #[.pointer (some ⟨r, 0, none⟩), .int .i64 m] w fun e w' =>
      e = .returned (.int .i64 (iV' s a m c)) ∧ Rdr w' r s (iA' s a m c) (iC' s a m c) ∧ Only r w w' := by
  have hlt := Blk.lt h
  have HA := Lib.hid (attemptI_any r a w.heap.size (w.heap.size + 1) s m c ((w.alloc (.cells #[stepN r] 123)).alloc (.cells #[.int .i64 m] 3)) ((Blk.alloc h _).alloc _) ha hs hm (by simp) (by
    have := Blk.new (w.alloc (.cells #[stepN r] 123)) #[.int .i64 m] 3
    simpa using this) (by omega))
  clear h
  go_enter Try.func77, Try.ntmps77
  go_wp2_with fail
  refine (limited_any r m _).mono ?_
  rintro e w1 ⟨rfl, rfl⟩
  go_wp2_with fail
  refine HA.out.mono ?_
  rintro e w2 ⟨rfl, hr2, ho2⟩
  have HR2 := Lib.hid hr2; clear hr2
  go_wp2
  go_ret
  exact ⟨rfl, HR2.out, (((Only.refl r w).alloc _).alloc _).trans ho2⟩
end Go.Proofs.Ythbdjgebpjffgaa
