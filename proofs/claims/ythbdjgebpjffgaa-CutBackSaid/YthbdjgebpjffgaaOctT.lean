/-
  What Num, Int, Signed and Text of package octet's Reader answer, and Fail, Err, End.
  Conditions: the reader lies in a block of its own.
-/
import Derived.Test.YthbdjgebpjffgaaOctR
set_option linter.unusedVariables false
set_option linter.unusedSimpArgs false
namespace Go.Proofs.Ythbdjgebpjffgaa
open Go.RowKit

/-- What is wrong behind Fail. -/
def failC (c e : Int) : Int := if c = 0 then e else c

set_option maxHeartbeats 400000 in
theorem fail_any (r a : Nat) (s : ByteArray) (c e : Int) (w : World) (h : Rdr w r s a c) :
    Calls Try.prog 57 #[.pointer (some ⟨r, 0, none⟩), .int .i64 e] w fun x w' => x = .returned (.tuple #[]) ∧ Rdr w' r s a (failC c e) ∧ Only r w w' := by
  have h2 := h.c2
  have f2 := Blk.free h 2
  by_cases hc : c = 0
  · subst hc
    by_cases he : e = 0
    · subst he
      have HH := Lib.hid h; clear h
      go_enter Try.func57, Try.ntmps57
      go_wp2
      refine bodyPost_ret (results_none rfl _ _ _) rfl ?_
      exact ⟨rfl, HH.out, Only.refl _ _⟩
    · have he' : (e == 0) = false := by simpa using he
      have HE : Hid (failC 0 e = e) := Lib.hid rfl
      have HH := Lib.hid h; clear h he
      go_enter Try.func57, Try.ntmps57
      go_wp2
      go_end0
      exact ⟨rfl, by rw [HE.out]; exact HH.out.set2 _, (Only.refl r w).set _ _⟩
  · have hc' : (c != 0) = true := by simpa using hc
    have HE : Hid (failC c e = c) := Lib.hid (by unfold failC; rw [if_neg hc])
    have HH := Lib.hid h; clear h hc
    go_enter Try.func57, Try.ntmps57
    go_wp2
    refine bodyPost_ret (results_none rfl _ _ _) rfl ?_
    exact ⟨rfl, by rw [HE.out]; exact HH.out, Only.refl _ _⟩

/-- The step number of the reader at block r. -/
def stepN (r : Nat) : Value := .func (Fn.func 89) #[.pointer (some ⟨r, 0, none⟩)] #[]

theorem limited_any (r : Nat) (m : Int) (w : World) :
    Calls Try.prog 88 #[.func (Fn.func 89) #[.pointer (some ⟨r, 0, none⟩)] #[], .int .i64 m] w fun x w' =>
      x = .returned (.func (Fn.func 103) #[] #[.pointer (some ⟨w.heap.size, 0, none⟩), .pointer (some ⟨w.heap.size + 1, 0, none⟩)]) ∧
      w' = (w.alloc (.cells #[stepN r] 123)).alloc (.cells #[.int .i64 m] 3) := by
  go_enter Try.func88, Try.ntmps88
  go_wp2
  go_ret
  exact ⟨rfl, rfl⟩

theorem nV_bad {s : ByteArray} {a : Nat} (h : ¬ nC s a = 0) : nV s a = 0 := by unfold nV; rw [if_neg h]
theorem nA_bad {s : ByteArray} {a : Nat} (h : ¬ nC s a = 0) : nA s a = a := by unfold nA; rw [if_neg h]

/-- What a try of a step leaves: a failed one nothing but its error's number. -/
def nC' (s : ByteArray) (a : Nat) (c : Int) : Int := if c = 0 then nC s a else c
def nV' (s : ByteArray) (a : Nat) (c : Int) : Nat := if c = 0 then nV s a else 0
def nA' (s : ByteArray) (a : Nat) (c : Int) : Nat := if c = 0 then nA s a else a

/-! ### Int -/

/-- What is wrong with a number of at most m. -/
def iC (s : ByteArray) (a : Nat) (m : Int) : Int := if nC s a = 0 then (if m < 0 ∨ m < nV s a then 2 else 0) else nC s a
def iV (s : ByteArray) (a : Nat) (m : Int) : Nat := if iC s a m = 0 then nV s a else 0
def iA (s : ByteArray) (a : Nat) (m : Int) : Nat := if iC s a m = 0 then nA s a else a
def iC' (s : ByteArray) (a : Nat) (m c : Int) : Int := if c = 0 then iC s a m else c
def iV' (s : ByteArray) (a : Nat) (m c : Int) : Nat := if c = 0 then iV s a m else 0
def iA' (s : ByteArray) (a : Nat) (m c : Int) : Nat := if c = 0 then iA s a m else a

/-- What a step of the kind of limited leaves. -/
def IntPost (r : Nat) (s : ByteArray) (a : Nat) (m c : Int) (w w' : World) : Prop := ∃ a', Rdr w' r s a' c ∧ (iC s a m = 0 → a' = iA s a m) ∧ Only r w w'

theorem nV_lt (s : ByteArray) (a : Nat) : nV s a < 18446744073709551616 := by
  unfold nV
  split
  · rename_i h
    have hb : bt s a ≤ 8 := by
      unfold nC at h
      split at h
      · simp at h
      · split at h
        · simp at h
        · omega
    have h1 : valB (win s (a + 1) (bt s a)) < 256 ^ (win s (a + 1) (bt s a)).length := valB_lt _ _ rfl
    have h2 : (win s (a + 1) (bt s a)).length ≤ 8 := by rw [win, List.length_take]; omega
    have h3 : 256 ^ (win s (a + 1) (bt s a)).length ≤ 256 ^ 8 := Nat.pow_le_pow_right (by decide) h2
    rw [pow8] at h3
    omega
  · omega

theorem ret_intC {k : IntKind} {x y e f : Int} (h1 : x = y) (h2 : e = f) : Ending.returned (.tuple #[.int k x, .int .i64 e]) = .returned (.tuple #[.int k y, .int .i64 f]) := by rw [h1, h2]

set_option maxHeartbeats 800000 in
theorem limited1_any (r a b0 b1 : Nat) (s : ByteArray) (m c : Int) (w : World) (h : Rdr w r s a c) (ha : a ≤ s.size) (hs : s.size ≤ 1048576) (hm : -9223372036854775808 ≤ m ∧ m ≤ 9223372036854775807)
    (k0 : w.cell? ⟨b0, 0, none⟩ = some (stepN r)) (k1 : Blk w b1 #[.int .i64 m] 3) (hb : b1 ≠ r) :
    Calls Try.prog 103 #[.pointer (some ⟨b0, 0, none⟩), .pointer (some ⟨b1, 0, none⟩)] w fun e w' =>
      e = .returned (.tuple #[.int .i64 (iV s a m : Int), .int .i64 (iC s a m)]) ∧ IntPost r s a m c w w' := by
  unfold stepN at k0
  obtain ⟨hm1, hm2⟩ := hm
  have HN := Lib.hid (number_any r a s c w h ha hs)
  have K1 := Lib.hid k1; clear k1
  have hv := nV_lt s a
  clear h
  by_cases he : nC s a = 0
  · have he' : (nC s a != 0) = false := by simpa using he
    by_cases h1 : m < 0
    · have HC : Hid (iC s a m = 2) := Lib.hid (by unfold iC; rw [if_pos he, if_pos (Or.inl h1)])
      have HV : Hid (iV s a m = 0) := Lib.hid (by unfold iV; rw [HC.out]; rfl)
      have HE := Lib.hid he; clear he
      go_enter Try.func103, Try.ntmps103
      go_wp2_with fail
      refine HN.out.mono ?_
      rintro e w1 ⟨rfl, a', hr, ha', ho⟩
      have HR := Lib.hid hr; clear hr ha'
      have g1 : w1.cell? ⟨b1, 0, none⟩ = some (.int .i64 m) := by rw [Blk.cell (K1.out.only ho hb)]; rfl
      go_wp2
      go_ret2
      exact ⟨ret_intC (by rw [HV.out]; rfl) HC.out.symm, a', HR.out, fun h0 => by rw [HC.out] at h0; simp at h0, ho⟩
    · by_cases h2 : m < nV s a
      · have HC : Hid (iC s a m = 2) := Lib.hid (by unfold iC; rw [if_pos he, if_pos (Or.inr h2)])
        have HV : Hid (iV s a m = 0) := Lib.hid (by unfold iV; rw [HC.out]; rfl)
        have HE := Lib.hid he; clear he
        go_enter Try.func103, Try.ntmps103
        go_wp2_with fail
        refine HN.out.mono ?_
        rintro e w1 ⟨rfl, a', hr, ha', ho⟩
        have HR := Lib.hid hr; clear hr ha'
        have g1 : w1.cell? ⟨b1, 0, none⟩ = some (.int .i64 m) := by rw [Blk.cell (K1.out.only ho hb)]; rfl
        go_wp2
        go_ret2
        exact ⟨ret_intC (by rw [HV.out]; rfl) HC.out.symm, a', HR.out, fun h0 => by rw [HC.out] at h0; simp at h0, ho⟩
      · have hc0 : iC s a m = 0 := by unfold iC; rw [if_pos he, if_neg (by omega)]
        have HC := Lib.hid hc0
        have HV : Hid (iV s a m = nV s a) := Lib.hid (by unfold iV; rw [if_pos hc0])
        have HA : Hid (iA s a m = nA s a) := Lib.hid (by unfold iA; rw [if_pos hc0])
        clear hc0
        have HE := Lib.hid he; clear he
        go_enter Try.func103, Try.ntmps103
        go_wp2_with fail
        refine HN.out.mono ?_
        rintro e w1 ⟨rfl, a', hr, ha', ho⟩
        have HR := Lib.hid hr; clear hr
        have HA' := Lib.hid ha'; clear ha'
        have g1 : w1.cell? ⟨b1, 0, none⟩ = some (.int .i64 m) := by rw [Blk.cell (K1.out.only ho hb)]; rfl
        go_wp2
        go_ret2
        exact ⟨ret_intC (by rw [HV.out]) HC.out.symm, a', HR.out, fun _ => by rw [HA.out]; exact HA'.out HE.out, ho⟩
  · have he' : (nC s a != 0) = true := by simpa using he
    have HC : Hid (iC s a m = nC s a) := Lib.hid (by unfold iC; rw [if_neg he])
    have HV : Hid (iV s a m = 0) := Lib.hid (by unfold iV; rw [HC.out, if_neg he])
    have HE := Lib.hid he; clear he
    go_enter Try.func103, Try.ntmps103
    go_wp2_with fail
    refine HN.out.mono ?_
    rintro e w1 ⟨rfl, a', hr, ha', ho⟩
    have HR := Lib.hid hr; clear hr ha'
    go_wp2
    go_ret2
    exact ⟨ret_intC (by rw [HV.out]; rfl) HC.out.symm, a', HR.out, fun h0 => absurd (HC.out.symm.trans h0) HE.out, ho⟩
end Go.Proofs.Ythbdjgebpjffgaa
