/-
  What Signed and Text of package octet's Reader answer.
  Conditions: the reader lies in a block of its own.
-/
import Derived.Test.YtcmdemblegdelaaDoorSumB
import Derived.Test.YtcmdemblegdelaaDoorOctU
namespace Go.Proofs.YtcmdemblegdelaaDoor
open Go.RowKit

/-! ### Signed -/

def sC (s : ByteArray) (a : Nat) : Int := nC s a
/-- The number with a sign. -/
def sV (s : ByteArray) (a : Nat) : Int := if nV s a % 2 = 1 then -((nV s a / 2 : Nat) : Int) - 1 else ((nV s a / 2 : Nat) : Int)
def sA (s : ByteArray) (a : Nat) : Nat := nA s a
def sC' (s : ByteArray) (a : Nat) (c : Int) : Int := if c = 0 then sC s a else c
def sV' (s : ByteArray) (a : Nat) (c : Int) : Int := if c = 0 then sV s a else 0
def sA' (s : ByteArray) (a : Nat) (c : Int) : Nat := if c = 0 then sA s a else a
theorem sV_bad {s : ByteArray} {a : Nat} (h : ¬ sC s a = 0) : sV s a = 0 := by unfold sV; rw [nV_bad h]; rfl
theorem sA_bad {s : ByteArray} {a : Nat} (h : ¬ sC s a = 0) : sA s a = a := nA_bad h

/-! ### Text -/

def tC (s : ByteArray) (a : Nat) (m : Int) : Int := if iC s a m = 0 then (if s.size < iA s a m + iV s a m then 1 else 0) else iC s a m
def tV (s : ByteArray) (a : Nat) (m : Int) : ByteArray := if tC s a m = 0 then s.extract (iA s a m) (iA s a m + iV s a m) else ⟨#[]⟩
def tA (s : ByteArray) (a : Nat) (m : Int) : Nat := if tC s a m = 0 then iA s a m + iV s a m else a
def tC' (s : ByteArray) (a : Nat) (m c : Int) : Int := if c = 0 then tC s a m else c
def tV' (s : ByteArray) (a : Nat) (m c : Int) : ByteArray := if c = 0 then tV s a m else ⟨#[]⟩
def tA' (s : ByteArray) (a : Nat) (m c : Int) : Nat := if c = 0 then tA s a m else a
theorem tV_bad {s : ByteArray} {a : Nat} {m : Int} (h : ¬ tC s a m = 0) : tV s a m = ⟨#[]⟩ := by unfold tV; rw [if_neg h]
theorem tA_bad {s : ByteArray} {a : Nat} {m : Int} (h : ¬ tC s a m = 0) : tA s a m = a := by unfold tA; rw [if_neg h]

/-- What a step of the kind of counted leaves. -/
def TxtPost (r : Nat) (s : ByteArray) (a : Nat) (m c : Int) (w w' : World) : Prop := ∃ a', Rdr w' r s a' c ∧ (tC s a m = 0 → a' = tA s a m) ∧ Only r w w'

theorem clone_any (s : ByteArray) (w : World) (hs : s.size ≤ 1048576) :
    Calls Tryd.prog 65 #[.string s] w fun e w' => e = .returned (.string s) ∧ Below w.heap.size w w' := by
  have H := Lib.hid (Tryd.stringslite_Clone s w (by omega))
  go_enter Tryd.func65, Tryd.ntmps65
  go_wp2_with fail
  refine H.out.mono ?_
  rintro e w1 ⟨rfl, hb⟩
  go_wp2
  go_ret
  exact ⟨rfl, hb⟩

theorem ret_strC {x y : ByteArray} {e f : Int} (h1 : x = y) (h2 : e = f) : Ending.returned (.tuple #[.string x, .int .i64 e]) = .returned (.tuple #[.string y, .int .i64 f]) := by rw [h1, h2]

theorem ext_le (s : ByteArray) (a b : Nat) : (s.extract a b).size ≤ s.size := by rw [ByteArray.size_extract]; omega

set_option maxHeartbeats 800000 in
theorem counted1_any (r a b0 b1 b2 b3 : Nat) (s : ByteArray) (m c : Int) (w : World) (h : Rdr w r s a c) (ha : a ≤ s.size) (hs : s.size ≤ 1048576) (hm : -9223372036854775808 ≤ m ∧ m ≤ 9223372036854775807)
    (k0 : w.cell? ⟨b0, 0, none⟩ = some (stepN r)) (k1 : Blk w b1 #[.int .i64 m] 3) (hb : b1 ≠ r)
    (k3 : w.cell? ⟨b3, 0, none⟩ = some (.func (Fn.func 62) #[] #[.pointer (some ⟨b0, 0, none⟩), .pointer (some ⟨b1, 0, none⟩)])) (k2 : Blk w b2 #[.pointer (some ⟨r, 0, none⟩)] 65) (hb2 : b2 ≠ r) :
    Calls Tryd.prog 64 #[.pointer (some ⟨b3, 0, none⟩), .pointer (some ⟨b2, 0, none⟩)] w fun e w' =>
      e = .returned (.tuple #[.string (tV s a m), .int .i64 (tC s a m)]) ∧ TxtPost r s a m c w w' := by
  have HI := Lib.hid (limited1_any r a b0 b1 s m c w h ha hs hm k0 k1 hb)
  have K2 := Lib.hid k2; clear k2 k0 k1 h
  by_cases he : iC s a m = 0
  · have he' : (iC s a m != 0) = false := by simpa using he
    have hAle := iA_le (m := m) ha
    by_cases h1 : s.size < iA s a m + iV s a m
    · have HC : Hid (tC s a m = 1) := Lib.hid (by unfold tC; rw [if_pos he, if_pos h1])
      have HV : Hid (tV s a m = ⟨#[]⟩) := Lib.hid (by unfold tV; rw [HC.out]; rfl)
      have HE := Lib.hid he; clear he
      go_enter Tryd.func64, Tryd.ntmps64
      go_wp2_with fail
      refine HI.out.mono ?_
      rintro e w1 ⟨rfl, a', hr, ha', ho⟩
      have hr' : Rdr w1 r s (iA s a m) c := by rw [← ha' HE.out]; exact hr
      have HR := Lib.hid hr'; clear hr hr' ha'
      have g2 : w1.cell? ⟨b2, 0, none⟩ = some (.pointer (some ⟨r, 0, none⟩)) := by rw [Blk.cell (K2.out.only ho hb2)]; rfl
      go_wp2_with fail
      refine (take_short r (iA s a m) (iV s a m) s c w1 HR.out h1 hAle hs).mono ?_
      rintro e w2 ⟨rfl, hr2, ho2⟩
      have HR2 := Lib.hid hr2; clear hr2
      go_wp2_with fail
      refine (clone_any _ w2 (by simp [ByteArray.size])).mono ?_
      rintro e w3 ⟨rfl, hb3⟩
      go_wp2
      go_ret2
      exact ⟨ret_strC HV.out.symm HC.out.symm, _, Blk.below HR2.out hb3, fun h0 => by rw [HC.out] at h0; simp at h0, (ho.trans ho2).trans (only_of hb3)⟩
    · have hc0 : tC s a m = 0 := by unfold tC; rw [if_pos he, if_neg h1]
      have HC := Lib.hid hc0
      have HV : Hid (tV s a m = s.extract (iA s a m) (iA s a m + iV s a m)) := Lib.hid (by unfold tV; rw [if_pos hc0])
      have HA : Hid (tA s a m = iA s a m + iV s a m) := Lib.hid (by unfold tA; rw [if_pos hc0])
      clear hc0
      have HE := Lib.hid he; clear he
      go_enter Tryd.func64, Tryd.ntmps64
      go_wp2_with fail
      refine HI.out.mono ?_
      rintro e w1 ⟨rfl, a', hr, ha', ho⟩
      have hr' : Rdr w1 r s (iA s a m) c := by rw [← ha' HE.out]; exact hr
      have HR := Lib.hid hr'; clear hr hr' ha'
      have g2 : w1.cell? ⟨b2, 0, none⟩ = some (.pointer (some ⟨r, 0, none⟩)) := by rw [Blk.cell (K2.out.only ho hb2)]; rfl
      go_wp2_with fail
      refine (take_ok r (iA s a m) (iV s a m) s c w1 HR.out (by omega) hs).mono ?_
      rintro e w2 ⟨rfl, hr2, ho2⟩
      have HR2 := Lib.hid hr2; clear hr2
      go_wp2_with fail
      refine (clone_any _ w2 (Nat.le_trans (ext_le s _ _) hs)).mono ?_
      rintro e w3 ⟨rfl, hb3⟩
      go_wp2
      go_ret2
      exact ⟨ret_strC HV.out.symm HC.out.symm, _, Blk.below HR2.out hb3, fun _ => HA.out.symm, (ho.trans ho2).trans (only_of hb3)⟩
  · have he' : (iC s a m != 0) = true := by simpa using he
    have HC : Hid (tC s a m = iC s a m) := Lib.hid (by unfold tC; rw [if_neg he])
    have HV : Hid (tV s a m = ⟨#[]⟩) := Lib.hid (by unfold tV; rw [HC.out, if_neg he])
    have HE := Lib.hid he; clear he
    go_enter Tryd.func64, Tryd.ntmps64
    go_wp2_with fail
    refine HI.out.mono ?_
    rintro e w1 ⟨rfl, a', hr, ha', ho⟩
    have HR := Lib.hid hr; clear hr ha'
    go_wp2
    go_ret2
    exact ⟨ret_strC HV.out.symm HC.out.symm, a', HR.out, fun h0 => absurd (HC.out.symm.trans h0) HE.out, ho⟩

set_option maxHeartbeats 400000 in
theorem attemptT_any (r a b0 b1 b2 b3 : Nat) (s : ByteArray) (m c : Int) (w : World) (h : Rdr w r s a c) (ha : a ≤ s.size) (hs : s.size ≤ 1048576) (hm : -9223372036854775808 ≤ m ∧ m ≤ 9223372036854775807) (k0 : w.cell? ⟨b0, 0, none⟩ = some (stepN r)) (k1 : Blk w b1 #[.int .i64 m] 3) (hb : b1 ≠ r)
    (k3 : w.cell? ⟨b3, 0, none⟩ = some (.func (Fn.func 62) #[] #[.pointer (some ⟨b0, 0, none⟩), .pointer (some ⟨b1, 0, none⟩)])) (k2 : Blk w b2 #[.pointer (some ⟨r, 0, none⟩)] 65) (hb2 : b2 ≠ r) :
    Calls Tryd.prog 51 #[.pointer (some ⟨r, 0, none⟩), .func (Fn.func 64) #[] #[.pointer (some ⟨b3, 0, none⟩), .pointer (some ⟨b2, 0, none⟩)]] w fun e w' =>
      e = .returned (.string (tV' s a m c)) ∧ Rdr w' r s (tA' s a m c) (tC' s a m c) ∧ Only r w w' := by
  have h1 := h.c1
  have h2 := h.c2
  by_cases hc : c = 0
  · subst hc
    have HC : Hid (tC' s a m 0 = tC s a m) := Lib.hid rfl
    have HV : Hid (tV' s a m 0 = tV s a m) := Lib.hid rfl
    have HA : Hid (tA' s a m 0 = tA s a m) := Lib.hid rfl
    have HN := Lib.hid (counted1_any r a b0 b1 b2 b3 s m 0 w h ha hs hm k0 k1 hb k3 k2 hb2)
    clear h k0 k1 k2 k3
    by_cases he : tC s a m = 0
    · have he' : (tC s a m != 0) = false := by simpa using he
      have HE := Lib.hid he; clear he
      go_enter Tryd.func51, Tryd.ntmps51
      go_wp2_with fail
      refine HN.out.mono ?_
      rintro e w1 ⟨rfl, a', hr, ha', ho⟩
      have hr' : Rdr w1 r s (tA' s a m 0) (tC' s a m 0) := by rw [HC.out, HA.out, HE.out]; have e1 := ha' HE.out; subst e1; exact hr
      have HR := Lib.hid hr'; clear hr hr' ha'
      go_wp2
      go_ret
      exact ⟨rfl, HR.out, ho⟩
    · have he' : (tC s a m != 0) = true := by simpa using he
      have HE := Lib.hid he; clear he
      go_enter Tryd.func51, Tryd.ntmps51
      go_wp2_with fail
      refine HN.out.mono ?_
      rintro e w1 ⟨rfl, a', hr, ha', ho⟩
      have g1 := hr.c1
      have f1 := Blk.free hr 1
      have HR := Lib.hid hr; clear hr ha'
      go_wp2_with fail
      refine (fail_any r a s 0 (tC s a m) _ (HR.out.set1 rfl)).mono ?_
      rintro e w2 ⟨rfl, hr2, ho2⟩
      have HR2 := Lib.hid hr2; clear hr2
      go_wp2
      go_ret
      exact ⟨by rw [HV.out, tV_bad HE.out]; rfl, by rw [HC.out, HA.out, tA_bad HE.out]; exact HR2.out, (ho.set _ _).trans ho2⟩
  · have hc' : (c != 0) = true := by simpa using hc
    have HC : Hid (tC' s a m c = c) := Lib.hid (by unfold tC'; rw [if_neg hc])
    have HV : Hid (tV' s a m c = ⟨#[]⟩) := Lib.hid (by unfold tV'; rw [if_neg hc])
    have HA : Hid (tA' s a m c = a) := Lib.hid (by unfold tA'; rw [if_neg hc])
    have HH := Lib.hid h; clear h hc k0 k1 k2 k3
    go_enter Tryd.func51, Tryd.ntmps51
    go_wp2
    go_ret
    exact ⟨by rw [HV.out]; rfl, by rw [HC.out, HA.out]; exact HH.out, Only.refl _ _⟩

set_option maxHeartbeats 400000 in
theorem rdText_any (r a : Nat) (s : ByteArray) (m c : Int) (w : World) (h : Rdr w r s a c) (ha : a ≤ s.size) (hs : s.size ≤ 1048576) (hm : -9223372036854775808 ≤ m ∧ m ≤ 9223372036854775807) :
    Calls Tryd.prog 30 #[.pointer (some ⟨r, 0, none⟩), .int .i64 m] w fun e w' =>
      e = .returned (.string (tV' s a m c)) ∧ Rdr w' r s (tA' s a m c) (tC' s a m c) ∧ Only r w w' := by
  have hlt := Blk.lt h
  have k0 := (((Blk.new w #[stepN r] 100).alloc (.cells #[.int .i64 m] 3)).alloc (.cells #[.pointer (some ⟨r, 0, none⟩)] 65)).alloc (.cells #[.func (Fn.func 62) #[] #[.pointer (some ⟨w.heap.size, 0, none⟩), .pointer (some ⟨w.heap.size + 1, 0, none⟩)]] 98)
  have k1 := ((Blk.new (w.alloc (.cells #[stepN r] 100)) #[.int .i64 m] 3).alloc (.cells #[.pointer (some ⟨r, 0, none⟩)] 65)).alloc (.cells #[.func (Fn.func 62) #[] #[.pointer (some ⟨w.heap.size, 0, none⟩), .pointer (some ⟨w.heap.size + 1, 0, none⟩)]] 98)
  have k2 := (Blk.new ((w.alloc (.cells #[stepN r] 100)).alloc (.cells #[.int .i64 m] 3)) #[.pointer (some ⟨r, 0, none⟩)] 65).alloc (.cells #[.func (Fn.func 62) #[] #[.pointer (some ⟨w.heap.size, 0, none⟩), .pointer (some ⟨w.heap.size + 1, 0, none⟩)]] 98)
  have k3 := Blk.new (((w.alloc (.cells #[stepN r] 100)).alloc (.cells #[.int .i64 m] 3)).alloc (.cells #[.pointer (some ⟨r, 0, none⟩)] 65)) #[.func (Fn.func 62) #[] #[.pointer (some ⟨w.heap.size, 0, none⟩), .pointer (some ⟨w.heap.size + 1, 0, none⟩)]] 98
  have e1 : ∀ (W : World) (o : Obj), (W.alloc o).heap.size = W.heap.size + 1 := fun W o => by simp
  simp only [e1] at k1 k2 k3
  have HA := Lib.hid (attemptT_any r a w.heap.size (w.heap.size + 1) (w.heap.size + 1 + 1) (w.heap.size + 1 + 1 + 1) s m c _ ((((Blk.alloc h _).alloc _).alloc _).alloc _) ha hs hm (by rw [Blk.cell k0]; rfl) k1 (by omega) (by rw [Blk.cell k3]; rfl) k2 (by omega))
  clear h k0 k1 k2 k3 e1
  go_enter Tryd.func30, Tryd.ntmps30
  go_wp2_with fail
  refine (limited_any r m _).mono ?_
  rintro e w1 ⟨rfl, rfl⟩
  go_wp2_with fail
  refine (counted_any r _ _ _).mono ?_
  rintro e w1 ⟨rfl, rfl⟩
  go_wp2_with fail
  refine HA.out.mono ?_
  rintro e w2 ⟨rfl, hr2, ho2⟩
  have HR2 := Lib.hid hr2; clear hr2
  go_wp2
  go_ret
  exact ⟨rfl, HR2.out, (((((Only.refl r w).alloc _).alloc _).alloc _).alloc _).trans ho2⟩
end Go.Proofs.YtcmdemblegdelaaDoor
