/-
  What the document's own reader answers: Num behind an error, Int, Signed, Text, End.
  Conditions: the reader lies in a block of its own.
-/
import Derived.Test.YthbdjgebpjffgaaGreatDoorOctF
import Derived.Test.YthbdjgebpjffgaaGreatDoorOctJ
set_option linter.unusedVariables false
set_option linter.unusedSimpArgs false
namespace Go.Proofs.YthbdjgebpjffgaaGreatDoor
open Go.RowKit

set_option maxHeartbeats 400000 in
theorem rNum_any (q a : Nat) (s : ByteArray) (c : Int) (w : World) (h : RR w q s a (fA a c) c) (ha : a ≤ s.size) (hs : s.size ≤ 1048576) :
    Calls Tryz.prog 69 #[.pointer (some ⟨q, 0, none⟩)] w fun e w' =>
      e = .returned (.int .u64 (nV' s a c)) ∧ RR w' q s (nA' s a c) (fA (nA' s a c) (nC' s a c)) (nC' s a c) ∧ Only q w w' := by
  by_cases hc : c = 0
  · subst hc
    exact rnumber_any q a s w h ha hs
  · have hc' : (c != 0) = true := by simpa using hc
    have h3 := h.c3
    have HC : Hid (nC' s a c = c) := Lib.hid (by unfold nC'; rw [if_neg hc])
    have HV : Hid (nV' s a c = 0) := Lib.hid (by unfold nV'; rw [if_neg hc])
    have HA : Hid (nA' s a c = a) := Lib.hid (by unfold nA'; rw [if_neg hc])
    have HH := Lib.hid h; clear h hc
    go_enter Tryz.func69, Tryz.ntmps69
    go_wp2
    go_ret
    exact ⟨ret_u64 (by rw [HV.out]; rfl), by rw [HC.out, HA.out]; exact HH.out, Only.refl _ _⟩

theorem ret_i64 {a b : Int} (h : a = b) : Ending.returned (.int .i64 a) = .returned (.int .i64 b) := by rw [h]

set_option maxRecDepth 100000 in
set_option maxHeartbeats 800000 in
theorem rInt_any (q a : Nat) (s : ByteArray) (m c : Int) (w : World) (h : RR w q s a (fA a c) c) (ha : a ≤ s.size) (hs : s.size ≤ 1048576) (hm : -9223372036854775808 ≤ m ∧ m ≤ 9223372036854775807) :
    Calls Tryz.prog 46 #[.pointer (some ⟨q, 0, none⟩), .int .i64 m] w fun e w' =>
      e = .returned (.int .i64 (iV' s a m c)) ∧ RR w' q s (iA' s a m c) (fA (iA' s a m c) (iC' s a m c)) (iC' s a m c) ∧ Only q w w' := by
  obtain ⟨hm1, hm2⟩ := hm
  have h1 := h.c1
  have HN := Lib.hid (rNum_any q a s c w h ha hs)
  clear h
  have hv := nV_lt s a
  by_cases hc : c = 0
  · subst hc
    have e1 : nV' s a 0 = nV s a := rfl
    have e2 : nC' s a 0 = nC s a := rfl
    have e3 : nA' s a 0 = nA s a := rfl
    rw [e1, e2, e3] at HN
    clear e1 e2 e3
    have e1 : iV' s a m 0 = iV s a m := rfl
    have e2 : iC' s a m 0 = iC s a m := rfl
    have e3 : iA' s a m 0 = iA s a m := rfl
    rw [e1, e2, e3]
    clear e1 e2 e3
    by_cases he : nC s a = 0
    · rw [he] at HN
      have e4 : fA (nA s a) 0 = 0 := rfl
      rw [e4] at HN
      clear e4
      by_cases k1 : m < 0
      · have HC : Hid (iC s a m = 2) := Lib.hid (by unfold iC; rw [if_pos he, if_pos (Or.inl k1)])
        have HV : Hid (iV s a m = 0) := Lib.hid (by unfold iV; rw [HC.out]; rfl)
        have HA : Hid (iA s a m = a) := Lib.hid (by unfold iA; rw [HC.out]; rfl)
        clear he
        go_enter Tryz.func46, Tryz.ntmps46
        go_wp2_with fail
        refine HN.out.mono ?_
        rintro e w1 ⟨rfl, hr, ho⟩
        have g1 := hr.c1
        have g3 := hr.c3
        have f1 := Blk.free hr 1
        have HR := Lib.hid hr; clear hr
        go_wp2_with fail
        refine (rfail_set q a 0 s 2 _ (HR.out.set1 rfl) (by decide)).mono ?_
        rintro e w2 ⟨rfl, hr2, ho2⟩
        have g33 := hr2.c3
        have HR2 := Lib.hid hr2; clear hr2
        go_wp2
        go_ret
        exact ⟨ret_i64 (by rw [HV.out]; rfl), by rw [HC.out, HA.out]; exact HR2.out, (ho.set _ _).trans ho2⟩
      · by_cases k2 : m < nV s a
        · have HC : Hid (iC s a m = 2) := Lib.hid (by unfold iC; rw [if_pos he, if_pos (Or.inr k2)])
          have HV : Hid (iV s a m = 0) := Lib.hid (by unfold iV; rw [HC.out]; rfl)
          have HA : Hid (iA s a m = a) := Lib.hid (by unfold iA; rw [HC.out]; rfl)
          clear he
          go_enter Tryz.func46, Tryz.ntmps46
          go_wp2_with fail
          refine HN.out.mono ?_
          rintro e w1 ⟨rfl, hr, ho⟩
          have g1 := hr.c1
          have g3 := hr.c3
          have f1 := Blk.free hr 1
          have HR := Lib.hid hr; clear hr
          go_wp2_with fail
          refine (rfail_set q a 0 s 2 _ (HR.out.set1 rfl) (by decide)).mono ?_
          rintro e w2 ⟨rfl, hr2, ho2⟩
          have g33 := hr2.c3
          have HR2 := Lib.hid hr2; clear hr2
          go_wp2
          go_ret
          exact ⟨ret_i64 (by rw [HV.out]; rfl), by rw [HC.out, HA.out]; exact HR2.out, (ho.set _ _).trans ho2⟩
        · have hc0 : iC s a m = 0 := by unfold iC; rw [if_pos he, if_neg (by omega)]
          have HC := Lib.hid hc0
          have HV : Hid (iV s a m = nV s a) := Lib.hid (by unfold iV; rw [if_pos hc0])
          have HA : Hid (iA s a m = nA s a) := Lib.hid (by unfold iA; rw [if_pos hc0])
          clear hc0 he
          go_enter Tryz.func46, Tryz.ntmps46
          go_wp2_with fail
          refine HN.out.mono ?_
          rintro e w1 ⟨rfl, hr, ho⟩
          have g3 := hr.c3
          have HR := Lib.hid hr; clear hr
          go_wp2
          go_ret
          exact ⟨ret_i64 (by rw [HV.out]), by rw [HC.out, HA.out]; exact HR.out, ho⟩
    · have hb : (nC s a == 0) = false := by simpa using he
      have hb2 : (nC s a != 0) = true := by simpa using he
      have HC : Hid (iC s a m = nC s a) := Lib.hid (by unfold iC; rw [if_neg he])
      have HV : Hid (iV s a m = 0) := Lib.hid (by unfold iV; rw [HC.out, if_neg he])
      have HA : Hid (iA s a m = nA s a) := Lib.hid (by unfold iA; rw [HC.out, if_neg he, nA_bad he])
      clear he
      go_enter Tryz.func46, Tryz.ntmps46
      go_wp2_with fail
      refine HN.out.mono ?_
      rintro e w1 ⟨rfl, hr, ho⟩
      have g3 := hr.c3
      have HR := Lib.hid hr; clear hr
      go_wp2
      go_ret
      exact ⟨ret_i64 (by rw [HV.out]; rfl), by rw [HC.out, HA.out]; exact HR.out, ho⟩
  · have hb : (c == 0) = false := by simpa using hc
    have hb2 : (c != 0) = true := by simpa using hc
    have e1 : nV' s a c = 0 := by unfold nV'; rw [if_neg hc]
    have e2 : nC' s a c = c := by unfold nC'; rw [if_neg hc]
    have e3 : nA' s a c = a := by unfold nA'; rw [if_neg hc]
    rw [e1, e2, e3] at HN
    clear e1 e2 e3
    have HC : Hid (iC' s a m c = c) := Lib.hid (by unfold iC'; rw [if_neg hc])
    have HV : Hid (iV' s a m c = 0) := Lib.hid (by unfold iV'; rw [if_neg hc])
    have HA : Hid (iA' s a m c = a) := Lib.hid (by unfold iA'; rw [if_neg hc])
    clear hc
    go_enter Tryz.func46, Tryz.ntmps46
    go_wp2_with fail
    refine HN.out.mono ?_
    rintro e w1 ⟨rfl, hr, ho⟩
    have g3 := hr.c3
    have HR := Lib.hid hr; clear hr
    go_wp2
    go_ret
    exact ⟨ret_i64 (by rw [HV.out]; rfl), by rw [HC.out, HA.out]; exact HR.out, ho⟩

theorem nV'_lt (s : ByteArray) (a : Nat) (c : Int) : nV' s a c < 18446744073709551616 := by
  unfold nV'
  split
  · exact nV_lt s a
  · omega

theorem sV'_eq (s : ByteArray) (a : Nat) (c : Int) : sV' s a c = if nV' s a c % 2 = 1 then -((nV' s a c / 2 : Nat) : Int) - 1 else ((nV' s a c / 2 : Nat) : Int) := by
  unfold sV' nV' sV
  by_cases hc : c = 0
  · rw [if_pos hc, if_pos hc]
  · rw [if_neg hc, if_neg hc]; rfl

end Go.Proofs.YthbdjgebpjffgaaGreatDoor
