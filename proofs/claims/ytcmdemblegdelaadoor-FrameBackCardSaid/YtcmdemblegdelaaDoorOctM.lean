/-
  What the document's own reader answers: Text, End.
  Conditions: the reader lies in a block of its own.
-/
import Derived.Test.YtcmdemblegdelaaDoorOctL
namespace Go.Proofs.YtcmdemblegdelaaDoor
open Go.RowKit

theorem Blk.far {w : World} {r g : Nat} {cs : Array Value} {T : TypeId} (h : Blk w r cs T) (hr : r ≠ g) (j : Nat) (v : Value) : Blk (w.setCell ⟨g, j, none⟩ v) r cs T := (Below.heap_setCell w ⟨g, j, none⟩ v r hr).trans h
theorem Only.fresh {r g : Nat} {a b : World} (h : Only r a b) (hg : a.heap.size ≤ g) (j : Nat) (v : Value) : Only r a (b.setCell ⟨g, j, none⟩ v) :=
  ⟨h.os, h.tape, h.output, by simpa [World.setCell] using h.size, fun k hk hr => (Below.heap_setCell b ⟨g, j, none⟩ v k (by simp; omega)).trans (h.block k hk hr)⟩

set_option maxRecDepth 100000 in
set_option maxHeartbeats 800000 in
theorem rText_any (q a : Nat) (s : ByteArray) (m c : Int) (w : World) (h : RR w q s a (fA a c) c) (ha : a ≤ s.size) (hs : s.size ≤ 1048576) (hm : -9223372036854775808 ≤ m ∧ m ≤ 9223372036854775807) :
    Calls Tryd.prog 35 #[.pointer (some ⟨q, 0, none⟩), .int .i64 m] w fun e w' =>
      e = .returned (.string (tV' s a m c)) ∧ RR w' q s (tA' s a m c) (fA (tA' s a m c) (tC' s a m c)) (tC' s a m c) ∧ Only q w w' := by
  have h1 := h.c1
  have HN := Lib.hid (rInt_any q a s m c w h ha hs hm)
  clear h
  by_cases hc : c = 0
  · subst hc
    have e1 : iV' s a m 0 = iV s a m := rfl
    have e2 : iC' s a m 0 = iC s a m := rfl
    have e3 : iA' s a m 0 = iA s a m := rfl
    rw [e1, e2, e3] at HN
    clear e1 e2 e3
    have e1 : tV' s a m 0 = tV s a m := rfl
    have e2 : tC' s a m 0 = tC s a m := rfl
    have e3 : tA' s a m 0 = tA s a m := rfl
    rw [e1, e2, e3]
    clear e1 e2 e3
    by_cases he : iC s a m = 0
    · rw [he] at HN
      have e4 : fA (iA s a m) 0 = 0 := rfl
      rw [e4] at HN
      clear e4
      have hAle := iA_le (m := m) ha
      have hv : iV s a m < 18446744073709551616 := by unfold iV; split; exact nV_lt s a; omega
      have hvm : (iV s a m : Int) ≤ 9223372036854775807 := by
        have : nV s a = iV s a m := by unfold iV; rw [if_pos he]
        have h2 : ¬ (m < 0 ∨ m < nV s a) := by
          intro hh
          unfold iC at he
          by_cases hn : nC s a = 0
          · rw [if_pos hn, if_pos hh] at he; simp at he
          · rw [if_neg hn] at he; exact hn he
        omega
      have w1 : IntKind.i64.wrap ((s.size : Int) - (iA s a m : Int)) = (s.size : Int) - (iA s a m : Int) := IntWalk.i64_in _ (by omega)
      by_cases k1 : s.size < iA s a m + iV s a m
      · have HC : Hid (tC s a m = 1) := Lib.hid (by unfold tC; rw [if_pos he, if_pos k1])
        have HV : Hid (tV s a m = ⟨#[]⟩) := Lib.hid (by unfold tV; rw [HC.out]; rfl)
        have HA : Hid (tA s a m = a) := Lib.hid (by unfold tA; rw [HC.out]; rfl)
        have d1 : decide ((s.size : Int) - (iA s a m : Int) < (iV s a m : Int)) = true := decide_eq_true (by omega)
        clear he
        go_enter Tryd.func35, Tryd.ntmps35
        go_wp2_with fail
        refine HN.out.mono ?_
        rintro e w1 ⟨rfl, hr, ho⟩
        have g0 := hr.c0
        have g1 := hr.c1
        have g3 := hr.c3
        have f1 := Blk.free hr 1
        have HR := Lib.hid hr; clear hr
        go_wp2
        go_quiet (fail)
        go_wp2_with fail
        refine (rfail_set q a 0 s 1 _ ((HR.out.drewN _).set1 rfl) (by decide)).mono ?_
        rintro e w2 ⟨rfl, hr2, ho2⟩
        have g33 := hr2.c3
        have HR2 := Lib.hid hr2; clear hr2
        go_wp2
        go_ret
        exact ⟨ret_str HV.out.symm, by rw [HC.out, HA.out]; exact HR2.out, ((ho.drewN _).set _ _).trans ho2⟩
      · have hc0 : tC s a m = 0 := by unfold tC; rw [if_pos he, if_neg k1]
        have HC := Lib.hid hc0
        have HV : Hid (tV s a m = s.extract (iA s a m) (iA s a m + iV s a m)) := Lib.hid (by unfold tV; rw [if_pos hc0])
        have HA : Hid (tA s a m = iA s a m + iV s a m) := Lib.hid (by unfold tA; rw [if_pos hc0])
        have d1 : decide ((s.size : Int) - (iA s a m : Int) < (iV s a m : Int)) = false := decide_eq_false (by omega)
        have w2 : IntKind.i64.wrap ((iA s a m : Int) + (iV s a m : Int)) = (iA s a m : Int) + (iV s a m : Int) := IntWalk.i64_in _ (by omega)
        clear he hc0
        go_enter Tryd.func35, Tryd.ntmps35
        go_wp2_with fail
        refine HN.out.mono ?_
        rintro e w1 ⟨rfl, hr, ho⟩
        have g0 := hr.c0
        have g1 := hr.c1
        have g3 := hr.c3
        have f1 := Blk.free hr 1
        have HR := Lib.hid hr; clear hr
        go_wp2
        go_quiet (fail)
        go_wp2
        go_quiet (fail)
        go_wp2
        go_ret
        exact ⟨ret_str HV.out.symm, by rw [HC.out, HA.out]; exact (HR.out.drewN _).set1 (by omega), (ho.drewN _).set _ _⟩
    · have hb : (iC s a m == 0) = false := by simpa using he
      have hb2 : (iC s a m != 0) = true := by simpa using he
      have HC : Hid (tC s a m = iC s a m) := Lib.hid (by unfold tC; rw [if_neg he])
      have HV : Hid (tV s a m = ⟨#[]⟩) := Lib.hid (by unfold tV; rw [HC.out, if_neg he])
      have HA : Hid (tA s a m = iA s a m) := Lib.hid (by unfold tA; rw [HC.out, if_neg he, iA_bad he])
      clear he
      go_enter Tryd.func35, Tryd.ntmps35
      go_wp2_with fail
      refine HN.out.mono ?_
      rintro e w1 ⟨rfl, hr, ho⟩
      have g3 := hr.c3
      have HR := Lib.hid hr; clear hr
      go_wp2
      go_quiet (fail)
      go_wp2
      go_ret
      exact ⟨ret_str HV.out.symm, by rw [HC.out, HA.out]; exact HR.out.drewN _, ho.drewN _⟩
  · have hb : (c == 0) = false := by simpa using hc
    have hb2 : (c != 0) = true := by simpa using hc
    have e1 : iV' s a m c = 0 := by unfold iV'; rw [if_neg hc]
    have e2 : iC' s a m c = c := by unfold iC'; rw [if_neg hc]
    have e3 : iA' s a m c = a := by unfold iA'; rw [if_neg hc]
    rw [e1, e2, e3] at HN
    clear e1 e2 e3
    have HC : Hid (tC' s a m c = c) := Lib.hid (by unfold tC'; rw [if_neg hc])
    have HV : Hid (tV' s a m c = ⟨#[]⟩) := Lib.hid (by unfold tV'; rw [if_neg hc])
    have HA : Hid (tA' s a m c = a) := Lib.hid (by unfold tA'; rw [if_neg hc])
    clear hc
    go_enter Tryd.func35, Tryd.ntmps35
    go_wp2_with fail
    refine HN.out.mono ?_
    rintro e w1 ⟨rfl, hr, ho⟩
    have g3 := hr.c3
    have HR := Lib.hid hr; clear hr
    go_wp2
    go_quiet (fail)
    go_wp2
    go_ret
    exact ⟨ret_str HV.out.symm, by rw [HC.out, HA.out]; exact HR.out.drewN _, ho.drewN _⟩

end Go.Proofs.YtcmdemblegdelaaDoor
