/-
  What the document's own reader of layer 2 answers, whatever bytes it reads.
  Conditions: the reader lies in a block of its own.
-/
import Derived.Test.YthbdjgebpjffgaaGreatDoorOctR
import Derived.IntWalk
import Derived.Outline
set_option linter.unusedVariables false
set_option linter.unusedSimpArgs false
namespace Go.Proofs.YthbdjgebpjffgaaGreatDoor
open Go.RowKit

/-- The document's reader at block q: its bytes, its place, where and what its error is. -/
def RR (w : World) (q : Nat) (s : ByteArray) (a : Nat) (fa : Nat) (c : Int) : Prop := Blk w q #[.string s, .int .i64 (a : Int), .int .i64 (fa : Int), .int .i64 c] 41
theorem RR.c0 {w : World} {q a fa : Nat} {s : ByteArray} {c : Int} (h : RR w q s a fa c) : w.cell? ⟨q, 0, none⟩ = some (.string s) := by rw [Blk.cell h]; rfl
theorem RR.c1 {w : World} {q a fa : Nat} {s : ByteArray} {c : Int} (h : RR w q s a fa c) : w.cell? ⟨q, 1, none⟩ = some (.int .i64 a) := by rw [Blk.cell h]; rfl
theorem RR.c2 {w : World} {q a fa : Nat} {s : ByteArray} {c : Int} (h : RR w q s a fa c) : w.cell? ⟨q, 2, none⟩ = some (.int .i64 fa) := by rw [Blk.cell h]; rfl
theorem RR.c3 {w : World} {q a fa : Nat} {s : ByteArray} {c : Int} (h : RR w q s a fa c) : w.cell? ⟨q, 3, none⟩ = some (.int .i64 c) := by rw [Blk.cell h]; rfl
theorem RR.drewN {w : World} {q a fa : Nat} {s : ByteArray} {c : Int} (h : RR w q s a fa c) (n : Nat) : RR (w.drewN n) q s a fa c := h
theorem RR.set1 {w : World} {q a fa : Nat} {s : ByteArray} {c : Int} (h : RR w q s a fa c) {x : Int} {b : Nat} (hx : x = b) : RR (w.setCell ⟨q, 1, none⟩ (.int .i64 x)) q s b fa c := by
  subst hx
  exact Blk.set h 1 (.int .i64 (b : Int))
theorem RR.set23 {w : World} {q a fa : Nat} {s : ByteArray} {c : Int} (h : RR w q s a fa c) (b : Nat) (e : Int) : RR ((w.setCell ⟨q, 2, none⟩ (.int .i64 (b : Int))).setCell ⟨q, 3, none⟩ (.int .i64 e)) q s a b e := by
  exact Blk.set (Blk.set h 2 (.int .i64 (b : Int))) 3 (.int .i64 e)

/-- The place that goes with an error. -/
def fA (a : Nat) (c : Int) : Nat := if c = 0 then 0 else a

set_option maxHeartbeats 400000 in
theorem rfail_set (q a fa : Nat) (s : ByteArray) (e : Int) (w : World) (h : RR w q s a fa 0) (he : ¬ e = 0) :
    Calls Tryz.prog 28 #[.pointer (some ⟨q, 0, none⟩), .int .i64 e] w fun x w' => x = .returned (.tuple #[]) ∧ RR w' q s a a e ∧ Only q w w' := by
  have h1 := h.c1
  have h2 := h.c2
  have h3 := h.c3
  have f2 := Blk.free h 2
  have f3 := Blk.free h 3
  have he' : (e != 0) = true := by simpa using he
  have HH := Lib.hid h; clear h he
  go_enter Tryz.func28, Tryz.ntmps28
  go_wp2
  go_end0
  exact ⟨rfl, HH.out.set23 _ _, ((Only.refl q w).set _ _).set _ _⟩

set_option maxHeartbeats 400000 in
theorem rfail_keep (q a fa : Nat) (s : ByteArray) (c e : Int) (w : World) (h : RR w q s a fa c) (he : ¬ c = 0 ∨ e = 0) :
    Calls Tryz.prog 28 #[.pointer (some ⟨q, 0, none⟩), .int .i64 e] w fun x w' => x = .returned (.tuple #[]) ∧ w = w' := by
  have h3 := h.c3
  clear h
  by_cases hc : c = 0
  · subst hc
    have he0 : e = 0 := by simpa using he
    subst he0
    clear he
    go_enter Tryz.func28, Tryz.ntmps28
    go_wp2
    go_end0
    exact ⟨rfl, rfl⟩
  · have hc' : (c == 0) = false := by simpa using hc
    clear hc he
    go_enter Tryz.func28, Tryz.ntmps28
    go_wp2
    go_end0
    exact ⟨rfl, rfl⟩

theorem rfail_any (q a : Nat) (s : ByteArray) (c e : Int) (w : World) (h : RR w q s a (fA a c) c) :
    Calls Tryz.prog 28 #[.pointer (some ⟨q, 0, none⟩), .int .i64 e] w fun x w' => x = .returned (.tuple #[]) ∧ RR w' q s a (fA a (failC c e)) (failC c e) ∧ Only q w w' := by
  by_cases hc : c = 0
  · subst hc
    by_cases he : e = 0
    · subst he
      exact (rfail_keep q a _ s 0 0 w h (.inr rfl)).mono fun _ _ ⟨h1, h2⟩ => ⟨h1, h2 ▸ h, h2 ▸ Only.refl _ _⟩
    · refine (rfail_set q a _ s e w h he).mono fun _ _ ⟨h1, h2, h3⟩ => ⟨h1, ?_, h3⟩
      have e1 : failC 0 e = e := rfl
      have e2 : fA a e = a := by unfold fA; rw [if_neg he]
      rw [e1, e2]
      exact h2
  · refine (rfail_keep q a _ s c e w h (.inl hc)).mono fun _ _ ⟨h1, h2⟩ => ⟨h1, ?_, h2 ▸ Only.refl _ _⟩
    have e1 : failC c e = c := by unfold failC; rw [if_neg hc]
    rw [e1]
    exact h2 ▸ h

theorem ret_u64 {a b : Int} (h : a = b) : Ending.returned (.int .u64 a) = .returned (.int .u64 b) := by rw [h]

set_option maxRecDepth 100000 in
set_option maxHeartbeats 800000 in
theorem rnumber_any (q a : Nat) (s : ByteArray) (w : World) (h : RR w q s a 0 0) (ha : a ≤ s.size) (hs : s.size ≤ 1048576) :
    Calls Tryz.prog 69 #[.pointer (some ⟨q, 0, none⟩)] w fun e w' =>
      e = .returned (.int .u64 (nV s a)) ∧ RR w' q s (nA s a) (fA (nA s a) (nC s a)) (nC s a) ∧ Only q w w' := by
  have h0 := h.c0
  have h1 := h.c1
  have h3 := h.c3
  have f1 := Blk.free h 1
  by_cases k1 : s.size ≤ a
  · have HC : Hid (nC s a = 1) := Lib.hid (by unfold nC; rw [if_pos k1])
    have HV : Hid (nV s a = 0) := Lib.hid (nV_bad (by rw [HC.out]; decide))
    have HA : Hid (nA s a = a) := Lib.hid (nA_bad (by rw [HC.out]; decide))
    have HH := Lib.hid h; clear h
    have k2 : ((a : Int) == s.size) = true := by simp; omega
    go_enter Tryz.func69, Tryz.ntmps69
    go_wp2
    go_quiet (fail)
    go_wp2_with fail
    refine (rfail_set q a 0 s 1 _ (HH.out.drewN _) (by decide)).mono ?_
    rintro e w2 ⟨rfl, hr2, ho2⟩
    have g3 := hr2.c3
    have HR2 := Lib.hid hr2; clear hr2
    go_wp2
    go_ret
    exact ⟨ret_u64 (by rw [HV.out]; rfl), by rw [HC.out, HA.out]; exact HR2.out, ((Only.refl q w).drewN _).trans ho2⟩
  · have i1 := run_idx s a (by omega)
    have k2 : ((a : Int) == s.size) = false := by simp; omega
    have hb := bt_lt s a
    by_cases h2 : 8 < bt s a
    · have HC : Hid (nC s a = 3) := Lib.hid (by unfold nC; rw [if_neg k1, if_pos h2])
      have HV : Hid (nV s a = 0) := Lib.hid (nV_bad (by rw [HC.out]; decide))
      have HA : Hid (nA s a = a) := Lib.hid (nA_bad (by rw [HC.out]; decide))
      have HH := Lib.hid h; clear h
      go_enter Tryz.func69, Tryz.ntmps69
      go_wp2
      go_quiet (fail)
      go_wp2
      go_quiet (fail)
      go_wp2_with fail
      refine (rfail_set q a 0 s 3 _ (HH.out.drewN _) (by decide)).mono ?_
      rintro e w2 ⟨rfl, hr2, ho2⟩
      have g3 := hr2.c3
      have HR2 := Lib.hid hr2; clear hr2
      go_wp2
      go_ret
      exact ⟨ret_u64 (by rw [HV.out]; rfl), by rw [HC.out, HA.out]; exact HR2.out, ((Only.refl q w).drewN _).trans ho2⟩
    · have w1 : IntKind.i64.wrap ((s.size : Int) - a) = (s.size : Int) - a := IntWalk.i64_in _ (by omega)
      have w2 : IntKind.i64.wrap ((s.size : Int) - a - 1) = (s.size : Int) - a - 1 := IntWalk.i64_in _ (by omega)
      by_cases h3' : s.size < a + 1 + bt s a
      · have HC : Hid (nC s a = 1) := Lib.hid (by unfold nC; rw [if_neg k1, if_neg h2, if_pos h3'])
        have HV : Hid (nV s a = 0) := Lib.hid (nV_bad (by rw [HC.out]; decide))
        have HA : Hid (nA s a = a) := Lib.hid (nA_bad (by rw [HC.out]; decide))
        have d3 : decide ((s.size : Int) - a - 1 < bt s a) = true := decide_eq_true (by omega)
        have HH := Lib.hid h; clear h
        go_enter Tryz.func69, Tryz.ntmps69
        go_wp2
        go_quiet (fail)
        go_wp2
        go_quiet (fail)
        go_wp2
        go_quiet (fail)
        go_wp2_with fail
        refine (rfail_set q a 0 s 1 _ (HH.out.drewN _) (by decide)).mono ?_
        rintro e w2 ⟨rfl, hr2, ho2⟩
        have g3 := hr2.c3
        have HR2 := Lib.hid hr2; clear hr2
        go_wp2
        go_ret
        exact ⟨ret_u64 (by rw [HV.out]; rfl), by rw [HC.out, HA.out]; exact HR2.out, ((Only.refl q w).drewN _).trans ho2⟩
      · have d3 : decide ((s.size : Int) - a - 1 < bt s a) = false := decide_eq_false (by omega)
        by_cases h4 : bt s a = 0
        · have hc : nC s a = 0 := by unfold nC; rw [if_neg k1, if_neg h2, if_neg h3', if_neg (by omega)]
          have HC := Lib.hid hc
          have HV : Hid (nV s a = valB (win s (a + 1) (bt s a))) := Lib.hid (by unfold nV; rw [if_pos hc])
          have HA : Hid (nA s a = a + 1 + bt s a) := Lib.hid (by unfold nA; rw [if_pos hc])
          have d4 : decide (0 < (bt s a : Int)) = false := decide_eq_false (by omega)
          have d5 : decide (0 < bt s a) = false := decide_eq_false (by omega)
          have HH := Lib.hid h; clear h hc h4
          go_enter Tryz.func69, Tryz.ntmps69
          go_wp2
          go_quiet (fail)
          go_wp2
          go_quiet (fail)
          go_wp2
          go_quiet (fail)
          go_wp2
          go_quiet (fail)
          go_wp2
          go_loopw [4, 5] (fun v i wr => ∃ (j n : Nat), j ≤ bt s a ∧ i = .int .i64 ((j : Int) + 1) ∧ v = .int .u64 (valB ((win s (a + 1) (bt s a)).take j) : Int) ∧ wr = w.drewN n) (fun _ i _ => (bt s a + 1 - intOf i).toNat)
          case atStart => exact ⟨0, _, by omega, by go_num, rfl, rfl⟩
          case round =>
            obtain ⟨j, n, hj, rfl, rfl, rfl⟩ := hrel
            by_cases hlt : j < bt s a
            · have hub := win_bound s (a + 1) (bt s a) j (by omega) (by omega) hlt
              have hb2 := bt_lt s (a + 1 + j)
              have HN := Lib.hid (win_next s (a + 1) (bt s a) j (by omega) hlt)
              have x1 : ∀ W, (Instr.index 9 (.string s) (.int .i64 ((a : Int) + ((j : Int) + 1)))).run Tryz.prog W = .ok (.int .u8 (bt s (a + 1 + j) : Int)) W := by
                have := run_idx s (a + 1 + j) (by omega)
                rw [show ((a + 1 + j : Nat) : Int) = (a : Int) + ((j : Int) + 1) by omega] at this
                exact this
              have y1 : IntKind.i64.wrap ((a : Int) + ((j : Int) + 1)) = (a : Int) + ((j : Int) + 1) := IntWalk.i64_in _ (by omega)
              have y2 : IntKind.u64.wrap ((valB ((win s (a + 1) (bt s a)).take j) : Int) * 256) = (valB ((win s (a + 1) (bt s a)).take j) : Int) * 256 := by rw [IntKind.wrap_u64]; omega
              have y3 : IntKind.u64.wrap ((valB ((win s (a + 1) (bt s a)).take j) : Int) * 256 + (bt s (a + 1 + j) : Int)) = (valB ((win s (a + 1) (bt s a)).take j) : Int) * 256 + (bt s (a + 1 + j) : Int) := by rw [IntKind.wrap_u64]; omega
              have dle : ((j : Int) + 1 ≤ (bt s a : Int)) := by omega
              go_wp2
              go_quiet (fail)
              clear y1 y2 y3 x1
              go_wp2
              go_roundw
              case rel => exact ⟨j + 1, _, by omega, by go_num, by rw [HN.out]; go_num, rfl⟩
              case measure => simp [intOf]; omega
            · have hjk : j = bt s a := by omega
              have HJ := Lib.hid hjk; clear hjk
              have dle : ¬ ((j : Int) + 1 ≤ (bt s a : Int)) := by omega
              go_wp2
              go_ret
              exact ⟨ret_u64 (by rw [HV.out, HJ.out, List.take_of_length_le (by rw [win_len s (a + 1) (bt s a) (by omega)]; exact Nat.le_refl _)]), by rw [HC.out, HA.out]; exact (HH.out.drewN _).set1 (by omega), ((Only.refl q w).drewN _).set _ _⟩
        · have i2 : ∀ W, (Instr.index 9 (.string s) (.int .i64 ((a : Int) + 1))).run Tryz.prog W = .ok (.int .u8 (bt s (a + 1) : Int)) W := run_idx s (a + 1) (by omega)
          have y0 : IntKind.i64.wrap ((a : Int) + 1) = (a : Int) + 1 := IntWalk.i64_in _ (by omega)
          have d4 : decide (0 < (bt s a : Int)) = true := decide_eq_true (by omega)
          have d5 : decide (0 < bt s a) = true := decide_eq_true (by omega)
          by_cases h5 : bt s (a + 1) = 0
          · have HC : Hid (nC s a = 3) := Lib.hid (by unfold nC; rw [if_neg k1, if_neg h2, if_neg h3', if_pos (by omega)])
            have HV : Hid (nV s a = 0) := Lib.hid (nV_bad (by rw [HC.out]; decide))
            have HA : Hid (nA s a = a) := Lib.hid (nA_bad (by rw [HC.out]; decide))
            have h5' : ((bt s (a + 1) : Int) == 0) = true := by simpa using h5
            have HH := Lib.hid h; clear h h4 h5
            go_enter Tryz.func69, Tryz.ntmps69
            go_wp2
            go_quiet (fail)
            go_wp2
            go_quiet (fail)
            go_wp2
            go_quiet (fail)
            go_wp2
            go_quiet (fail)
            go_wp2_with fail
            refine (rfail_set q a 0 s 3 _ (HH.out.drewN _) (by decide)).mono ?_
            rintro e w2 ⟨rfl, hr2, ho2⟩
            have g3 := hr2.c3
            have HR2 := Lib.hid hr2; clear hr2
            go_wp2
            go_ret
            exact ⟨ret_u64 (by rw [HV.out]; rfl), by rw [HC.out, HA.out]; exact HR2.out, ((Only.refl q w).drewN _).trans ho2⟩
          · have hc : nC s a = 0 := by unfold nC; rw [if_neg k1, if_neg h2, if_neg h3', if_neg (by omega)]
            have HC := Lib.hid hc
            have HV : Hid (nV s a = valB (win s (a + 1) (bt s a))) := Lib.hid (by unfold nV; rw [if_pos hc])
            have HA : Hid (nA s a = a + 1 + bt s a) := Lib.hid (by unfold nA; rw [if_pos hc])
            have h5' : ((bt s (a + 1) : Int) == 0) = false := by simpa using h5
            have HH := Lib.hid h; clear h hc h4 h5
            go_enter Tryz.func69, Tryz.ntmps69
            go_wp2
            go_quiet (fail)
            go_wp2
            go_quiet (fail)
            go_wp2
            go_quiet (fail)
            go_wp2
            go_quiet (fail)
            go_wp2
            go_loopw [4, 5] (fun v i wr => ∃ (j n : Nat), j ≤ bt s a ∧ i = .int .i64 ((j : Int) + 1) ∧ v = .int .u64 (valB ((win s (a + 1) (bt s a)).take j) : Int) ∧ wr = w.drewN n) (fun _ i _ => (bt s a + 1 - intOf i).toNat)
            case atStart => exact ⟨0, _, by omega, by go_num, rfl, rfl⟩
            case round =>
              obtain ⟨j, n, hj, rfl, rfl, rfl⟩ := hrel
              by_cases hlt : j < bt s a
              · have hub := win_bound s (a + 1) (bt s a) j (by omega) (by omega) hlt
                have hb2 := bt_lt s (a + 1 + j)
                have HN := Lib.hid (win_next s (a + 1) (bt s a) j (by omega) hlt)
                have x1 : ∀ W, (Instr.index 9 (.string s) (.int .i64 ((a : Int) + ((j : Int) + 1)))).run Tryz.prog W = .ok (.int .u8 (bt s (a + 1 + j) : Int)) W := by
                  have := run_idx s (a + 1 + j) (by omega)
                  rw [show ((a + 1 + j : Nat) : Int) = (a : Int) + ((j : Int) + 1) by omega] at this
                  exact this
                have y1 : IntKind.i64.wrap ((a : Int) + ((j : Int) + 1)) = (a : Int) + ((j : Int) + 1) := IntWalk.i64_in _ (by omega)
                have y2 : IntKind.u64.wrap ((valB ((win s (a + 1) (bt s a)).take j) : Int) * 256) = (valB ((win s (a + 1) (bt s a)).take j) : Int) * 256 := by rw [IntKind.wrap_u64]; omega
                have y3 : IntKind.u64.wrap ((valB ((win s (a + 1) (bt s a)).take j) : Int) * 256 + (bt s (a + 1 + j) : Int)) = (valB ((win s (a + 1) (bt s a)).take j) : Int) * 256 + (bt s (a + 1 + j) : Int) := by rw [IntKind.wrap_u64]; omega
                have dle : ((j : Int) + 1 ≤ (bt s a : Int)) := by omega
                go_wp2
                go_quiet (fail)
                clear y1 y2 y3 x1
                go_wp2
                go_roundw
                case rel => exact ⟨j + 1, _, by omega, by go_num, by rw [HN.out]; go_num, rfl⟩
                case measure => simp [intOf]; omega
              · have hjk : j = bt s a := by omega
                have HJ := Lib.hid hjk; clear hjk
                have dle : ¬ ((j : Int) + 1 ≤ (bt s a : Int)) := by omega
                go_wp2
                go_ret
                exact ⟨ret_u64 (by rw [HV.out, HJ.out, List.take_of_length_le (by rw [win_len s (a + 1) (bt s a) (by omega)]; exact Nat.le_refl _)]), by rw [HC.out, HA.out]; exact (HH.out.drewN _).set1 (by omega), ((Only.refl q w).drewN _).set _ _⟩
end Go.Proofs.YthbdjgebpjffgaaGreatDoor
