/-
  The document's Write; what both Writes return at whatever frame; what Seen tells of a plain number; the walk of the law FrameWrites.
  Conditions: none.
-/
import Derived.Test.YtcmdemblegdelaaDoorFraA
import Derived.Test.YtcmdemblegdelaaDoorOctN
import Derived.OpenShut
namespace Go.Proofs.YtcmdemblegdelaaDoor
open Go.RowKit

theorem rwrite_kind (k : Int) (l : ByteArray) (w : World) (h : k < 1 ∨ 99 < k) :
    Calls Tryd.prog 9 #[.agg #[.int .i64 k, .string l]] w fun e w' => e = .returned (.tuple #[.string ⟨#[]⟩, .int .i64 5]) ∧ Below w.heap.size w w' := by
  by_cases h1 : k < 1
  · go_enter Tryd.func9, Tryd.ntmps9
    go_wp2
    go_ret2
    exact ⟨rfl, (Below.refl _ _).alloc (Nat.le_refl _) _⟩
  · have h2 : 99 < k := by omega
    clear h
    go_enter Tryd.func9, Tryd.ntmps9
    go_wp2
    go_ret2
    exact ⟨rfl, (Below.refl _ _).alloc (Nat.le_refl _) _⟩

theorem rwrite_long (k : Int) (l : ByteArray) (w : World) (h0 : 1 ≤ k) (h1 : k ≤ 99) (hl : 4096 < l.size) (hs : l.size ≤ 1048576) :
    Calls Tryd.prog 9 #[.agg #[.int .i64 k, .string l]] w fun e w' => e = .returned (.tuple #[.string ⟨#[]⟩, .int .i64 8]) ∧ Below w.heap.size w w' := by
  go_enter Tryd.func9, Tryd.ntmps9
  go_wp2
  go_ret2
  exact ⟨rfl, (Below.refl _ _).alloc (Nat.le_refl _) _⟩

set_option maxRecDepth 100000 in
set_option maxHeartbeats 1000000 in
theorem rwrite_good (n : Nat) (l : ByteArray) (w : World) (h0 : 1 ≤ n) (h1 : n ≤ 99) (hl : l.size ≤ 4096) :
    Calls Tryd.prog 9 #[.agg #[.int .i64 n, .string l]] w fun e w' => e = .returned (.tuple #[.string (encS n l), .int .i64 0]) ∧ Below w.heap.size w w' := by
  have hadd : ∀ W, (Op.stringOp .add (numS n) (txtS l)).run Tryd.prog W = .ok (.string (numS n ++ txtS l)) W := fun W => run_string_add_sum W _ _ (by have := pre_size h1 hl; rw [ByteArray.size_append] at this; omega)
  have hp := pre_size h1 hl
  have HN : Hid (n < 18446744073709551616) := Lib.hid (by omega)
  have HL : Hid (l.size ≤ 1048576) := Lib.hid (by omega)
  have HP : Hid ((numS n ++ txtS l).size ≤ 1048576) := Lib.hid (by omega)
  clear hp
  have hF := FW.new w n l 23
  have hw : IntKind.u64.wrap (n : Int) = n := by rw [IntKind.wrap_u64]; omega
  unfold fcs at hF
  go_enter Tryd.func9, Tryd.ntmps9
  go_wp2
  go_region_held3 (fun w' => w'.cell? ⟨w.heap.size, 0, none⟩ = some (.int .i64 n) ∧ w'.cell? ⟨w.heap.size, 1, none⟩ = some (.string l) ∧ FW w w.heap.size n l 23 w') (first | exact FW.all (by assumption) | exact FW.all (FW.drew (by assumption))) (first | (go_at_call 24; refine (rnum_FW (w0 := w) (b := w.heap.size) (k := n) (l := l) (T := 23) (by first | assumption | exact FW.held (by assumption)) HN.out).mono ?_; rintro e w1 ⟨rfl, hb⟩) | (go_at_call 25; refine (rtext_FW (w0 := w) (b := w.heap.size) (k := n) (l := l) (T := 23) (by first | assumption | exact FW.held (by assumption)) HL.out).mono ?_; rintro e w1 ⟨rfl, hb⟩) | (go_at_call 23; refine (rseal_FW (w0 := w) (b := w.heap.size) (k := n) (l := l) (T := 23) (by first | assumption | exact FW.held (by assumption)) HP.out).mono ?_; rintro e w1 ⟨rfl, hb⟩))
  go_wp2
  go_ret2
  exact ⟨rfl, FW.bel (by assumption)⟩


theorem wC_kind {k : Int} {l : ByteArray} (h : k < 1 ∨ 99 < k) : wC k l = 5 := by unfold wC; rw [if_pos h]
theorem wC_long {k : Int} {l : ByteArray} (h : ¬ (k < 1 ∨ 99 < k)) (hl : 4096 < l.size) : wC k l = 8 := by unfold wC; rw [if_neg h, if_pos hl]
theorem wC_good {k : Int} {l : ByteArray} (h : ¬ (k < 1 ∨ 99 < k)) (hl : ¬ 4096 < l.size) : wC k l = 0 := by unfold wC; rw [if_neg h, if_neg hl]

theorem write_any (k : Int) (l : ByteArray) (w : World) (hs : l.size ≤ 1048576) :
    Calls Tryd.prog 7 #[.agg #[.int .i64 k, .string l]] w fun e w' => e = .returned (.tuple #[.string (wS k l), errE (wC k l)]) ∧ Below w.heap.size w w' := by
  unfold wS errE
  by_cases h : k < 1 ∨ 99 < k
  · rw [wC_kind h]; exact write_kind k l w h
  · by_cases hl : 4096 < l.size
    · rw [wC_long h hl]; exact write_long k l w (by omega) (by omega) hl hs
    · rw [wC_good h hl]
      obtain ⟨n, rfl⟩ : ∃ n : Nat, k = n := ⟨k.toNat, by omega⟩
      exact write_good n l w (by omega) (by omega) (by omega)
theorem rwrite_any (k : Int) (l : ByteArray) (w : World) (hs : l.size ≤ 1048576) :
    Calls Tryd.prog 9 #[.agg #[.int .i64 k, .string l]] w fun e w' => e = .returned (.tuple #[.string (wS k l), .int .i64 (wC k l)]) ∧ Below w.heap.size w w' := by
  unfold wS
  by_cases h : k < 1 ∨ 99 < k
  · rw [wC_kind h]; exact rwrite_kind k l w h
  · by_cases hl : 4096 < l.size
    · rw [wC_long h hl]; exact rwrite_long k l w (by omega) (by omega) hl hs
    · rw [wC_good h hl]
      obtain ⟨n, rfl⟩ : ∃ n : Nat, k = n := ⟨k.toNat, by omega⟩
      exact rwrite_good n l w (by omega) (by omega) (by omega)

theorem to_any (k : Int) (l : ByteArray) (w : World) :
    Calls Tryd.prog 8 #[.agg #[.int .i64 k, .string l]] w fun e w' => e = .returned (.agg #[.int .i64 k, .string l]) ∧ Below w.heap.size w w' := by
  go_enter Tryd.func8, Tryd.ntmps8
  go_wp2
  refine bodyPost_ret (v := .agg #[.int .i64 k, .string l]) (by simp [results, Tryd.results8, go_sem]) rfl ⟨rfl, ?_⟩
  exact ((Below.refl _ _).alloc (Nat.le_refl _) _).alloc (by simp) _

set_option maxRecDepth 100000 in
theorem seen_errno (c : Int) (w : World) (hc : ¬ c = 0) :
    Calls Tryd.prog 10 #[.iface 30 (.int .i64 c)] w fun e w' => e = .returned (.agg #[.int .i64 0, .int .i64 c]) ∧ Below w.heap.size w w' := by
  have n2 := Tryd.isErrno
  have hc' : (c == 0) = false := by simpa using hc
  go_enter Tryd.func10, Tryd.ntmps10
  go_wp2
  refine wp_loop_rounds 1 ?_
  rw [rounds_succ]
  go_wp2
  refine bodyPost_ret (v := .agg #[.int .i64 0, .int .i64 c]) (by simp [results, Tryd.results10, go_sem]) rfl ⟨rfl, ?_⟩
  exact (Below.refl _ _).alloc (Nat.le_refl _) _

theorem seen_err (c : Int) (w : World) :
    Calls Tryd.prog 10 #[errE c] w fun e w' => e = .returned (.agg #[.int .i64 0, .int .i64 c]) ∧ Below w.heap.size w w' := by
  unfold errE
  by_cases h : c = 0
  · subst h; exact seen_nil w
  · rw [if_neg h]; exact seen_errno c w h

theorem frameWrites_walk (k : Int) (l : ByteArray) (w : World) (_hg : Handle w) (_hk : (Lit.int .i64 k).wf = true) (hl : l.size ≤ maxLen) :
    Calls Tryd.prog 3 #[.agg #[.int .i64 k, .string l]] w fun e w' => e = .returned (.bool true) ∧ Below w.heap.size w w' := by
  unfold maxLen at hl
  by_cases h6 : 6000 < l.size
  · go_enter Tryd.func3, Tryd.ntmps3
    go_wp2
    go_ret
    exact ⟨rfl, (Below.refl _ _).alloc (Nat.le_refl _) _⟩
  · have hF := Lib.hid (FW.new w k l 23)
    unfold fcs at hF
    go_enter Tryd.func3, Tryd.ntmps3
    go_wp2_with fail
    refine (to_any k l _).mono ?_
    rintro e w1 ⟨rfl, h1⟩
    have F1 := Lib.hid (FW.below hF.out h1); clear h1 hF
    go_wp2_with fail
    refine (write_any k l _ (by omega)).mono ?_
    rintro e w2 ⟨rfl, h2⟩
    have F2 := FW.below F1.out h2; clear h2 F1
    have c0 := F2.c0
    have c1 := F2.c1
    have G2 := Lib.hid F2; clear F2
    go_wp2_with fail
    refine (rwrite_any k l _ (by omega)).mono ?_
    rintro e w3 ⟨rfl, h3⟩
    have F3 := Lib.hid (FW.below G2.out h3); clear h3 G2
    go_wp2_with fail
    refine (seen_err _ _).mono ?_
    rintro e w4 ⟨rfl, h4⟩
    have F4 := Lib.hid (FW.below F3.out h4); clear h4 F3
    go_wp2
    go_ret
    exact ⟨rfl, F4.out.bel⟩

end Go.Proofs.YtcmdemblegdelaaDoor
