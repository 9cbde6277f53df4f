/-
  What Join and Meet of package vec, and the document's own Join and Meet, answer about any two vectors.
  Conditions: none.
-/
import Derived.Test.YthbdjgebpjffgaaVecB
import Derived.Laws.CopyOwn
import Derived.OwnWalk
set_option linter.unusedVariables false
set_option linter.unusedSimpArgs false
namespace Go.Proofs.Ythbdjgebpjffgaa
open Go.RowKit

/-- The state of a loop over two vectors: the first k elements of the one behind the first pointer are those of j. -/
structure Pair (w : World) (a b j : Nat → Int) (k : Nat) (wr : World) : Prop where
  bel : Below w.heap.size w wr
  a : Blk wr w.heap.size #[.int .u32 (mixV k j a 0), .int .u32 (mixV k j a 1), .int .u32 (mixV k j a 2), .int .u32 (mixV k j a 3), .int .u32 (mixV k j a 4), .int .u32 (mixV k j a 5), .int .u32 (mixV k j a 6), .int .u32 (mixV k j a 7)] 24
  b : Blk wr (w.heap.size + 1) #[.int .u32 (b 0), .int .u32 (b 1), .int .u32 (b 2), .int .u32 (b 3), .int .u32 (b 4), .int .u32 (b 5), .int .u32 (b 6), .int .u32 (b 7)] 24
  c : Blk wr (w.heap.size + 1 + 1) #[.int .u32 0, .int .u32 0, .int .u32 0, .int .u32 0, .int .u32 0, .int .u32 0, .int .u32 0, .int .u32 0] 24

theorem Pair.start (w : World) (a b j : Nat → Int) : Pair w a b j 0 (((w.alloc (.cells #[.int .u32 (a 0), .int .u32 (a 1), .int .u32 (a 2), .int .u32 (a 3), .int .u32 (a 4), .int .u32 (a 5), .int .u32 (a 6), .int .u32 (a 7)] 24)).alloc (.cells #[.int .u32 (b 0), .int .u32 (b 1), .int .u32 (b 2), .int .u32 (b 3), .int .u32 (b 4), .int .u32 (b 5), .int .u32 (b 6), .int .u32 (b 7)] 24)).alloc (.cells #[.int .u32 0, .int .u32 0, .int .u32 0, .int .u32 0, .int .u32 0, .int .u32 0, .int .u32 0, .int .u32 0] 24)) where
  bel := (((Below.refl w.heap.size w).alloc (Nat.le_refl _) _).alloc (by simp) _).alloc (by simp; omega) _
  a := by rw [← mix_none]; exact ((Blk.new w #[.int .u32 (a 0), .int .u32 (a 1), .int .u32 (a 2), .int .u32 (a 3), .int .u32 (a 4), .int .u32 (a 5), .int .u32 (a 6), .int .u32 (a 7)] 24).alloc _).alloc _
  b := by
    have := (Blk.new (w.alloc (.cells #[.int .u32 (a 0), .int .u32 (a 1), .int .u32 (a 2), .int .u32 (a 3), .int .u32 (a 4), .int .u32 (a 5), .int .u32 (a 6), .int .u32 (a 7)] 24)) #[.int .u32 (b 0), .int .u32 (b 1), .int .u32 (b 2), .int .u32 (b 3), .int .u32 (b 4), .int .u32 (b 5), .int .u32 (b 6), .int .u32 (b 7)] 24).alloc (.cells #[.int .u32 0, .int .u32 0, .int .u32 0, .int .u32 0, .int .u32 0, .int .u32 0, .int .u32 0, .int .u32 0] 24)
    rwa [show (w.alloc (.cells #[.int .u32 (a 0), .int .u32 (a 1), .int .u32 (a 2), .int .u32 (a 3), .int .u32 (a 4), .int .u32 (a 5), .int .u32 (a 6), .int .u32 (a 7)] 24)).heap.size = w.heap.size + 1 by simp] at this
  c := by
    have := Blk.new ((w.alloc (.cells #[.int .u32 (a 0), .int .u32 (a 1), .int .u32 (a 2), .int .u32 (a 3), .int .u32 (a 4), .int .u32 (a 5), .int .u32 (a 6), .int .u32 (a 7)] 24)).alloc (.cells #[.int .u32 (b 0), .int .u32 (b 1), .int .u32 (b 2), .int .u32 (b 3), .int .u32 (b 4), .int .u32 (b 5), .int .u32 (b 6), .int .u32 (b 7)] 24)) #[.int .u32 0, .int .u32 0, .int .u32 0, .int .u32 0, .int .u32 0, .int .u32 0, .int .u32 0, .int .u32 0] 24
    rwa [show ((w.alloc (.cells #[.int .u32 (a 0), .int .u32 (a 1), .int .u32 (a 2), .int .u32 (a 3), .int .u32 (a 4), .int .u32 (a 5), .int .u32 (a 6), .int .u32 (a 7)] 24)).alloc (.cells #[.int .u32 (b 0), .int .u32 (b 1), .int .u32 (b 2), .int .u32 (b 3), .int .u32 (b 4), .int .u32 (b 5), .int .u32 (b 6), .int .u32 (b 7)] 24)).heap.size = w.heap.size + 2 by simp] at this
theorem Pair.drew {w wr : World} {a b j : Nat → Int} {k : Nat} (h : Pair w a b j k wr) : Pair w a b j k wr.drew := ⟨⟨h.bel.os, h.bel.tape, h.bel.output, h.bel.size, h.bel.block⟩, h.a, h.b, h.c⟩
theorem Pair.next {w wr : World} {a b j : Nat → Int} {k : Nat} (h : Pair w a b j k wr) (hk : k < 8) {x : Int} (hx : j k = x) : Pair w a b j (k + 1) (wr.setCell ⟨w.heap.size, k, none⟩ (.int .u32 x)) where
  bel := h.bel.setCell (by simp) _
  a := by
    subst hx
    have := h.a.set k (.int .u32 (j k))
    rw [vec_set _ k hk, mix_step hk] at this
    exact this
  b := h.b.far (by omega) _ _
  c := h.c.far (by omega) _ _

set_option maxHeartbeats 400000 in
theorem join_any (a b : Nat → Int) (w : World) :
    Calls Try.prog 49 #[.agg #[.int .u32 (a 0), .int .u32 (a 1), .int .u32 (a 2), .int .u32 (a 3), .int .u32 (a 4), .int .u32 (a 5), .int .u32 (a 6), .int .u32 (a 7)], .agg #[.int .u32 (b 0), .int .u32 (b 1), .int .u32 (b 2), .int .u32 (b 3), .int .u32 (b 4), .int .u32 (b 5), .int .u32 (b 6), .int .u32 (b 7)]] w fun e w' => e = .returned (.agg #[.int .u32 (joinV a b 0), .int .u32 (joinV a b 1), .int .u32 (joinV a b 2), .int .u32 (joinV a b 3), .int .u32 (joinV a b 4), .int .u32 (joinV a b 5), .int .u32 (joinV a b 6), .int .u32 (joinV a b 7)]) ∧ Below w.heap.size w w' := by
  have H0 := Lib.hid (Pair.start w a b (joinV a b))
  go_enter Try.func49, Try.ntmps49
  go_wp2
  go_loopw [8] (fun i wr => ∃ k : Nat, k ≤ 8 ∧ i = .int .i64 k ∧ Pair w a b (joinV a b) k wr) (fun i _ => 8 - (intOf i).toNat)
  case atStart => exact ⟨0, Nat.zero_le _, rfl, H0.out⟩
  case round =>
    obtain ⟨k, hk, rfl, hP⟩ := hrel
    clear H0
    have HP := Lib.hid hP; clear hP
    by_cases hlt : k < 8
    · have hi := fun w => vec_index b k hlt w
      have h1 := vec_cell HP.out.a k hlt
      have h2 := Blk.free HP.out.a k
      rw [mix_at] at h1
      by_cases hg : b k > a k
      · have HJ : Hid (joinV a b k = b k) := Lib.hid (by unfold joinV; rw [if_pos hg])
        go_wp2
        go_roundw
        case rel => exact ⟨k + 1, by omega, by go_num, HP.out.next hlt HJ.out⟩
        case measure => simp [intOf]; omega
      · have HJ : Hid (joinV a b k = a k) := Lib.hid (by unfold joinV; rw [if_neg hg])
        go_wp2
        go_roundw
        case rel => exact ⟨k + 1, by omega, by go_num, HP.out.next hlt HJ.out⟩
        case measure => simp [intOf]; omega
    · obtain rfl : k = 8 := by omega
      have h1 := HP.out.a
      rw [mix_all] at h1
      have H3 := Lib.hid HP.out.c
      obtain ⟨c0, c1, c2, c3, c4, c5, c6, c7⟩ := vec_cells h1
      clear h1
      have hb := HP.out.bel
      go_wp2_with (refine wpList_store_row rfl 24 _ _ rfl (w.heap.size + 1 + 1) #[.int .u32 (joinV a b 0), .int .u32 (joinV a b 1), .int .u32 (joinV a b 2), .int .u32 (joinV a b 3), .int .u32 (joinV a b 4), .int .u32 (joinV a b 5), .int .u32 (joinV a b 6), .int .u32 (joinV a b 7)] rfl rfl 24 _ H3.out (by kernel_rfl) rfl (vec_one _) ?_)
      refine bodyPost_ret (v := .agg #[.int .u32 (joinV a b 0), .int .u32 (joinV a b 1), .int .u32 (joinV a b 2), .int .u32 (joinV a b 3), .int .u32 (joinV a b 4), .int .u32 (joinV a b 5), .int .u32 (joinV a b 6), .int .u32 (joinV a b 7)]) ?_ rfl ⟨rfl, below_setRow hb (by omega) _⟩
      exact results_cell_row rfl _ _ (w.heap.size + 1 + 1) 24 _ (0, 0) _ rfl (setRow_heap _ _ _ _ _ _ H3.out) Try.underlying24 rfl (by kernel_rfl)
end Go.Proofs.Ythbdjgebpjffgaa
