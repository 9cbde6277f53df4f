/-
  Package dots' merge: the iterator that goes through two lists in order.
  Conditions: none.
-/
import Derived.Test.YtgcmlefalilodaaDotN
import Derived.RangeFuncNested
import Derived.RangeFuncBound
import Derived.RangeFuncCalls
import Derived.RangeFuncLeaves
import Derived.RangeFuncBox
import Derived.Shelf.Abstract
import Derived.Shelf.RegionOpen
import Derived.OwnWalkIn
import Derived.TacticsInMore
import Derived.LoopNIn
import Derived.LoopIn
import Derived.Maps.AppendAt
namespace Go.Proofs.Ytgcmlefalilodaa
open Go.RowKit Go.Shelf Go.Lib Go.Sort
attribute [local go_sem] Oper.semAt_some

/-- The rest of a list. -/
theorem Ids.tail {w : World} {b off len cap : Nat} {x : Int × Int} {A : List (Int × Int)} (h : Ids w (some ⟨b, off, none⟩) len cap (x :: A)) : Ids w (some ⟨b, off + 2, none⟩) (len - 1) (cap - 1) A :=
  ⟨by rw [h.ln]; simp, by have := h.fit; omega, by have := h.bd; omega, nofun, fun k hk => by
    obtain ⟨b', off', o, q, e, hx, i0, i1⟩ := h.nth (k + 1) (by omega)
    simp only [Option.some.injEq, Addr.mk.injEq, and_true] at e
    obtain ⟨rfl, rfl⟩ := e
    exact ⟨b, off + 2, o, q, rfl, by simpa using hx, by rw [show off + 2 + k * 2 = off + (k + 1) * 2 by omega]; exact i0, by rw [show off + 2 + k * 2 + 1 = off + (k + 1) * 2 + 1 by omega]; exact i1⟩⟩
theorem Ids.tail0 {w : World} {b off len cap : Nat} {x : Int × Int} {A : List (Int × Int)} (h : Ids w (some ⟨b, off, none⟩) len cap (x :: A)) (hc : cap - 1 = 0) : Ids w (some ⟨b, off, none⟩) (len - 1) 0 A :=
  ⟨by rw [h.ln]; simp, by have := h.fit; omega, by omega, nofun, fun k hk => by have := h.fit; omega⟩
/-- What is told of a name: itself, and the lists that have it. -/
def encM (p : (Int × Int) × Nat) : Array Value := #[.agg #[.int .i64 p.1.1, .int .u32 p.1.2], .int .u8 (p.2 : Int)]
def lenOf : Value → Nat | .slice _ n _ => n | _ => 0
theorem abides {β : Type} {B : Nat} {J : β → World → Prop} (h : AbidesFrom B J) {s : β} {w w' : World} (hj : J s w) (b : Below w.heap.size w w') : J s w' :=
  h s w w' none hj ⟨b.os, b.tape, b.output, b.size, fun k hk _ => b.block k hk⟩ (fun r e => by cases e)

theorem merge_any (al al' : Option Addr) (len cap len' cap' : Nat) (w : World) :
    Calls Try.prog 43 #[.slice al len cap, .slice al' len' cap'] w fun e w' => e = .returned (.func (.func 65) #[] #[.pointer (some ⟨w.heap.size, 0, none⟩), .pointer (some ⟨w.heap.size + 1, 0, none⟩)]) ∧
      w' = (w.alloc (.cells #[.slice al len cap] 22)).alloc (.cells #[.slice al' len' cap'] 22) := by
  go_enter Try.func43, Try.ntmps43
  go_wp2
  go_ret
  exact ⟨rfl, rfl⟩

set_option maxRecDepth 100000 in
set_option maxHeartbeats 2000000 in
/-- The iterator, whatever loop's body keeps what was there. -/
theorem merge1_in (n : Nat) (hn : 1 ≤ n) (l B1 B2 : Nat) (W0 : World) (al al' : Option Addr) (len cap len' cap' : Nat) (L M : List (Int × Int)) (J Jx : List ((Int × Int) × Nat) → World → Prop) (B : Nat) (hJ : AbidesFrom B J)
    (hY : ∀ pre x W, J pre W → pre.length < (mrg L M).length → YieldAt Fence.wide (n - 1) Try.prog l (encM x) W fun e W' =>
      (e = .returned (.bool true) ∧ J (pre ++ [x]) W' ∧ Below W0.heap.size W W') ∨ (e = .returned (.bool false) ∧ Jx (pre ++ [x]) W'))
    (W : World) (hW : Below W0.heap.size W0 W) (hL : Ids W0 al len cap L) (hM : Ids W0 al' len' cap' M)
    (h1 : W.cell? ⟨B1, 0, none⟩ = some (.slice al len cap)) (h2 : W.cell? ⟨B2, 0, none⟩ = some (.slice al' len' cap')) (h0 : J [] W) :
    CallsIn Fence.wide n Try.prog 65 #[.func (.yield l) #[] #[], .pointer (some ⟨B1, 0, none⟩), .pointer (some ⟨B2, 0, none⟩)] W fun e W' => (∃ v, e = .returned v) ∧
      ((∃ ys, ys = mrg L M ∧ J ys W') ∨ (∃ pre, pre <+: mrg L M ∧ Jx pre W')) := by
  have HL := Lib.hid hL; clear hL
  have HM := Lib.hid hM; clear hM
  have HW := Lib.hid hW; clear hW
  have H0 := Lib.hid h0; clear h0
  refine callsIn_of_wp Try.func65 rfl trivial ?_ rfl
  simp only [Try.ntmps65, List.size_toArray, List.length_cons, List.length_nil, Nat.reduceAdd, Nat.reduceSub, Array.replicate_succ, Array.replicate_zero, List.push_toArray, List.append_toArray, List.nil_append, List.cons_append]
  gi_wp2
  refine wpIn_wide.2 ?_
  go_quiet (fail)
  gi_wp2
  gi_loopw [4, 5] (fun s4 s5 wr => ∃ (pre : List ((Int × Int) × Nat)) (A A' : List (Int × Int)) (a a' : Option Addr) (k c k' c' : Nat), s4 = .slice a k c ∧ s5 = .slice a' k' c' ∧ mrg L M = pre ++ mrg A A' ∧ Ids W0 a k c A ∧ Ids W0 a' k' c' A' ∧ Below W0.heap.size W0 wr ∧ J pre wr) (fun s4 s5 _ => lenOf s4 + lenOf s5)
  case atStart => exact ⟨[], L, M, al, al', len, cap, len', cap', rfl, rfl, rfl, HL.out, HM.out, below_drewN HW.out _, abides hJ H0.out (below_drewN (Below.refl _ _) _)⟩
  case round =>
    obtain ⟨pre, A, A', a, a', k, c, k', c', rfl, rfl, hmr, hA, hA', hB, hJs⟩ := hrel
    have HB := Lib.hid hB; clear hB
    have HJs := Lib.hid hJs; clear hJs
    have HA := Lib.hid hA
    have HA' := Lib.hid hA'
    have hf := hA.fit
    have hbd := hA.bd
    have hf' := hA'.fit
    have hbd' := hA'.bd
    cases A with
    | nil =>
      obtain rfl := len_nil hA
      cases A' with
      | nil =>
        obtain rfl := len_nil hA'
        have HP : Hid (pre = mrg L M) := Lib.hid (by rw [hmr]; simp [mrg])
        clear hmr hA hA'
        gi_wp2
        go_end0
        exact ⟨⟨_, rfl⟩, .inl ⟨pre, HP.out, HJs.out⟩⟩
      | cons y A' =>
        obtain ⟨b', off', rfl, j0, j1, hl'⟩ := at_zero (o := y.1) (q := y.2) hA'
        clear hA hA' j0 j1
        have HLS := Lib.hid (least_b a (some ⟨b', off', none⟩) 0 c k' c' y.1 y.2 A' wr (HA'.out.below (HB.out)) (HA.out.below (HB.out)))
        have hm2 : mrg L M = pre ++ (y, 2) :: mrg [] A' := by rw [hmr, show mrg [] (y :: A') = (y, 2) :: mrg [] A' by simp [mrg]]
        have hYp : ∀ w2, Below wr.heap.size wr w2 → YieldAt Fence.wide (n - 1) Try.prog l #[.agg #[.int .i64 y.1, .int .u32 y.2], .int .u8 2] (w2.alloc (.cells #[.int .i64 y.1, .int .u32 y.2] 25)) fun e W' =>
            (e = .returned (.bool true) ∧ J (pre ++ [(y, 2)]) W' ∧ Below W0.heap.size (w2.alloc (.cells #[.int .i64 y.1, .int .u32 y.2] 25)) W') ∨ (e = .returned (.bool false) ∧ Jx (pre ++ [(y, 2)]) W') := fun w2 b2 =>
          hY pre (y, 2) _ (abides hJ HJs.out (b2.alloc b2.size _)) (by rw [hm2]; simp)
        have HB0 := HB.out
        have hb1 : bits .and .u8 2 1 = 0 := by kernel_rfl
        have hb2 : bits .and .u8 2 2 = 2 := by kernel_rfl
        have HMR := Lib.hid hm2; clear hm2 hmr HB0
        gi_wp2_with (refine ⟨trivial, ?_⟩; gi_at_call 66; refine (callsIn_wide.2 HLS.out).mono ?_; rintro e w2 ⟨rfl, b2⟩; obtain ⟨fn, tmps, assign, body, hy, hR⟩ := hYp w2 b2)
        all_goals
          refine hR.mono ?_
          rintro e W4 (⟨rfl, hJ4, hk4⟩ | ⟨rfl, hJx4⟩)
          · have HB4 := Lib.hid ((HB.out.trans ((b2.alloc b2.size _).mono (HB.out.size))).trans hk4)
            have HJ4 := Lib.hid hJ4
            clear hJ4 hk4 b2 hYp hR hy
            gi_wp2
            go_roundw
            case rel => exact ⟨pre ++ [(y, 2)], [], A', _, _, _, _, _, _, rfl, rfl, by rw [HMR.out]; simp, HA.out, (by first | exact HA'.out.tail | exact HA'.out.tail0 (by omega)), HB4.out, HJ4.out⟩
            case measure => simp [lenOf]; omega
          · have HMR2 := HMR.out
            clear b2 hYp hR hy
            gi_wp2
            refine bodyPost_ret (results_none rfl _ _ _) rfl ?_
            exact ⟨⟨_, rfl⟩, .inr ⟨pre ++ [(y, 2)], ⟨mrg [] A', by rw [HMR2]; simp⟩, hJx4⟩⟩
    | cons x A =>
      obtain ⟨b, off, rfl, i0, i1, hl⟩ := at_zero (o := x.1) (q := x.2) hA
      clear hA i0 i1
      cases A' with
      | nil =>
        obtain rfl := len_nil hA'
        clear hA'
        have HLS := Lib.hid (least_a (some ⟨b, off, none⟩) a' k c 0 c' x.1 x.2 A wr (HA.out.below (HB.out)) (HA'.out.below (HB.out)))
        have hm2 : mrg L M = pre ++ (x, 1) :: mrg A [] := by rw [hmr, show mrg (x :: A) [] = (x, 1) :: mrg A [] by rw [mrg_none, mrg_none]; rfl]
        have hYp : ∀ w2, Below wr.heap.size wr w2 → YieldAt Fence.wide (n - 1) Try.prog l #[.agg #[.int .i64 x.1, .int .u32 x.2], .int .u8 1] (w2.alloc (.cells #[.int .i64 x.1, .int .u32 x.2] 25)) fun e W' =>
            (e = .returned (.bool true) ∧ J (pre ++ [(x, 1)]) W' ∧ Below W0.heap.size (w2.alloc (.cells #[.int .i64 x.1, .int .u32 x.2] 25)) W') ∨ (e = .returned (.bool false) ∧ Jx (pre ++ [(x, 1)]) W') := fun w2 b2 =>
          hY pre (x, 1) _ (abides hJ HJs.out (b2.alloc b2.size _)) (by rw [hm2]; simp)
        have HB0 := HB.out
        have hb1 : bits .and .u8 1 1 = 1 := by kernel_rfl
        have hb2 : bits .and .u8 1 2 = 0 := by kernel_rfl
        have HMR := Lib.hid hm2; clear hm2 hmr HB0
        gi_wp2_with (refine ⟨trivial, ?_⟩; gi_at_call 66; refine (callsIn_wide.2 HLS.out).mono ?_; rintro e w2 ⟨rfl, b2⟩; obtain ⟨fn, tmps, assign, body, hy, hR⟩ := hYp w2 b2)
        all_goals
          refine hR.mono ?_
          rintro e W4 (⟨rfl, hJ4, hk4⟩ | ⟨rfl, hJx4⟩)
          · have HB4 := Lib.hid ((HB.out.trans ((b2.alloc b2.size _).mono (HB.out.size))).trans hk4)
            have HJ4 := Lib.hid hJ4
            clear hJ4 hk4 b2 hYp hR hy
            gi_wp2
            go_roundw
            case rel => exact ⟨pre ++ [(x, 1)], A, [], _, _, _, _, _, _, rfl, rfl, by rw [HMR.out]; simp, (by first | exact HA.out.tail | exact HA.out.tail0 (by omega)), HA'.out, HB4.out, HJ4.out⟩
            case measure => simp [lenOf]; omega
          · have HMR2 := HMR.out
            clear b2 hYp hR hy
            gi_wp2
            refine bodyPost_ret (results_none rfl _ _ _) rfl ?_
            exact ⟨⟨_, rfl⟩, .inr ⟨pre ++ [(x, 1)], ⟨mrg A [], by rw [HMR2]; simp⟩, hJx4⟩⟩
      | cons y A' =>
        obtain ⟨b', off', rfl, j0, j1, hl'⟩ := at_zero (o := y.1) (q := y.2) hA'
        clear hA' j0 j1
        by_cases h1 : cf x y < 0
        · skip
          have HLS := Lib.hid (least_lt (some ⟨b, off, none⟩) (some ⟨b', off', none⟩) k c k' c' x.1 x.2 y.1 y.2 A A' wr (HA.out.below (HB.out)) (HA'.out.below (HB.out)) h1)
          have hm2 : mrg L M = pre ++ (x, 1) :: mrg A (y :: A') := by rw [hmr, mrg_lt h1]
          have hYp : ∀ w2, Below wr.heap.size wr w2 → YieldAt Fence.wide (n - 1) Try.prog l #[.agg #[.int .i64 x.1, .int .u32 x.2], .int .u8 1] (w2.alloc (.cells #[.int .i64 x.1, .int .u32 x.2] 25)) fun e W' =>
              (e = .returned (.bool true) ∧ J (pre ++ [(x, 1)]) W' ∧ Below W0.heap.size (w2.alloc (.cells #[.int .i64 x.1, .int .u32 x.2] 25)) W') ∨ (e = .returned (.bool false) ∧ Jx (pre ++ [(x, 1)]) W') := fun w2 b2 =>
            hY pre (x, 1) _ (abides hJ HJs.out (b2.alloc b2.size _)) (by rw [hm2]; simp)
          have HB0 := HB.out
          have hb1 : bits .and .u8 1 1 = 1 := by kernel_rfl
          have hb2 : bits .and .u8 1 2 = 0 := by kernel_rfl
          have HMR := Lib.hid hm2; clear hm2 hmr HB0
          gi_wp2_with (refine ⟨trivial, ?_⟩; gi_at_call 66; refine (callsIn_wide.2 HLS.out).mono ?_; rintro e w2 ⟨rfl, b2⟩; obtain ⟨fn, tmps, assign, body, hy, hR⟩ := hYp w2 b2)
          all_goals
            refine hR.mono ?_
            rintro e W4 (⟨rfl, hJ4, hk4⟩ | ⟨rfl, hJx4⟩)
            · have HB4 := Lib.hid ((HB.out.trans ((b2.alloc b2.size _).mono (HB.out.size))).trans hk4)
              have HJ4 := Lib.hid hJ4
              clear hJ4 hk4 b2 hYp hR hy
              gi_wp2
              go_roundw
              case rel => exact ⟨pre ++ [(x, 1)], A, (y :: A'), _, _, _, _, _, _, rfl, rfl, by rw [HMR.out]; simp, (by first | exact HA.out.tail | exact HA.out.tail0 (by omega)), HA'.out, HB4.out, HJ4.out⟩
              case measure => simp [lenOf]; omega
            · have HMR2 := HMR.out
              clear b2 hYp hR hy
              gi_wp2
              refine bodyPost_ret (results_none rfl _ _ _) rfl ?_
              exact ⟨⟨_, rfl⟩, .inr ⟨pre ++ [(x, 1)], ⟨mrg A (y :: A'), by rw [HMR2]; simp⟩, hJx4⟩⟩
        · by_cases h2 : 0 < cf x y
          · skip
            have HLS := Lib.hid (least_gt (some ⟨b, off, none⟩) (some ⟨b', off', none⟩) k c k' c' x.1 x.2 y.1 y.2 A A' wr (HA.out.below (HB.out)) (HA'.out.below (HB.out)) h2)
            have hm2 : mrg L M = pre ++ (y, 2) :: mrg (x :: A) A' := by rw [hmr, mrg_gt h2]
            have hYp : ∀ w2, Below wr.heap.size wr w2 → YieldAt Fence.wide (n - 1) Try.prog l #[.agg #[.int .i64 y.1, .int .u32 y.2], .int .u8 2] (w2.alloc (.cells #[.int .i64 y.1, .int .u32 y.2] 25)) fun e W' =>
                (e = .returned (.bool true) ∧ J (pre ++ [(y, 2)]) W' ∧ Below W0.heap.size (w2.alloc (.cells #[.int .i64 y.1, .int .u32 y.2] 25)) W') ∨ (e = .returned (.bool false) ∧ Jx (pre ++ [(y, 2)]) W') := fun w2 b2 =>
              hY pre (y, 2) _ (abides hJ HJs.out (b2.alloc b2.size _)) (by rw [hm2]; simp)
            have HB0 := HB.out
            have hb1 : bits .and .u8 2 1 = 0 := by kernel_rfl
            have hb2 : bits .and .u8 2 2 = 2 := by kernel_rfl
            have HMR := Lib.hid hm2; clear hm2 hmr HB0
            gi_wp2_with (refine ⟨trivial, ?_⟩; gi_at_call 66; refine (callsIn_wide.2 HLS.out).mono ?_; rintro e w2 ⟨rfl, b2⟩; obtain ⟨fn, tmps, assign, body, hy, hR⟩ := hYp w2 b2)
            all_goals
              refine hR.mono ?_
              rintro e W4 (⟨rfl, hJ4, hk4⟩ | ⟨rfl, hJx4⟩)
              · have HB4 := Lib.hid ((HB.out.trans ((b2.alloc b2.size _).mono (HB.out.size))).trans hk4)
                have HJ4 := Lib.hid hJ4
                clear hJ4 hk4 b2 hYp hR hy
                gi_wp2
                go_roundw
                case rel => exact ⟨pre ++ [(y, 2)], (x :: A), A', _, _, _, _, _, _, rfl, rfl, by rw [HMR.out]; simp, HA.out, (by first | exact HA'.out.tail | exact HA'.out.tail0 (by omega)), HB4.out, HJ4.out⟩
                case measure => simp [lenOf]; omega
              · have HMR2 := HMR.out
                clear b2 hYp hR hy
                gi_wp2
                refine bodyPost_ret (results_none rfl _ _ _) rfl ?_
                exact ⟨⟨_, rfl⟩, .inr ⟨pre ++ [(y, 2)], ⟨mrg (x :: A) A', by rw [HMR2]; simp⟩, hJx4⟩⟩
          · have h3 : cf x y = 0 := by omega
            have HLS := Lib.hid (least_eq (some ⟨b, off, none⟩) (some ⟨b', off', none⟩) k c k' c' x.1 x.2 y.1 y.2 A A' wr (HA.out.below (HB.out)) (HA'.out.below (HB.out)) h3)
            have hm2 : mrg L M = pre ++ (x, 3) :: mrg A A' := by rw [hmr, mrg_eq h3]
            have hYp : ∀ w2, Below wr.heap.size wr w2 → YieldAt Fence.wide (n - 1) Try.prog l #[.agg #[.int .i64 x.1, .int .u32 x.2], .int .u8 3] (w2.alloc (.cells #[.int .i64 x.1, .int .u32 x.2] 25)) fun e W' =>
                (e = .returned (.bool true) ∧ J (pre ++ [(x, 3)]) W' ∧ Below W0.heap.size (w2.alloc (.cells #[.int .i64 x.1, .int .u32 x.2] 25)) W') ∨ (e = .returned (.bool false) ∧ Jx (pre ++ [(x, 3)]) W') := fun w2 b2 =>
              hY pre (x, 3) _ (abides hJ HJs.out (b2.alloc b2.size _)) (by rw [hm2]; simp)
            have HB0 := HB.out
            have hb1 : bits .and .u8 3 1 = 1 := by kernel_rfl
            have hb2 : bits .and .u8 3 2 = 2 := by kernel_rfl
            have HMR := Lib.hid hm2; clear hm2 hmr HB0
            gi_wp2_with (refine ⟨trivial, ?_⟩; gi_at_call 66; refine (callsIn_wide.2 HLS.out).mono ?_; rintro e w2 ⟨rfl, b2⟩; obtain ⟨fn, tmps, assign, body, hy, hR⟩ := hYp w2 b2)
            all_goals
              refine hR.mono ?_
              rintro e W4 (⟨rfl, hJ4, hk4⟩ | ⟨rfl, hJx4⟩)
              · have HB4 := Lib.hid ((HB.out.trans ((b2.alloc b2.size _).mono (HB.out.size))).trans hk4)
                have HJ4 := Lib.hid hJ4
                clear hJ4 hk4 b2 hYp hR hy
                gi_wp2
                go_roundw
                case rel => exact ⟨pre ++ [(x, 3)], A, A', _, _, _, _, _, _, rfl, rfl, by rw [HMR.out]; simp, (by first | exact HA.out.tail | exact HA.out.tail0 (by omega)), (by first | exact HA'.out.tail | exact HA'.out.tail0 (by omega)), HB4.out, HJ4.out⟩
                case measure => simp [lenOf]; omega
              · have HMR2 := HMR.out
                clear b2 hYp hR hy
                gi_wp2
                refine bodyPost_ret (results_none rfl _ _ _) rfl ?_
                exact ⟨⟨_, rfl⟩, .inr ⟨pre ++ [(x, 3)], ⟨mrg A A', by rw [HMR2]; simp⟩, hJx4⟩⟩
end Go.Proofs.Ytgcmlefalilodaa
