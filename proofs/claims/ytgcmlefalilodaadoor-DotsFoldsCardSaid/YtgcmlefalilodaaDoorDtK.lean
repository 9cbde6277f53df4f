/-
  The walk of the law DotsFolds, whatever it is given.
  Conditions: package errors' own variable holds the handle of the type error.
-/
import Derived.Test.YtgcmlefalilodaaDoorDtJ
import Derived.Test.YtgcmlefalilodaaDoorVecG
namespace Go.Proofs.YtgcmlefalilodaaDoor
open Go.RowKit

set_option maxRecDepth 100000 in
set_option maxHeartbeats 1000000 in
theorem dotsFolds_walk (v : Nat → Int) (al : Option Addr) (len cap : Nat) (L : List (Int × Int)) (s : ByteArray) (w : World) (hg : Handle w) (hv : ∀ i, i < 8 → (Lit.int .u32 (v i)).wf = true) (hL : Ids w al len cap L) (w1 : s.size ≤ maxLen) :
    Calls Tryd.prog 3 #[.agg #[.int .u32 (v 0), .int .u32 (v 1), .int .u32 (v 2), .int .u32 (v 3), .int .u32 (v 4), .int .u32 (v 5), .int .u32 (v 6), .int .u32 (v 7)], .slice al len cap, .string s] w fun e w' => e = .returned (.bool true) ∧ Below w.heap.size w w' := by
  have hcap := hL.bd
  have hfit := hL.fit
  have hin : InB v := fun i hi => by have := bounds_u32 (hv i hi); omega
  have hts : s.size ≤ 9223372036854775807 := by unfold maxLen at w1; omega
  clear w1 hv
  cases hgr : greatB len with
  | true =>
    have HGR := Lib.hid hgr
    have hb0 := (Below.refl w.heap.size w).alloc (Nat.le_refl _) (.cells #[.int .u32 (v 0), .int .u32 (v 1), .int .u32 (v 2), .int .u32 (v 3), .int .u32 (v 4), .int .u32 (v 5), .int .u32 (v 6), .int .u32 (v 7)] 24)
    have HB0 := Lib.hid hb0
    clear hgr hb0 hL hin hg
    go_enter Tryd.func3, Tryd.ntmps3
    go_wp2_with fail
    refine (great_any al len cap _ hfit hcap).mono ?_
    rw [HGR.out]
    rintro e w2 ⟨rfl, b2⟩
    have HB2 := Lib.hid (below_then HB0.out b2); clear b2
    go_wp2
    go_ret
    exact ⟨rfl, HB2.out⟩
  | false =>
    have hle := great_le hgr
    by_cases hl : s.size ≤ 2000
    · exact dotsFolds_short v al len cap L s w hg hin hL hle hgr hl
    · have HGR := Lib.hid hgr
      have hb0 := (Below.refl w.heap.size w).alloc (Nat.le_refl _) (.cells #[.int .u32 (v 0), .int .u32 (v 1), .int .u32 (v 2), .int .u32 (v 3), .int .u32 (v 4), .int .u32 (v 5), .int .u32 (v 6), .int .u32 (v 7)] 24)
      have HB0 := Lib.hid hb0
      have d1 : decide ((s.size : Int) > 2000) = true := decide_eq_true (by omega)
      clear hgr hb0 hL hin hg hl
      go_enter Tryd.func3, Tryd.ntmps3
      go_wp2_with fail
      refine (great_any al len cap _ hfit hcap).mono ?_
      rw [HGR.out]
      rintro e w2 ⟨rfl, b2⟩
      have HB2 := Lib.hid (below_then HB0.out b2); clear b2
      go_wp2
      go_ret
      exact ⟨rfl, HB2.out⟩
end Go.Proofs.YtgcmlefalilodaaDoor
