/-
  The examples that every law of package vec also checks.
  Conditions: the library's own table of powers of ten holds what its text says.
-/
import Derived.Test.YtfmdmifpgmkohaaDoorVecV
import Derived.Test.YtfmdmifpgmkohaaDoorVecE
import Derived.Test.YtfmdmifpgmkohaaDoorVecK
import Derived.Test.YtfmdmifpgmkohaaDoorVecG
namespace Go.Proofs.YtfmdmifpgmkohaaDoor
open Go.RowKit

theorem zero_bd : (0 : Int) ≤ 0 ∧ (0 : Int) ≤ 4294967295 := ⟨by decide, by decide⟩
theorem fun8_bd (z0 z1 : Int) (h0 : 0 ≤ z0 ∧ z0 ≤ 4294967295) (h1 : 0 ≤ z1 ∧ z1 ≤ 4294967295) : ∀ i, i < 8 → 0 ≤ fun8 z0 z1 0 0 0 0 0 0 i ∧ fun8 z0 z1 0 0 0 0 0 0 i ≤ 4294967295 := fun i hi => by
  match i, hi with
  | 0, _ => exact h0
  | 1, _ => exact h1
  | 2, _ => exact zero_bd
  | 3, _ => exact zero_bd
  | 4, _ => exact zero_bd
  | 5, _ => exact zero_bd
  | 6, _ => exact zero_bd
  | 7, _ => exact zero_bd

theorem take3_eq : takeV (fun8 0 2 0 0 0 0 0 0) 1 3 = (setV (fun8 0 2 0 0 0 0 0 0) 1 3, 0) := by
  have h0 : okV (fun8 0 2 0 0 0 0 0 0) = true := by decide
  have h1 : chk 1 3 = 0 := by decide
  exact takeV_yes (k := 1) h0 h1 (by decide) (by decide)
theorem take3_any (w : World) :
    Calls Tryd.prog 21 #[.agg #[.int .u32 0, .int .u32 2, .int .u32 0, .int .u32 0, .int .u32 0, .int .u32 0, .int .u32 0, .int .u32 0], .agg #[.int .i64 1, .int .u32 3]] w fun e w' => e = .returned (.tuple #[.agg #[.int .u32 0, .int .u32 3, .int .u32 0, .int .u32 0, .int .u32 0, .int .u32 0, .int .u32 0, .int .u32 0], .int .i64 0]) ∧ Below w.heap.size w w' :=
  (take_any (fun8 0 2 0 0 0 0 0 0) 1 3 w (fun8_bd 0 2 (by decide) (by decide))).mono fun _ _ ⟨h1, h2⟩ => ⟨by rw [h1, take3_eq]; rfl, h2⟩
theorem take4_eq : takeV (fun8 0 2 0 0 0 0 0 0) 1 4 = (zV, 17) := by
  have h0 : okV (fun8 0 2 0 0 0 0 0 0) = true := by decide
  have h1 : chk 1 4 = 0 := by decide
  exact takeV_gap (k := 1) h0 h1 (by decide) (by decide)
theorem take4_any (w : World) :
    Calls Tryd.prog 21 #[.agg #[.int .u32 0, .int .u32 2, .int .u32 0, .int .u32 0, .int .u32 0, .int .u32 0, .int .u32 0, .int .u32 0], .agg #[.int .i64 1, .int .u32 4]] w fun e w' => e = .returned (.tuple #[.agg #[.int .u32 0, .int .u32 0, .int .u32 0, .int .u32 0, .int .u32 0, .int .u32 0, .int .u32 0, .int .u32 0], .int .i64 17]) ∧ Below w.heap.size w w' :=
  (take_any (fun8 0 2 0 0 0 0 0 0) 1 4 w (fun8_bd 0 2 (by decide) (by decide))).mono fun _ _ ⟨h1, h2⟩ => ⟨by rw [h1, take4_eq]; rfl, h2⟩
theorem take2_eq : takeV (fun8 0 2 0 0 0 0 0 0) 1 2 = (zV, 11) := by
  have h0 : okV (fun8 0 2 0 0 0 0 0 0) = true := by decide
  have h1 : chk 1 2 = 0 := by decide
  exact takeV_has h0 h1 (by decide)
theorem take2_any (w : World) :
    Calls Tryd.prog 21 #[.agg #[.int .u32 0, .int .u32 2, .int .u32 0, .int .u32 0, .int .u32 0, .int .u32 0, .int .u32 0, .int .u32 0], .agg #[.int .i64 1, .int .u32 2]] w fun e w' => e = .returned (.tuple #[.agg #[.int .u32 0, .int .u32 0, .int .u32 0, .int .u32 0, .int .u32 0, .int .u32 0, .int .u32 0, .int .u32 0], .int .i64 11]) ∧ Below w.heap.size w w' :=
  (take_any (fun8 0 2 0 0 0 0 0 0) 1 2 w (fun8_bd 0 2 (by decide) (by decide))).mono fun _ _ ⟨h1, h2⟩ => ⟨by rw [h1, take2_eq]; rfl, h2⟩
theorem join32_any (w : World) :
    Calls Tryd.prog 18 #[.agg #[.int .u32 1, .int .u32 2, .int .u32 0, .int .u32 0, .int .u32 0, .int .u32 0, .int .u32 0, .int .u32 0], .agg #[.int .u32 3, .int .u32 0, .int .u32 0, .int .u32 0, .int .u32 0, .int .u32 0, .int .u32 0, .int .u32 0]] w fun e w' => e = .returned (.agg #[.int .u32 3, .int .u32 2, .int .u32 0, .int .u32 0, .int .u32 0, .int .u32 0, .int .u32 0, .int .u32 0]) ∧ Below w.heap.size w w' :=
  (join_any (fun8 1 2 0 0 0 0 0 0) (fun8 3 0 0 0 0 0 0 0) w).mono fun _ _ ⟨h1, h2⟩ => ⟨h1, h2⟩
theorem eq32 (w : World) : (Op.equalIn 10000 24 (.agg #[.int .u32 3, .int .u32 2, .int .u32 0, .int .u32 0, .int .u32 0, .int .u32 0, .int .u32 0, .int .u32 0]) (.agg #[.int .u32 3, .int .u32 2, .int .u32 0, .int .u32 0, .int .u32 0, .int .u32 0, .int .u32 0, .int .u32 0])).run Tryd.prog w = .ok true w := eql_vec 9998 (fun8 3 2 0 0 0 0 0 0) (fun8 3 2 0 0 0 0 0 0) w
theorem eq03 (w : World) : (Op.equalIn 10000 24 (.agg #[.int .u32 0, .int .u32 3, .int .u32 0, .int .u32 0, .int .u32 0, .int .u32 0, .int .u32 0, .int .u32 0]) (.agg #[.int .u32 0, .int .u32 3, .int .u32 0, .int .u32 0, .int .u32 0, .int .u32 0, .int .u32 0, .int .u32 0])).run Tryd.prog w = .ok true w := eql_vec 9998 (fun8 0 3 0 0 0 0 0 0) (fun8 0 3 0 0 0 0 0 0) w
theorem text03_eq : textV (fun8 0 3 0 0 0 0 0 0) = ⟨#[48, 44, 51]⟩ := by
  have h : lngV (fun8 0 3 0 0 0 0 0 0) 8 = 2 := by decide
  unfold textV
  rw [if_neg (by rw [h]; decide), h, catT, catT, catT, show ((fun8 0 3 0 0 0 0 0 0) 0).toNat = 0 from rfl, show ((fun8 0 3 0 0 0 0 0 0) 1).toNat = 3 from rfl, Lib.decDigits_one (by decide), Lib.decDigits_one (by decide)]
  rfl
theorem text03_any (w : World) (ht : Tab w) :
    Calls Tryd.prog 7 #[.agg #[.int .u32 0, .int .u32 3, .int .u32 0, .int .u32 0, .int .u32 0, .int .u32 0, .int .u32 0, .int .u32 0]] w fun e w' => e = .returned (.string ⟨#[48, 44, 51]⟩) ∧ Below w.heap.size w w' :=
  (text_any (fun8 0 3 0 0 0 0 0 0) w (fun8_bd 0 3 (by decide) (by decide)) ht).mono fun _ _ ⟨h1, h2⟩ => ⟨by rw [h1, text03_eq], h2⟩
theorem le03_any (w : World) :
    Calls Tryd.prog 20 #[.agg #[.int .u32 0, .int .u32 0, .int .u32 0, .int .u32 0, .int .u32 0, .int .u32 0, .int .u32 0, .int .u32 0], .agg #[.int .u32 0, .int .u32 3, .int .u32 0, .int .u32 0, .int .u32 0, .int .u32 0, .int .u32 0, .int .u32 0]] w fun e w' => e = .returned (.bool true) ∧ Below w.heap.size w w' :=
  (le_any (fun8 0 0 0 0 0 0 0 0) (fun8 0 3 0 0 0 0 0 0) w).mono fun _ _ ⟨h1, h2⟩ => ⟨by rw [h1, show leV (fun8 0 0 0 0 0 0 0 0) (fun8 0 3 0 0 0 0 0 0) = true by decide], h2⟩
theorem le30_any (w : World) :
    Calls Tryd.prog 20 #[.agg #[.int .u32 0, .int .u32 3, .int .u32 0, .int .u32 0, .int .u32 0, .int .u32 0, .int .u32 0, .int .u32 0], .agg #[.int .u32 0, .int .u32 0, .int .u32 0, .int .u32 0, .int .u32 0, .int .u32 0, .int .u32 0, .int .u32 0]] w fun e w' => e = .returned (.bool false) ∧ Below w.heap.size w w' :=
  (le_any (fun8 0 3 0 0 0 0 0 0) (fun8 0 0 0 0 0 0 0 0) w).mono fun _ _ ⟨h1, h2⟩ => ⟨by rw [h1, show leV (fun8 0 3 0 0 0 0 0 0) (fun8 0 0 0 0 0 0 0 0) = false by decide], h2⟩

set_option maxRecDepth 100000 in
set_option maxHeartbeats 1000000 in
theorem vworks_any (w : World) (ht : Tab w) :
    Calls Tryd.prog 17 #[] w fun e w' => e = .returned (.bool true) ∧ Below w.heap.size w w' := by
  have e32 := eq32
  have e03 := eq03
  have HT := Lib.hid ht; clear ht
  go_enter Tryd.func17, Tryd.ntmps17
  go_wp2_with fail
  refine (take3_any _).mono ?_
  rintro e w1 ⟨rfl, b1⟩
  have hB1 := Lib.hid (Blk.new w1 #[.int .u32 0, .int .u32 3, .int .u32 0, .int .u32 0, .int .u32 0, .int .u32 0, .int .u32 0, .int .u32 0] 24)
  have b1' := below_new b1 (.cells #[.int .u32 0, .int .u32 3, .int .u32 0, .int .u32 0, .int .u32 0, .int .u32 0, .int .u32 0, .int .u32 0] 24)
  clear b1
  go_wp2_with fail
  refine (take4_any _).mono ?_
  rintro e w2 ⟨rfl, b2⟩
  have hB2 := Lib.hid ((hB1.out.below b2).alloc (.cells #[.int .u32 0, .int .u32 0, .int .u32 0, .int .u32 0, .int .u32 0, .int .u32 0, .int .u32 0, .int .u32 0] 24))
  have b2' := below_new (below_then b1' b2) (.cells #[.int .u32 0, .int .u32 0, .int .u32 0, .int .u32 0, .int .u32 0, .int .u32 0, .int .u32 0, .int .u32 0] 24)
  clear b2 b1' hB1
  go_wp2_with fail
  refine (take2_any _).mono ?_
  rintro e w3 ⟨rfl, b3⟩
  have hB3 := Lib.hid ((hB2.out.below b3).alloc (.cells #[.int .u32 0, .int .u32 0, .int .u32 0, .int .u32 0, .int .u32 0, .int .u32 0, .int .u32 0, .int .u32 0] 24))
  have b3' := below_new (below_then b2' b3) (.cells #[.int .u32 0, .int .u32 0, .int .u32 0, .int .u32 0, .int .u32 0, .int .u32 0, .int .u32 0, .int .u32 0] 24)
  clear b3 b2' hB2
  go_wp2_with fail
  refine (join32_any _).mono ?_
  rintro e w4 ⟨rfl, b4⟩
  have hB4 := Lib.hid (hB3.out.below b4)
  have b4' := below_then b3' b4
  have c := hB4.out.cell
  have c0 := c 0; have c1 := c 1; have c2 := c 2; have c3 := c 3; have c4 := c 4; have c5 := c 5; have c6 := c 6; have c7 := c 7
  clear b4 b3' hB3 c
  simp only [List.getElem?_toArray, List.getElem?_cons_zero, List.getElem?_cons_succ] at c0 c1 c2 c3 c4 c5 c6 c7
  have HT4 := Lib.hid (HT.out.below b4' (Nat.le_refl _))
  go_wp2_with fail
  refine (text03_any _ HT4.out).mono ?_
  rintro e w5 ⟨rfl, b5⟩
  have hB5 := Lib.hid (hB4.out.below b5)
  have b5' := below_then b4' b5
  have c := hB5.out.cell
  clear c0 c1 c2 c3 c4 c5 c6 c7
  have c0 := c 0; have c1 := c 1; have c2 := c 2; have c3 := c 3; have c4 := c 4; have c5 := c 5; have c6 := c 6; have c7 := c 7
  clear b5 b4' hB4 c HT4
  simp only [List.getElem?_toArray, List.getElem?_cons_zero, List.getElem?_cons_succ] at c0 c1 c2 c3 c4 c5 c6 c7
  go_wp2_with fail
  refine (le03_any _).mono ?_
  rintro e w6 ⟨rfl, b6⟩
  have hB6 := Lib.hid (hB5.out.below b6)
  have b6' := below_then b5' b6
  have c := hB6.out.cell
  clear c0 c1 c2 c3 c4 c5 c6 c7
  have c0 := c 0; have c1 := c 1; have c2 := c 2; have c3 := c 3; have c4 := c 4; have c5 := c 5; have c6 := c 6; have c7 := c 7
  clear b6 b5' hB5 c
  simp only [List.getElem?_toArray, List.getElem?_cons_zero, List.getElem?_cons_succ] at c0 c1 c2 c3 c4 c5 c6 c7
  go_wp2_with fail
  refine (le30_any _).mono ?_
  rintro e w7 ⟨rfl, b7⟩
  have b7' := below_then b6' b7
  clear c0 c1 c2 c3 c4 c5 c6 c7 b7 b6'
  go_wp2
  go_ret
  exact ⟨rfl, b7'⟩
end Go.Proofs.YtfmdmifpgmkohaaDoor
