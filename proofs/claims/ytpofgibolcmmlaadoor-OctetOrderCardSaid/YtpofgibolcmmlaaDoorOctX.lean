/-
  The examples that each law of octet checks first come out as the document says.
  Conditions: package errors' own variable holds the handle of the type error.
-/
import Derived.Test.YtpofgibolcmmlaaDoorOctV
import Derived.Test.YtpofgibolcmmlaaDoorOctN
namespace Go.Proofs.YtpofgibolcmmlaaDoor
open Go.RowKit

theorem d0 : digs 0 = [] := digs_zero
theorem d1 : digs 1 = [1] := by rw [digs_pos (by decide), show 1 / 256 = 0 from rfl, d0]; rfl
theorem d2 : digs 2 = [2] := by rw [digs_pos (by decide), show 2 / 256 = 0 from rfl, d0]; rfl
theorem d300 : digs 300 = [1, 44] := by rw [digs_pos (by decide), show 300 / 256 = 1 from rfl, d1]; rfl
theorem n300 : numS 300 = ⟨#[2, 1, 44]⟩ := by unfold numS numL; rw [d300]; rfl
theorem n0 : numS 0 = ⟨#[0]⟩ := by unfold numS numL; rw [d0]; rfl
theorem s1 : numS (sgnN (-1)) = ⟨#[1, 1]⟩ := by unfold numS numL; rw [show sgnN (-1) = 1 from rfl, d1]; rfl
theorem tab : txtS ⟨#[97, 98]⟩ = ⟨#[1, 2, 97, 98]⟩ := by unfold txtS; rw [show (⟨#[97, 98]⟩ : ByteArray).size = 2 from rfl]; unfold numS numL; rw [d2]; rfl

/-- The bytes that the second example reads. -/
def exQ : ByteArray := ⟨#[1, 2, 97, 98, 1, 1, 120]⟩
def exR : ByteArray := ⟨#[2, 0, 1]⟩

theorem cat : (⟨#[1, 2, 97, 98]⟩ : ByteArray) ++ ⟨#[1, 1]⟩ ++ ⟨#[120]⟩ = exQ := by decide

theorem r1 : nC' exR 0 0 = 3 ∧ nV' exR 0 0 = 0 ∧ nA' exR 0 0 = 0 := by decide +kernel
theorem q1 : tC' exQ 0 2 0 = 0 ∧ tV' exQ 0 2 0 = ⟨#[97, 98]⟩ ∧ tA' exQ 0 2 0 = 4 := by decide +kernel
theorem q2 : sC' exQ 4 0 = 0 ∧ sV' exQ 4 0 = -1 ∧ sA' exQ 4 0 = 6 := by decide +kernel
theorem q3 : endC exQ 6 0 = 6 := by decide +kernel

set_option maxRecDepth 100000 in
set_option maxHeartbeats 1000000 in
theorem works_any (w : World) (hg : Handle w) :
    Calls Tryd.prog 25 #[] w fun e w' => e = .returned (.bool true) ∧ Below w.heap.size w w' := by
  have HG := Lib.hid hg; clear hg
  go_enter Tryd.func25, Tryd.ntmps25
  have hw0 := Handle.lt HG.out
  go_wp2_with fail
  refine (new_any _ _).mono ?_
  rintro e w1 ⟨rfl, rfl⟩
  have hr0 : Rdr (w.alloc (.cells #[.string ⟨#[2, 0, 1]⟩, .int .i64 0, .int .i64 0] 54)) w.heap.size exR 0 0 := Blk.new _ _ _
  have HR0 := Lib.hid hr0; clear hr0
  go_wp2_with fail
  refine (rdNum_any w.heap.size 0 exR 0 _ HR0.out (by decide) (by decide)).mono ?_
  rw [r1.1, r1.2.1, r1.2.2]
  rintro e w2 ⟨rfl, hr2, ho2⟩
  have g2 : Below w.heap.size w w2 := Only.below ((Below.refl w.heap.size w).alloc (Nat.le_refl _) _) ho2 (Nat.le_refl _) (by simp)
  have HR2 := Lib.hid hr2; clear hr2 HR0 ho2
  go_wp2_with fail
  refine (text_any _ _ (by decide)).mono ?_
  rintro e w3 ⟨rfl, b3⟩
  rw [tab]
  have g3 := below_then g2 b3
  have hr3 := Blk.below HR2.out b3
  have HR3 := Lib.hid hr3; clear hr3 b3 g2 HR2
  go_wp2_with fail
  refine (signed_any (-1) _ (by decide)).mono ?_
  rintro e w4 ⟨rfl, b4⟩
  rw [s1]
  have g4 := below_then g3 b4
  have hr4 := Blk.below HR3.out b4
  have HR4 := Lib.hid hr4; clear hr4 b4 g3 HR3
  go_wp2_with fail
  rw [cat]
  refine (new_any _ _).mono ?_
  rintro e w5 ⟨rfl, rfl⟩
  have hq5 : Rdr (w4.alloc (.cells #[.string exQ, .int .i64 0, .int .i64 0] 54)) w4.heap.size exQ 0 0 := Blk.new _ _ _
  have HQ5 := Lib.hid hq5; clear hq5
  have hrq := Blk.lt HR4.out
  have hr5 := Blk.alloc HR4.out (.cells #[.string exQ, .int .i64 0, .int .i64 0] 54)
  have HR5 := Lib.hid hr5; clear hr5 HR4
  have g5 := below_new g4 (.cells #[.string exQ, .int .i64 0, .int .i64 0] 54)
  have hle := g4.size
  clear g4
  go_wp2_with fail
  refine (rdText_any w4.heap.size 0 exQ 2 0 _ HQ5.out (by decide) (by decide) (by decide)).mono ?_
  rw [q1.1, q1.2.1, q1.2.2]
  rintro e w6 ⟨rfl, hq6, ho6⟩
  have g6 : Below w.heap.size w w6 := Only.below g5 ho6 hle (by simp; omega)
  have HQ6 := Lib.hid hq6; clear hq6
  have hr6 := Blk.only HR5.out ho6 (by omega)
  have HR6 := Lib.hid hr6; clear hr6 HR5 HQ5 g5 ho6
  go_wp2_with fail
  refine (rdSigned_any w4.heap.size 4 exQ 0 _ HQ6.out (by decide) (by decide)).mono ?_
  rw [q2.1, q2.2.1, q2.2.2]
  rintro e w7 ⟨rfl, hq7, ho7⟩
  have g7 : Below w.heap.size w w7 := Only.below g6 ho7 hle (g6.size)
  have HQ7 := Lib.hid hq7; clear hq7
  have hr7 := Blk.only HR6.out ho7 (by omega)
  have HR7 := Lib.hid hr7; clear hr7 HR6 HQ6 g6 ho7
  go_wp2_with fail
  refine (num_any 300 _ (by decide)).mono ?_
  rw [n300]
  rintro e w8 ⟨rfl, b8⟩
  have g8 := below_then g7 b8
  have hr8 := Blk.below HR7.out b8
  have hq8 := Blk.below HQ7.out b8
  have HR8 := Lib.hid hr8; clear hr8 HR7 g7
  have HQ8 := Lib.hid hq8; clear hq8 HQ7 b8
  go_wp2_with fail
  refine (signed_any (-1) _ (by decide)).mono ?_
  rintro e w9 ⟨rfl, b9⟩
  rw [s1]
  have g9 := below_then g8 b9
  have hr9 := Blk.below HR8.out b9
  have hq9 := Blk.below HQ8.out b9
  have HR9 := Lib.hid hr9; clear hr9 HR8 g8
  have HQ9 := Lib.hid hq9; clear hq9 HQ8 b9
  go_wp2_with fail
  refine (num_any 0 _ (by decide)).mono ?_
  rw [n0]
  rintro e w10 ⟨rfl, b10⟩
  have g10 := below_then g9 b10
  have hr10 := Blk.below HR9.out b10
  have hq10 := Blk.below HQ9.out b10
  have HR10 := Lib.hid hr10; clear hr10 HR9 g9
  have HQ10 := Lib.hid hq10; clear hq10 HQ9 b10
  go_wp2_with fail
  refine (err_some _ 0 exR 3 _ HR10.out (by decide)).mono ?_
  rintro e w11 ⟨rfl, hf11, b11⟩
  have g11 := below_then g10 b11
  have hq11 := Blk.below HQ10.out b11
  have HQ11 := Lib.hid hq11; clear hq11 HQ10 b11 HR10 g10
  have HF11 := Lib.hid hf11; clear hf11
  go_wp2_with fail
  refine (seen_some _ 0 3 _ (HG.out.below g11 hw0) HF11.out (by decide) (by decide)).mono ?_
  rintro e w12 ⟨rfl, b12⟩
  have g12 := below_then g11 b12
  have hq12 := Blk.below HQ11.out b12
  have HQ12 := Lib.hid hq12; clear hq12 HQ11 b12 HF11 g11
  go_wp2_with fail
  refine (err_none _ 6 exQ _ HQ12.out).mono ?_
  rintro e w13 ⟨rfl, rfl⟩
  go_wp2_with fail
  refine (left_any _ 6 exQ 0 _ HQ12.out (by decide) (by decide)).mono ?_
  rintro e w13 ⟨rfl, n, rfl⟩
  have hz : ((exQ.size : Int) - (6 : Nat)) = 1 := by decide
  rw [hz]
  clear hz
  go_wp2_with fail
  refine (end_some _ 6 exQ 0 _ (HQ12.out.drewN n) (by decide) (by decide) (by decide +kernel)).mono ?_
  rw [q3]
  rintro e w14 ⟨b, rfl, hb, hf14, hq14, ho14⟩
  have g14 : Below w.heap.size w w14 := Only.below (below_drewN g12 n) ho14 hle (g12.size)
  have HF14 := Lib.hid hf14; clear hf14 hq14 ho14 g12 HQ12
  go_wp2_with fail
  refine (seen_some _ 6 6 _ (HG.out.below g14 hw0) HF14.out (by decide) (by decide)).mono ?_
  rintro e w15 ⟨rfl, b15⟩
  have g15 := below_then g14 b15
  clear g14 b15 HF14
  go_wp2
  go_ret
  exact ⟨rfl, g15⟩
end Go.Proofs.YtpofgibolcmmlaaDoor
