/-
  Package dots' Union.
  Conditions: none.
-/
import Derived.Test.YthbdjgebpjffgaaGreatDoorDotJ
import Derived.Test.YthbdjgebpjffgaaGreatDoorDotM
import Derived.Shelf.Abstract
import Derived.Shelf.RegionOpen
import Derived.OwnWalkIn
import Derived.Maps.AppendAt
set_option linter.unusedVariables false
set_option linter.unusedSimpArgs false
namespace Go.Proofs.YthbdjgebpjffgaaGreatDoor
open Go.RowKit Go.Shelf Go.Lib Go.Sort
attribute [local go_sem] Oper.semAt_some

/-- cmp.Or at two errors that lie in a block of their own: the first one that is not OK. -/
theorem orE_any (g : Nat) (x y : Int) (w : World) (h : Blk w g #[.int .i64 x, .int .i64 y] 29) :
    Calls Tryz.prog 52 #[.slice (some ⟨g, 0, none⟩) 2 2] w fun e w' => e = .returned (.int .i64 (orZ x y)) ∧ w = w' := by
  have c0 : w.cell? ⟨g, 0, none⟩ = some (.int .i64 x) := by rw [Blk.cell h]; rfl
  have c1 : w.cell? ⟨g, 1, none⟩ = some (.int .i64 y) := by rw [Blk.cell h]; rfl
  clear h
  by_cases h1 : x = 0
  · have HC : Hid (orZ x y = y) := Lib.hid (by unfold orZ; rw [if_pos h1])
    have t1 : (x != 0) = false := by simpa using h1
    by_cases h2 : y = 0
    · have t2 : (y != 0) = false := by simpa using h2
      have HY := Lib.hid h2
      clear h1 h2
      go_enter Tryz.func52, Tryz.ntmps52
      go_wp2
      refine wp_loop_rounds 3 ?_
      rw [rounds_succ]
      go_wp2
      rw [rounds_succ]
      go_wp2
      rw [rounds_succ]
      go_wp2
      go_ret
      exact ⟨by rw [HC.out, HY.out]; rfl, rfl⟩
    · have t2 : (y != 0) = true := by simpa using h2
      clear h1 h2
      go_enter Tryz.func52, Tryz.ntmps52
      go_wp2
      refine wp_loop_rounds 3 ?_
      rw [rounds_succ]
      go_wp2
      rw [rounds_succ]
      go_wp2
      go_ret
      exact ⟨by rw [HC.out]; rfl, rfl⟩
  · have HC : Hid (orZ x y = x) := Lib.hid (by unfold orZ; rw [if_neg h1])
    have t1 : (x != 0) = true := by simpa using h1
    clear h1
    go_enter Tryz.func52, Tryz.ntmps52
    go_wp2
    refine wp_loop_rounds 3 ?_
    rw [rounds_succ]
    go_wp2
    go_ret
    exact ⟨by rw [HC.out]; rfl, rfl⟩

/-- What is wrong with two sets. -/
def twoC (a b : List (Int × Int)) : Int := orZ (chkS a) (chkS b)
def unC (a b : List (Int × Int)) : Int := if twoC a b = 0 then mkC (a ++ b) else twoC a b
def unS (a b : List (Int × Int)) : List (Int × Int) := if twoC a b = 0 then mkR (a ++ b) else []
def miS (a b : List (Int × Int)) : List (Int × Int) := if twoC a b = 0 then a.filter fun x => decide (x ∉ b) else []
theorem un_bad {a b : List (Int × Int)} (h : ¬ twoC a b = 0) : unC a b = twoC a b ∧ unS a b = [] := ⟨by unfold unC; rw [if_neg h], by unfold unS; rw [if_neg h]⟩
theorem un_ok {a b : List (Int × Int)} (h : twoC a b = 0) : unC a b = mkC (a ++ b) ∧ unS a b = mkR (a ++ b) := ⟨by unfold unC; rw [if_pos h], by unfold unS; rw [if_pos h]⟩
theorem mi_bad {a b : List (Int × Int)} (h : ¬ twoC a b = 0) : miS a b = [] := by unfold miS; rw [if_neg h]
theorem mi_ok {a b : List (Int × Int)} (h : twoC a b = 0) : miS a b = a.filter fun x => decide (x ∉ b) := by unfold miS; rw [if_pos h]
theorem two_zero {a b : List (Int × Int)} (h : twoC a b = 0) : chkS a = 0 ∧ chkS b = 0 := by
  unfold twoC orZ at h
  by_cases h1 : chkS a = 0
  · rw [if_pos h1] at h; exact ⟨h1, h⟩
  · rw [if_neg h1] at h; exact absurd h h1
theorem valS_app {a b : List (Int × Int)} (ha : valS a = true) (hb : valS b = true) : valS (a ++ b) = true := by unfold valS at *; rw [List.all_append, ha, hb]; rfl
/-- Make of what goes through both is Make of both. -/
theorem mk_mrg {a b : List (Int × Int)} (h : twoC a b = 0) : mkC ((mrg a b).map Prod.fst) = mkC (a ++ b) ∧ mkR ((mrg a b).map Prod.fst) = mkR (a ++ b) := by
  obtain ⟨h1, h2⟩ := two_zero h
  obtain ⟨la, va, aa⟩ := chkS_zero h1
  obtain ⟨lb, vb, ab⟩ := chkS_zero h2
  have e := mrg_set aa ab
  have hS : setS ((mrg a b).map Prod.fst) = setS (a ++ b) := by rw [setS_same (mrg_asc aa ab), e]
  have l1 : ¬ 1024 < ((mrg a b).map Prod.fst).length := by have := mrg_len a b; simp; omega
  have l2 : ¬ 1024 < (a ++ b).length := by simp; omega
  have v2 := valS_app va vb
  have v1 : valS ((mrg a b).map Prod.fst) = true := by rw [e]; exact setS_val v2
  by_cases h64 : 64 < (setS (a ++ b)).length
  · obtain ⟨p1, p2⟩ := mkC_many l1 v1 (by rw [hS]; exact h64)
    obtain ⟨q1, q2⟩ := mkC_many l2 v2 h64
    exact ⟨by rw [p1, q1], by rw [p2, q2]⟩
  · obtain ⟨p1, p2⟩ := mkC_ok l1 v1 (by rw [hS]; exact h64)
    obtain ⟨q1, q2⟩ := mkC_ok l2 v2 h64
    exact ⟨by rw [p1, q1], by rw [p2, q2, hS]⟩
end Go.Proofs.YthbdjgebpjffgaaGreatDoor
