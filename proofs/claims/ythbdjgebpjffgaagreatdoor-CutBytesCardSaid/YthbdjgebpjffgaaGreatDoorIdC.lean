/-
  What package ident, and the document's own words, answer about a name or an operation's name, and how two of them stand.
  Conditions: none.
-/
import Derived.Test.YthbdjgebpjffgaaGreatDoorOctB
import Derived.Test.YthbdjgebpjffgaaGreatDoorOctK
set_option linter.unusedVariables false
set_option linter.unusedSimpArgs false
namespace Go.Proofs.YthbdjgebpjffgaaGreatDoor
open Go.RowKit

/-- What is wrong with a name: 2, or nothing. -/
def chk (o q : Int) : Int := if o < 0 ∨ 8 ≤ o ∨ q < 1 ∨ 1048576 < q then 2 else 0
/-- .. with an operation's. -/
def chkT (o q n : Int) : Int := if chk o q = 0 then (if n < 0 ∨ 16 ≤ n then 2 else 0) else 2
/-- How two numbers stand. -/
def cmpZ (a b : Int) : Int := if a < b then -1 else if b < a then 1 else 0
/-- How two names stand; two operations'. -/
def cmpI (o q o' q' : Int) : Int := if cmpZ o o' = 0 then cmpZ q q' else cmpZ o o'
def cmpT (o q n o' q' n' : Int) : Int := if cmpI o q o' q' = 0 then cmpZ n n' else cmpI o q o' q'

theorem chk_two {o q : Int} (h : ¬ chk o q = 0) : chk o q = 2 := by unfold chk at h ⊢; split <;> simp_all
theorem cmpZ_zero {a b : Int} : cmpZ a b = 0 ↔ a = b := by
  unfold cmpZ
  split
  · constructor <;> intro h <;> omega
  · split
    · constructor <;> intro h <;> omega
    · constructor <;> intro h <;> omega
theorem cmpI_zero {o q o' q' : Int} : cmpI o q o' q' = 0 ↔ o = o' ∧ q = q' := by
  unfold cmpI
  split
  · rename_i h; rw [cmpZ_zero] at h ⊢; exact ⟨fun k => ⟨h, k⟩, fun k => k.2⟩
  · rename_i h; constructor
    · intro k; exact absurd k h
    · rintro ⟨rfl, _⟩; exact absurd (cmpZ_zero.2 rfl) h

set_option maxHeartbeats 400000 in
theorem idCheck_any (o q : Int) (w : World) :
    Calls Tryz.prog 60 #[.agg #[.int .i64 o, .int .u32 q]] w fun e w' => e = .returned (.int .i64 (chk o q)) ∧ Below w.heap.size w w' := by
  have hb := (Below.refl w.heap.size w).alloc (Nat.le_refl _) (.cells #[.int .i64 o, .int .u32 q] 83)
  by_cases h1 : o < 0
  · have HC : Hid (chk o q = 2) := Lib.hid (by unfold chk; rw [if_pos (.inl h1)])
    go_enter Tryz.func60, Tryz.ntmps60
    go_wp2
    go_ret
    exact ⟨by rw [HC.out]; rfl, hb⟩
  · by_cases h2 : 8 ≤ o
    · have HC : Hid (chk o q = 2) := Lib.hid (by unfold chk; rw [if_pos (.inr (.inl h2))])
      go_enter Tryz.func60, Tryz.ntmps60
      go_wp2
      go_ret
      exact ⟨by rw [HC.out]; rfl, hb⟩
    · by_cases h3 : q < 1
      · have HC : Hid (chk o q = 2) := Lib.hid (by unfold chk; rw [if_pos (.inr (.inr (.inl h3)))])
        go_enter Tryz.func60, Tryz.ntmps60
        go_wp2
        go_ret
        exact ⟨by rw [HC.out]; rfl, hb⟩
      · by_cases h4 : 1048576 < q
        · have HC : Hid (chk o q = 2) := Lib.hid (by unfold chk; rw [if_pos (.inr (.inr (.inr h4)))])
          go_enter Tryz.func60, Tryz.ntmps60
          go_wp2
          go_ret
          exact ⟨by rw [HC.out]; rfl, hb⟩
        · have HC : Hid (chk o q = 0) := Lib.hid (by unfold chk; rw [if_neg (by omega)])
          go_enter Tryz.func60, Tryz.ntmps60
          go_wp2
          go_ret
          exact ⟨by rw [HC.out]; rfl, hb⟩

set_option maxHeartbeats 400000 in
theorem ridCheck_any (o q : Int) (w : World) :
    Calls Tryz.prog 65 #[.agg #[.int .i64 o, .int .u32 q]] w fun e w' => e = .returned (.int .i64 (chk o q)) ∧ Below w.heap.size w w' := by
  have hb := (Below.refl w.heap.size w).alloc (Nat.le_refl _) (.cells #[.int .i64 o, .int .u32 q] 83)
  by_cases h1 : o < 0
  · have HC : Hid (chk o q = 2) := Lib.hid (by unfold chk; rw [if_pos (.inl h1)])
    go_enter Tryz.func65, Tryz.ntmps65
    go_wp2
    go_ret
    exact ⟨by rw [HC.out]; rfl, hb⟩
  · by_cases h2 : 7 < o
    · have HC : Hid (chk o q = 2) := Lib.hid (by unfold chk; rw [if_pos (.inr (.inl (by omega)))])
      go_enter Tryz.func65, Tryz.ntmps65
      go_wp2
      go_ret
      exact ⟨by rw [HC.out]; rfl, hb⟩
    · by_cases h3 : q < 1
      · have HC : Hid (chk o q = 2) := Lib.hid (by unfold chk; rw [if_pos (.inr (.inr (.inl h3)))])
        go_enter Tryz.func65, Tryz.ntmps65
        go_wp2
        go_ret
        exact ⟨by rw [HC.out]; rfl, hb⟩
      · by_cases h4 : 1048576 < q
        · have HC : Hid (chk o q = 2) := Lib.hid (by unfold chk; rw [if_pos (.inr (.inr (.inr h4)))])
          go_enter Tryz.func65, Tryz.ntmps65
          go_wp2
          go_ret
          exact ⟨by rw [HC.out]; rfl, hb⟩
        · have HC : Hid (chk o q = 0) := Lib.hid (by unfold chk; rw [if_neg (by omega)])
          go_enter Tryz.func65, Tryz.ntmps65
          go_wp2
          go_ret
          exact ⟨by rw [HC.out]; rfl, hb⟩

end Go.Proofs.YthbdjgebpjffgaaGreatDoor
