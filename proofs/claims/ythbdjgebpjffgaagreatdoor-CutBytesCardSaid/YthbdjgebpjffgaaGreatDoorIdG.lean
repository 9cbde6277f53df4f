/-
  What Write and WriteTag of package ident, and the document's own words, answer about any name.
  Conditions: none.
-/
import Derived.Test.YthbdjgebpjffgaaGreatDoorIdC
import Derived.Test.YthbdjgebpjffgaaGreatDoorOctC
import Derived.Deep.RegionHeld3
set_option linter.unusedVariables false
set_option linter.unusedSimpArgs false
namespace Go.Proofs.YthbdjgebpjffgaaGreatDoor
open Go.RowKit

theorem chk_zeroI {o q : Int} (h : chk o q = 0) : 0 ≤ o ∧ o ≤ 7 ∧ 1 ≤ q ∧ q ≤ 1048576 := by
  unfold chk at h
  split at h
  · exact absurd h (by decide)
  · rename_i k; omega
theorem chkT_zero {o q n : Int} (h : chkT o q n = 0) : chk o q = 0 ∧ 0 ≤ n ∧ n ≤ 15 := by
  unfold chkT at h
  split at h
  · rename_i k
    split at h
    · exact absurd h (by decide)
    · exact ⟨k, by omega, by omega⟩
  · exact absurd h (by decide)
theorem chkT_two {o q n : Int} (h : ¬ chkT o q n = 0) : chkT o q n = 2 := by
  unfold chkT at h ⊢
  split
  · rename_i k
    rw [if_pos k] at h
    split
    · rfl
    · rename_i m; rw [if_neg m] at h; exact absurd rfl h
  · rfl

/-- A name in bytes; an operation's. -/
def idS (o q : Int) : ByteArray := if chk o q = 0 then numS o.toNat ++ numS q.toNat else ⟨#[]⟩
def tagS (o q n : Int) : ByteArray := if chkT o q n = 0 then idS o q ++ numS n.toNat else ⟨#[]⟩

theorem numS_small {v : Nat} (h : v < 18446744073709551616) : (numS v).size ≤ 9 := by have := numS_size v; have := digs_le8 h; omega
theorem idS_size (o q : Int) : (idS o q).size ≤ 18 := by
  unfold idS
  split
  · rename_i h
    obtain ⟨h1, h2, h3, h4⟩ := chk_zeroI h
    have := numS_small (v := o.toNat) (by omega)
    have := numS_small (v := q.toNat) (by omega)
    rw [ByteArray.size_append]
    omega
  · decide

/-- A block of these cells is the call's first; nothing that was has turned. -/
structure H1 (w0 : World) (cs : Array Value) (T : TypeId) (w : World) : Prop where
  bel : Below w0.heap.size w0 w
  blk : Blk w w0.heap.size cs T
theorem H1.start (w : World) (cs : Array Value) (T : TypeId) : H1 w cs T (w.alloc (.cells cs T)) := ⟨(Below.refl _ _).alloc (Nat.le_refl _) _, Blk.new _ _ _⟩
theorem H1.drew {w0 w : World} {cs : Array Value} {T : TypeId} (h : H1 w0 cs T w) : H1 w0 cs T w.drew := ⟨⟨h.bel.os, h.bel.tape, h.bel.output, h.bel.size, h.bel.block⟩, h.blk⟩
theorem H1.next {w0 w w' : World} {cs : Array Value} {T : TypeId} (h : H1 w0 cs T w) (b : Below w.heap.size w w') : H1 w0 cs T w' := ⟨h.bel.trans (b.mono h.bel.size), Blk.below h.blk b⟩
theorem H1.ids {w0 w : World} {a b : Value} {T : TypeId} (h : H1 w0 #[a, b] T w) : w.cell? ⟨w0.heap.size, 0, none⟩ = some a ∧ w.cell? ⟨w0.heap.size, 1, none⟩ = some b ∧ H1 w0 #[a, b] T w :=
  ⟨by rw [Blk.cell h.blk]; rfl, by rw [Blk.cell h.blk]; rfl, h⟩
theorem H1.tags {w0 w : World} {a b c : Value} {T : TypeId} (h : H1 w0 #[a, b, c] T w) : w.cell? ⟨w0.heap.size, 0, none⟩ = some a ∧ w.cell? ⟨w0.heap.size, 1, none⟩ = some b ∧ w.cell? ⟨w0.heap.size, 2, none⟩ = some c ∧ H1 w0 #[a, b, c] T w :=
  ⟨by rw [Blk.cell h.blk]; rfl, by rw [Blk.cell h.blk]; rfl, by rw [Blk.cell h.blk]; rfl, h⟩
theorem H1.held {A B : Prop} {w0 w : World} {cs : Array Value} {T : TypeId} (h : A ∧ B ∧ H1 w0 cs T w) : H1 w0 cs T w := h.2.2
theorem H1.heldT {A B C : Prop} {w0 w : World} {cs : Array Value} {T : TypeId} (h : A ∧ B ∧ C ∧ H1 w0 cs T w) : H1 w0 cs T w := h.2.2.2


theorem num_H1 {w0 w : World} {cs : Array Value} {T : TypeId} (v : Nat) (h : H1 w0 cs T w) (hv : v < 18446744073709551616) :
    Calls Tryz.prog 34 #[.int .u64 v] w fun e w' => e = .returned (.string (numS v)) ∧ H1 w0 cs T w' :=
  (num_any v w hv).mono fun _ _ ⟨h1, h2⟩ => ⟨h1, h.next h2⟩

set_option maxHeartbeats 1000000 in
theorem idWrite_any (o q : Int) (w : World) :
    Calls Tryz.prog 35 #[.agg #[.int .i64 o, .int .u32 q]] w fun e w' => e = .returned (.string (idS o q)) ∧ Below w.heap.size w w' := by
  have hI := H1.start w #[.int .i64 o, .int .u32 q] 83
  by_cases h0 : chk o q = 0
  · obtain ⟨h1, h2, h3, h4⟩ := chk_zeroI h0
    obtain ⟨a, rfl⟩ : ∃ n : Nat, o = n := ⟨o.toNat, by omega⟩
    obtain ⟨b, rfl⟩ : ∃ n : Nat, q = n := ⟨q.toNat, by omega⟩
    have HC : Hid (idS a b = numS a ++ numS b) := Lib.hid (by unfold idS; rw [if_pos h0]; rfl)
    have HA : Hid (a < 18446744073709551616) := Lib.hid (by omega)
    have HB : Hid (b < 18446744073709551616) := Lib.hid (by omega)
    have wa : IntKind.u64.wrap (a : Int) = a := by rw [IntKind.wrap_u64]; omega
    have wb : IntKind.u64.wrap (b : Int) = b := by rw [IntKind.wrap_u64]; omega
    have e1 : ∀ W, (Op.stringOp .add (numS a) (numS b)).run Tryz.prog W = .ok (.string (numS a ++ numS b)) W := fun W => run_string_add_sum W _ _ (by have := numS_small HA.out; have := numS_small HB.out; omega)
    have H0 := Lib.hid h0
    clear h0 h1 h2 h3 h4
    go_enter Tryz.func35, Tryz.ntmps35
    go_wp2_with fail
    refine (idCheck_any a b _).mono ?_
    rw [H0.out]
    rintro e w1 ⟨rfl, b1⟩
    have hI1 := hI.next b1
    clear b1 hI
    go_wp2_with fail
    go_region_held3 (fun w' => w'.cell? ⟨w.heap.size, 0, none⟩ = some (.int .i64 a) ∧ w'.cell? ⟨w.heap.size, 1, none⟩ = some (.int .u32 b) ∧ H1 w #[.int .i64 a, .int .u32 b] 83 w') (first | exact H1.ids (by assumption) | exact H1.ids (H1.drew (by assumption))) (first | (go_at_call 34; refine (num_H1 (w0 := w) (cs := #[.int .i64 a, .int .u32 b]) (T := 83) _ (by first | assumption | exact H1.held (by assumption)) (by first | exact HA.out | exact HB.out)).mono ?_; rintro e w2 ⟨rfl, hJ⟩))
    all_goals
      go_wp2
      go_ret
      exact ⟨by rw [HC.out]; rfl, H1.bel (by assumption)⟩
  · have HC : Hid (idS o q = ⟨#[]⟩) := Lib.hid (by unfold idS; rw [if_neg h0])
    have H0 := Lib.hid (chk_two h0); clear h0
    go_enter Tryz.func35, Tryz.ntmps35
    go_wp2_with fail
    refine (idCheck_any o q _).mono ?_
    rw [H0.out]
    rintro e w1 ⟨rfl, b1⟩
    have b := (hI.next b1).bel
    clear b1 hI
    go_wp2
    go_ret
    exact ⟨by rw [HC.out]; rfl, b⟩

theorem write_H1 {w0 w : World} {cs : Array Value} {T : TypeId} (o q : Int) (h : H1 w0 cs T w) :
    Calls Tryz.prog 35 #[.agg #[.int .i64 o, .int .u32 q]] w fun e w' => e = .returned (.string (idS o q)) ∧ H1 w0 cs T w' :=
  (idWrite_any o q w).mono fun _ _ ⟨h1, h2⟩ => ⟨h1, h.next h2⟩

theorem rnum_H1 {w0 w : World} {cs : Array Value} {T : TypeId} (v : Nat) (h : H1 w0 cs T w) (hv : v < 18446744073709551616) :
    Calls Tryz.prog 41 #[.int .u64 v] w fun e w' => e = .returned (.string (numS v)) ∧ H1 w0 cs T w' :=
  (rnum_any v w hv).mono fun _ _ ⟨h1, h2⟩ => ⟨h1, h.next h2⟩

set_option maxHeartbeats 1000000 in
theorem ridWrite_any (o q : Int) (w : World) :
    Calls Tryz.prog 42 #[.agg #[.int .i64 o, .int .u32 q]] w fun e w' => e = .returned (.string (idS o q)) ∧ Below w.heap.size w w' := by
  have hI := H1.start w #[.int .i64 o, .int .u32 q] 83
  by_cases h0 : chk o q = 0
  · obtain ⟨h1, h2, h3, h4⟩ := chk_zeroI h0
    obtain ⟨a, rfl⟩ : ∃ n : Nat, o = n := ⟨o.toNat, by omega⟩
    obtain ⟨b, rfl⟩ : ∃ n : Nat, q = n := ⟨q.toNat, by omega⟩
    have HC : Hid (idS a b = numS a ++ numS b) := Lib.hid (by unfold idS; rw [if_pos h0]; rfl)
    have HA : Hid (a < 18446744073709551616) := Lib.hid (by omega)
    have HB : Hid (b < 18446744073709551616) := Lib.hid (by omega)
    have wa : IntKind.u64.wrap (a : Int) = a := by rw [IntKind.wrap_u64]; omega
    have wb : IntKind.u64.wrap (b : Int) = b := by rw [IntKind.wrap_u64]; omega
    have e1 : ∀ W, (Op.stringOp .add (numS a) (numS b)).run Tryz.prog W = .ok (.string (numS a ++ numS b)) W := fun W => run_string_add_sum W _ _ (by have := numS_small HA.out; have := numS_small HB.out; omega)
    have H0 := Lib.hid h0
    clear h0 h1 h2 h3 h4
    go_enter Tryz.func42, Tryz.ntmps42
    go_wp2_with fail
    refine (ridCheck_any a b _).mono ?_
    rw [H0.out]
    rintro e w1 ⟨rfl, b1⟩
    have hI1 := hI.next b1
    clear b1 hI
    go_wp2_with fail
    go_region_held3 (fun w' => w'.cell? ⟨w.heap.size, 0, none⟩ = some (.int .i64 a) ∧ w'.cell? ⟨w.heap.size, 1, none⟩ = some (.int .u32 b) ∧ H1 w #[.int .i64 a, .int .u32 b] 83 w') (first | exact H1.ids (by assumption) | exact H1.ids (H1.drew (by assumption))) (first | (go_at_call 41; refine (rnum_H1 (w0 := w) (cs := #[.int .i64 a, .int .u32 b]) (T := 83) _ (by first | assumption | exact H1.held (by assumption)) (by first | exact HA.out | exact HB.out)).mono ?_; rintro e w2 ⟨rfl, hJ⟩))
    all_goals
      go_wp2
      go_ret
      exact ⟨by rw [HC.out]; rfl, H1.bel (by assumption)⟩
  · have HC : Hid (idS o q = ⟨#[]⟩) := Lib.hid (by unfold idS; rw [if_neg h0])
    have H0 := Lib.hid (chk_two h0); clear h0
    go_enter Tryz.func42, Tryz.ntmps42
    go_wp2_with fail
    refine (ridCheck_any o q _).mono ?_
    rw [H0.out]
    rintro e w1 ⟨rfl, b1⟩
    have b := (hI.next b1).bel
    clear b1 hI
    go_wp2
    go_ret
    exact ⟨by rw [HC.out]; rfl, b⟩

theorem rwrite_H1 {w0 w : World} {cs : Array Value} {T : TypeId} (o q : Int) (h : H1 w0 cs T w) :
    Calls Tryz.prog 42 #[.agg #[.int .i64 o, .int .u32 q]] w fun e w' => e = .returned (.string (idS o q)) ∧ H1 w0 cs T w' :=
  (ridWrite_any o q w).mono fun _ _ ⟨h1, h2⟩ => ⟨h1, h.next h2⟩

end Go.Proofs.YthbdjgebpjffgaaGreatDoor
