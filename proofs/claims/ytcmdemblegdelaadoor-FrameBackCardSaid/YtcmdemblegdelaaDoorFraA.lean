/-
  What Write of package frame answers, and the document's Write: the encoding of a frame, or the number of what is wrong.
  Conditions: none.
-/
import Derived.Test.YtcmdemblegdelaaDoorSumC
import Derived.Test.YtcmdemblegdelaaDoorOctC
import Derived.Test.YtcmdemblegdelaaDoorOctK
namespace Go.Proofs.YtcmdemblegdelaaDoor
open Go.RowKit

/-- The encoding of a frame. -/
def encS (k : Nat) (l : ByteArray) : ByteArray := sealS (numS k ++ txtS l)
/-- What is wrong with a frame. -/
def wC (k : Int) (l : ByteArray) : Int := if k < 1 ∨ 99 < k then 5 else if 4096 < l.size then 8 else 0
/-- What Write returns. -/
def wS (k : Int) (l : ByteArray) : ByteArray := if wC k l = 0 then encS k.toNat l else ⟨#[]⟩
/-- The error of a number, as a plain number. -/
def errE (c : Int) : Value := if c = 0 then .nilIface else .iface 30 (.int .i64 c)

def fcs (k : Int) (l : ByteArray) : Array Value := #[.int .i64 k, .string l]

/-- A frame lies in block b, and what lay in w0 has not turned. -/
structure FW (w0 : World) (b : Nat) (k : Int) (l : ByteArray) (T : TypeId) (w' : World) : Prop where
  bk : Blk w' b (fcs k l) T
  bel : Below w0.heap.size w0 w'
  hb : w0.heap.size ≤ b

variable {w0 w' : World} {b : Nat} {k : Int} {l : ByteArray} {T : TypeId}

theorem FW.drew (h : FW w0 b k l T w') : FW w0 b k l T w'.drew := ⟨h.bk, h.bel.drew, h.hb⟩
theorem FW.below {w2 : World} (h : FW w0 b k l T w') (g : Below w'.heap.size w' w2) : FW w0 b k l T w2 := ⟨Blk.below h.bk g, below_then h.bel g, h.hb⟩
theorem FW.new (w0 : World) (k : Int) (l : ByteArray) (T : TypeId) : FW w0 w0.heap.size k l T (w0.alloc (.cells (fcs k l) T)) := ⟨Blk.new _ _ _, (Below.refl _ _).alloc (Nat.le_refl _) _, Nat.le_refl _⟩
theorem FW.c0 (h : FW w0 b k l T w') : w'.cell? ⟨b, 0, none⟩ = some (.int .i64 k) := by rw [Blk.cell h.bk]; rfl
theorem FW.c1 (h : FW w0 b k l T w') : w'.cell? ⟨b, 1, none⟩ = some (.string l) := by rw [Blk.cell h.bk]; rfl
theorem FW.all (h : FW w0 b k l T w') : w'.cell? ⟨b, 0, none⟩ = some (.int .i64 k) ∧ w'.cell? ⟨b, 1, none⟩ = some (.string l) ∧ FW w0 b k l T w' := ⟨h.c0, h.c1, h⟩
theorem FW.held (h : w'.cell? ⟨b, 0, none⟩ = some (.int .i64 k) ∧ w'.cell? ⟨b, 1, none⟩ = some (.string l) ∧ FW w0 b k l T w') : FW w0 b k l T w' := h.2.2

theorem num_FW {v : Nat} (h : FW w0 b k l T w') (hv : v < 18446744073709551616) :
    Calls Tryd.prog 21 #[.int .u64 v] w' fun e w2 => e = .returned (.string (numS v)) ∧ FW w0 b k l T w2 :=
  (num_any v w' hv).mono fun _ _ ⟨he, hb⟩ => ⟨he, h.below hb⟩
theorem text_FW {s : ByteArray} (h : FW w0 b k l T w') (hs : s.size ≤ 1048576) :
    Calls Tryd.prog 22 #[.string s] w' fun e w2 => e = .returned (.string (txtS s)) ∧ FW w0 b k l T w2 :=
  (text_any s w' hs).mono fun _ _ ⟨he, hb⟩ => ⟨he, h.below hb⟩
theorem seal_FW {s : ByteArray} (h : FW w0 b k l T w') (hs : s.size ≤ 1048576) :
    Calls Tryd.prog 20 #[.string s] w' fun e w2 => e = .returned (.string (sealS s)) ∧ FW w0 b k l T w2 :=
  (seal_any s w' hs).mono fun _ _ ⟨he, hb⟩ => ⟨he, h.below hb⟩
theorem rnum_FW {v : Nat} (h : FW w0 b k l T w') (hv : v < 18446744073709551616) :
    Calls Tryd.prog 24 #[.int .u64 v] w' fun e w2 => e = .returned (.string (numS v)) ∧ FW w0 b k l T w2 :=
  (rnum_any v w' hv).mono fun _ _ ⟨he, hb⟩ => ⟨he, h.below hb⟩
theorem rtext_FW {s : ByteArray} (h : FW w0 b k l T w') (hs : s.size ≤ 1048576) :
    Calls Tryd.prog 25 #[.string s] w' fun e w2 => e = .returned (.string (txtS s)) ∧ FW w0 b k l T w2 :=
  (rtext_any s w' hs).mono fun _ _ ⟨he, hb⟩ => ⟨he, h.below hb⟩
theorem rseal_FW {s : ByteArray} (h : FW w0 b k l T w') (hs : s.size ≤ 1048576) :
    Calls Tryd.prog 23 #[.string s] w' fun e w2 => e = .returned (.string (sealS s)) ∧ FW w0 b k l T w2 :=
  (rseal_any s w' hs).mono fun _ _ ⟨he, hb⟩ => ⟨he, h.below hb⟩

theorem txtS_size (l : ByteArray) (hl : l.size ≤ 1048576) : (txtS l).size ≤ 9 + l.size := by
  have := numS_size l.size
  have := digs_le8 (v := l.size) (by omega)
  unfold txtS
  rw [ByteArray.size_append]
  omega
theorem pre_size {n : Nat} {l : ByteArray} (hn : n ≤ 99) (hl : l.size ≤ 4096) : (numS n ++ txtS l).size ≤ 4114 := by
  have := txtS_size l (by omega)
  have := numS_size n
  have := digs_le8 (v := n) (by omega)
  rw [ByteArray.size_append]
  omega
theorem encS_size {n : Nat} {l : ByteArray} (hn : n ≤ 99) (hl : l.size ≤ 4096) : (encS n l).size ≤ 4118 := by
  have := pre_size hn hl
  unfold encS sealS
  rw [ByteArray.size_append, foursS_size]
  omega

theorem write_kind (k : Int) (l : ByteArray) (w : World) (h : k < 1 ∨ 99 < k) :
    Calls Tryd.prog 7 #[.agg #[.int .i64 k, .string l]] w fun e w' => e = .returned (.tuple #[.string ⟨#[]⟩, .iface 30 (.int .i64 5)]) ∧ Below w.heap.size w w' := by
  by_cases h1 : k < 1
  · go_enter Tryd.func7, Tryd.ntmps7
    go_wp2
    go_ret2
    exact ⟨rfl, (Below.refl _ _).alloc (Nat.le_refl _) _⟩
  · have h2 : 99 < k := by omega
    clear h
    go_enter Tryd.func7, Tryd.ntmps7
    go_wp2
    go_ret2
    exact ⟨rfl, (Below.refl _ _).alloc (Nat.le_refl _) _⟩

theorem write_long (k : Int) (l : ByteArray) (w : World) (h0 : 1 ≤ k) (h1 : k ≤ 99) (hl : 4096 < l.size) (hs : l.size ≤ 1048576) :
    Calls Tryd.prog 7 #[.agg #[.int .i64 k, .string l]] w fun e w' => e = .returned (.tuple #[.string ⟨#[]⟩, .iface 30 (.int .i64 8)]) ∧ Below w.heap.size w w' := by
  go_enter Tryd.func7, Tryd.ntmps7
  go_wp2
  go_ret2
  exact ⟨rfl, (Below.refl _ _).alloc (Nat.le_refl _) _⟩

set_option maxRecDepth 100000 in
set_option maxHeartbeats 1000000 in
theorem write_good (n : Nat) (l : ByteArray) (w : World) (h0 : 1 ≤ n) (h1 : n ≤ 99) (hl : l.size ≤ 4096) :
    Calls Tryd.prog 7 #[.agg #[.int .i64 n, .string l]] w fun e w' => e = .returned (.tuple #[.string (encS n l), .nilIface]) ∧ Below w.heap.size w w' := by
  have hadd : ∀ W, (Op.stringOp .add (numS n) (txtS l)).run Tryd.prog W = .ok (.string (numS n ++ txtS l)) W := fun W => run_string_add_sum W _ _ (by have := pre_size h1 hl; rw [ByteArray.size_append] at this; omega)
  have hp := pre_size h1 hl
  have HN : Hid (n < 18446744073709551616) := Lib.hid (by omega)
  have HL : Hid (l.size ≤ 1048576) := Lib.hid (by omega)
  have HP : Hid ((numS n ++ txtS l).size ≤ 1048576) := Lib.hid (by omega)
  clear hp
  have hF := FW.new w n l 28
  have hw : IntKind.u64.wrap (n : Int) = n := by rw [IntKind.wrap_u64]; omega
  unfold fcs at hF
  go_enter Tryd.func7, Tryd.ntmps7
  go_wp2
  go_region_held3 (fun w' => w'.cell? ⟨w.heap.size, 0, none⟩ = some (.int .i64 n) ∧ w'.cell? ⟨w.heap.size, 1, none⟩ = some (.string l) ∧ FW w w.heap.size n l 28 w') (first | exact FW.all (by assumption) | exact FW.all (FW.drew (by assumption))) (first | (go_at_call 21; refine (num_FW (w0 := w) (b := w.heap.size) (k := n) (l := l) (T := 28) (by first | assumption | exact FW.held (by assumption)) HN.out).mono ?_; rintro e w1 ⟨rfl, hb⟩) | (go_at_call 22; refine (text_FW (w0 := w) (b := w.heap.size) (k := n) (l := l) (T := 28) (by first | assumption | exact FW.held (by assumption)) HL.out).mono ?_; rintro e w1 ⟨rfl, hb⟩) | (go_at_call 20; refine (seal_FW (w0 := w) (b := w.heap.size) (k := n) (l := l) (T := 28) (by first | assumption | exact FW.held (by assumption)) HP.out).mono ?_; rintro e w1 ⟨rfl, hb⟩))
  go_wp2
  go_ret2
  exact ⟨rfl, FW.bel (by assumption)⟩

end Go.Proofs.YtcmdemblegdelaaDoor
