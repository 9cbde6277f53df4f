/-
  What Next of package vec, and the document's own Next, answer.
  Conditions: the elements are uint32 numbers.
-/
import Derived.Test.YtfmdmifpgmkohaaVecH
namespace Go.Proofs.Ytfmdmifpgmkohaa
open Go.RowKit

/-- A vector in a block of its own, and a block for a name that is answered. -/
structure VNx (w : World) (v : Nat → Int) (wr : World) : Prop where
  bel : Below w.heap.size w wr
  a : Blk wr w.heap.size #[.int .u32 (v 0), .int .u32 (v 1), .int .u32 (v 2), .int .u32 (v 3), .int .u32 (v 4), .int .u32 (v 5), .int .u32 (v 6), .int .u32 (v 7)] 24
  i : Blk wr (w.heap.size + 1) #[.int .i64 0, .int .u32 0] 32
theorem VNx.start (w : World) (v : Nat → Int) : VNx w v ((w.alloc (.cells #[.int .u32 (v 0), .int .u32 (v 1), .int .u32 (v 2), .int .u32 (v 3), .int .u32 (v 4), .int .u32 (v 5), .int .u32 (v 6), .int .u32 (v 7)] 24)).alloc (.cells #[.int .i64 0, .int .u32 0] 32)) :=
  ⟨(VId.start w v 0 0).bel, (VId.start w v 0 0).a, (VId.start w v 0 0).i⟩
theorem VNx.next {w wr w' : World} {v : Nat → Int} (h : VNx w v wr) (hb : Below wr.heap.size wr w') : VNx w v w' := ⟨below_then h.bel hb, h.a.below hb, h.i.below hb⟩
theorem VNx.facts {w wr : World} {v : Nat → Int} (h : VNx w v wr) :
    (wr.cell? ⟨w.heap.size + 1, 0, none⟩ = some (.int .i64 0) ∧ wr.cell? ⟨w.heap.size + 1, 1, none⟩ = some (.int .u32 0)) ∧ wr.frozen? ⟨w.heap.size + 1, 0, none⟩ = false ∧ wr.frozen? ⟨w.heap.size + 1, 1, none⟩ = false :=
  ⟨⟨by rw [Blk.cell h.i]; rfl, by rw [Blk.cell h.i]; rfl⟩, Blk.free h.i 0, Blk.free h.i 1⟩
/-- Behind the answer. -/
theorem VNx.fin {w wr : World} {v : Nat → Int} (h : VNx w v wr) (x y : Value) : Below w.heap.size w ((wr.setCell ⟨w.heap.size + 1, 0, none⟩ x).setCell ⟨w.heap.size + 1, 1, none⟩ y) :=
  (h.bel.setCell (by simp) _).setCell (by simp) _

set_option maxHeartbeats 400000 in
theorem vnext_bad (v : Nat → Int) (o : Int) (w : World) (h : okV v = false) :
    Calls Try.prog 15 #[.agg #[.int .u32 (v 0), .int .u32 (v 1), .int .u32 (v 2), .int .u32 (v 3), .int .u32 (v 4), .int .u32 (v 5), .int .u32 (v 6), .int .u32 (v 7)], .int .i64 o] w fun e w' => e = .returned (.tuple #[.agg #[.int .i64 (nextV v o).1, .int .u32 (nextV v o).2.1], .int .i64 (nextV v o).2.2]) ∧ Below w.heap.size w w' := by
  have HN := Lib.hid (nextV_bad (o := o) h)
  have HK := Lib.hid (chkV_no h); clear h
  have hI := Lib.hid (VNx.start w v)
  go_enter Try.func15, Try.ntmps15
  go_wp2_with fail
  refine (vCheck_any v _).mono ?_
  rw [HK.out]
  rintro e w1 ⟨rfl, b1⟩
  have HV := Lib.hid (hI.out.next b1)
  obtain ⟨⟨c0, c1⟩, f0, f1⟩ := HV.out.facts
  clear b1
  go_wp2
  refine bodyPost_ret (v := .tuple #[.agg #[.int .i64 0, .int .u32 0], .int .i64 2]) (by simp [results, Try.results15, go_sem, c0, c1]) rfl ⟨ret_next HN.out, HV.out.fin _ _⟩

set_option maxHeartbeats 400000 in
theorem vnext_out (v : Nat → Int) (o : Int) (w : World) (h : okV v = true) (h1 : o < 0 ∨ 8 ≤ o) :
    Calls Try.prog 15 #[.agg #[.int .u32 (v 0), .int .u32 (v 1), .int .u32 (v 2), .int .u32 (v 3), .int .u32 (v 4), .int .u32 (v 5), .int .u32 (v 6), .int .u32 (v 7)], .int .i64 o] w fun e w' => e = .returned (.tuple #[.agg #[.int .i64 (nextV v o).1, .int .u32 (nextV v o).2.1], .int .i64 (nextV v o).2.2]) ∧ Below w.heap.size w w' := by
  have HN := Lib.hid (nextV_out h h1)
  have HK := Lib.hid (chkV_yes h); clear h
  have hI := Lib.hid (VNx.start w v)
  rcases h1 with h1 | h1
  all_goals
    go_enter Try.func15, Try.ntmps15
    go_wp2_with fail
    refine (vCheck_any v _).mono ?_
    rw [HK.out]
    rintro e w1 ⟨rfl, b1⟩
    have HV := Lib.hid (hI.out.next b1)
    obtain ⟨⟨c0, c1⟩, f0, f1⟩ := HV.out.facts
    clear b1
    go_wp2
    refine bodyPost_ret (v := .tuple #[.agg #[.int .i64 0, .int .u32 0], .int .i64 2]) (by simp [results, Try.results15, go_sem, c0, c1]) rfl ⟨ret_next HN.out, HV.out.fin _ _⟩

set_option maxHeartbeats 400000 in
theorem vnext_in (v : Nat → Int) (k : Nat) (w : World) (h : okV v = true) (hk : k < 8) (h0 : 0 ≤ v k) :
    Calls Try.prog 15 #[.agg #[.int .u32 (v 0), .int .u32 (v 1), .int .u32 (v 2), .int .u32 (v 3), .int .u32 (v 4), .int .u32 (v 5), .int .u32 (v 6), .int .u32 (v 7)], .int .i64 k] w fun e w' => e = .returned (.tuple #[.agg #[.int .i64 (nextV v k).1, .int .u32 (nextV v k).2.1], .int .i64 (nextV v k).2.2]) ∧ Below w.heap.size w w' := by
  have hv := okV_iff.1 h k hk
  have HK := Lib.hid (chkV_yes h)
  have hI := Lib.hid (VNx.start w v)
  have hk0 : (0 : Int) ≤ (k : Int) := by omega
  have hk8 : (k : Int) < 8 := by omega
  by_cases h1 : v k = 1048576
  · have HN := Lib.hid (nextV_full h hk h1)
    have HS := Lib.hid (next_full h1)
    clear h h1 hv h0
    go_enter Try.func15, Try.ntmps15
    go_wp2_with fail
    refine (vCheck_any v _).mono ?_
    rw [HK.out]
    rintro e w1 ⟨rfl, b1⟩
    have HV := Lib.hid (hI.out.next b1)
    have ck := vec_cell HV.out.a k hk
    clear b1
    go_wp2_with fail
    refine (next_any _ _).mono ?_
    rw [HS.out]
    rintro e w2 ⟨rfl, b2⟩
    have HW := Lib.hid (HV.out.next b2)
    obtain ⟨⟨c0, c1⟩, f0, f1⟩ := HW.out.facts
    clear b2 ck
    go_wp2
    refine bodyPost_ret (v := .tuple #[.agg #[.int .i64 0, .int .u32 0], .int .i64 12]) (by simp [results, Try.results15, go_sem, c0, c1]) rfl ⟨ret_next HN.out, HW.out.fin _ _⟩
  · have HN := Lib.hid (nextV_yes h hk h1)
    have HS := Lib.hid (next_yes h0 hv h1)
    clear h h1 hv h0
    go_enter Try.func15, Try.ntmps15
    go_wp2_with fail
    refine (vCheck_any v _).mono ?_
    rw [HK.out]
    rintro e w1 ⟨rfl, b1⟩
    have HV := Lib.hid (hI.out.next b1)
    have ck := vec_cell HV.out.a k hk
    clear b1
    go_wp2_with fail
    refine (next_any _ _).mono ?_
    rw [HS.out]
    rintro e w2 ⟨rfl, b2⟩
    have HW := Lib.hid (HV.out.next b2)
    obtain ⟨⟨c0, c1⟩, f0, f1⟩ := HW.out.facts
    clear b2 ck
    go_wp2
    refine bodyPost_ret (v := .tuple #[.agg #[.int .i64 k, .int .u32 (v k + 1)], .int .i64 0]) (by simp [results, Try.results15, go_sem, c0, c1]) rfl ⟨ret_next HN.out, HW.out.fin _ _⟩

theorem vnext_any (v : Nat → Int) (o : Int) (w : World) (hv : ∀ i, i < 8 → 0 ≤ v i ∧ v i ≤ 4294967295) :
    Calls Try.prog 15 #[.agg #[.int .u32 (v 0), .int .u32 (v 1), .int .u32 (v 2), .int .u32 (v 3), .int .u32 (v 4), .int .u32 (v 5), .int .u32 (v 6), .int .u32 (v 7)], .int .i64 o] w fun e w' => e = .returned (.tuple #[.agg #[.int .i64 (nextV v o).1, .int .u32 (nextV v o).2.1], .int .i64 (nextV v o).2.2]) ∧ Below w.heap.size w w' := by
  cases h : okV v
  · exact vnext_bad v o w h
  · by_cases h1 : o < 0 ∨ 8 ≤ o
    · exact vnext_out v o w h h1
    · obtain ⟨k, hk, rfl⟩ := nat_of (o := o) (by omega)
      exact vnext_in v k w h hk (hv k hk).1
end Go.Proofs.Ytfmdmifpgmkohaa
