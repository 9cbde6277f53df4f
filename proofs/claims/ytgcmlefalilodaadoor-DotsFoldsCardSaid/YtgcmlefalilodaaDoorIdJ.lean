/-
  What the document's own Read and ReadTag answer, whatever the reader holds.
  Conditions: the reader lies in a block of its own; its text has at most 2^20 bytes.
-/
import Derived.Test.YtgcmlefalilodaaDoorIdH
namespace Go.Proofs.YtgcmlefalilodaaDoor
open Go.RowKit

set_option maxRecDepth 100000 in
set_option maxHeartbeats 1000000 in
theorem ridRead_any (q a : Nat) (s : ByteArray) (c : Int) (w : World) (h : RR w q s a (fA a c) c) (ha : a ≤ s.size) (hs : s.size ≤ 1048576) :
    Calls Tryd.prog 36 #[.pointer (some ⟨q, 0, none⟩)] w fun e w' =>
      e = .returned (.agg #[.int .i64 (jO s a c : Int), .int .u32 (jQ s a c : Int)]) ∧ RR w' q s (jA s a c) (fA (jA s a c) (jC s a c)) (jC s a c) ∧ Only q w w' := by
  have hlt := Blk.lt h
  have HX : Hid (iV' s a 7 c = jX s a c) := Lib.hid rfl
  have HB : Hid (iA' s a 7 c = jB s a c) := Lib.hid rfl
  have HE : Hid (iC' s a 7 c = jE s a c) := Lib.hid rfl
  have HA : Hid (iA' s (jB s a c) 1048576 (jE s a c) = jA s a c) := Lib.hid rfl
  have HD : Hid (iC' s (jB s a c) 1048576 (jE s a c) = jD s a c) := Lib.hid rfl
  have hY : iV' s (jB s a c) 1048576 (jE s a c) = jY s a c := rfl
  have hYle := jY_le s a c
  have hBle := jB_le (c := c) ha
  have HH := Lib.hid h; clear h
  by_cases hy : jY s a c = 0
  · obtain ⟨n1, n2, n3, n4⟩ := j_bad hy
    have t : (jC s a c != 0) = true := by simpa using n1
    rw [hy] at hY
    have HY := Lib.hid hY
    have N1 := Lib.hid n1; have N2 := Lib.hid n2; have N3 := Lib.hid n3; have N4 := Lib.hid n4
    clear hY hy hYle n1 n2 n3 n4
    go_enter Tryd.func36, Tryd.ntmps36
    go_wp2_with fail
    refine (rInt_val q a s 7 c _ _ _ _ HX.out HB.out HE.out (Blk.alloc HH.out _) ha hs (by omega)).mono ?_
    rintro e w1 ⟨rfl, hr1, ho1⟩
    have b1 : Blk w1 w.heap.size #[.int .i64 0, .int .u32 0] 53 := Blk.only (Blk.new w _ _) ho1 (by omega)
    have o1 : Only q w w1 := ((Only.refl q w).alloc _).trans ho1
    have hl1 := Blk.lt b1
    have HR1 := Lib.hid hr1; have HB1 := Lib.hid b1; clear hr1 ho1 b1
    go_wp2_with fail
    refine (rInt_val q _ s 1048576 _ _ _ _ _ HY.out HA.out HD.out (Blk.alloc HR1.out _) hBle hs (by omega)).mono ?_
    rintro e w2 ⟨rfl, hr2, ho2⟩
    have b2 : Blk w2 w.heap.size #[.int .i64 0, .int .u32 0] 53 := Blk.only (Blk.alloc HB1.out _) ho2 (by omega)
    have i2 : Blk w2 w1.heap.size #[.int .i64 (jX s a c : Int), .int .u32 0] 53 := Blk.only (Blk.new w1 _ _) ho2 (by omega)
    have o2 := (o1.alloc (.cells #[.int .i64 (jX s a c : Int), .int .u32 0] 53)).trans ho2
    have z1 : w2.cell? ⟨w1.heap.size, 1, none⟩ = some (.int .u32 0) := by rw [Blk.cell i2]; rfl
    have k1 := Blk.free i2 1
    have HR2 := Lib.hid hr2; have HB2 := Lib.hid b2; clear hr2 ho2 b2 i2 o1
    go_wp2_with fail
    refine (rfail_any q _ s _ 2 _ (Blk.far HR2.out (by omega) _ _)).mono ?_
    rintro e w3 ⟨rfl, hr3, ho3⟩
    rw [← N2.out] at hr3
    have b3 : Blk w3 w.heap.size #[.int .i64 0, .int .u32 0] 53 := Blk.only (Blk.far HB2.out (by omega) _ _) ho3 (by omega)
    have o3 := (o2.fresh (g := w1.heap.size) (by omega) 1 (.int .u32 0)).trans ho3
    have g3 := hr3.c3
    have x0 : w3.cell? ⟨w.heap.size, 0, none⟩ = some (.int .i64 0) := by rw [Blk.cell b3]; rfl
    have x1 : w3.cell? ⟨w.heap.size, 1, none⟩ = some (.int .u32 0) := by rw [Blk.cell b3]; rfl
    have f0 := Blk.free b3 0
    have f1 := Blk.free b3 1
    have HR3 := Lib.hid hr3; clear hr3 ho3 b3 o2
    go_wp2
    refine bodyPost_ret (v := .agg #[.int .i64 0, .int .u32 0]) ?_ rfl ⟨by rw [N3.out, N4.out]; rfl, ?_, ?_⟩
    · simp [results, Tryd.results36, go_sem, x0, x1]
    · exact Blk.far (Blk.far HR3.out (by omega) _ _) (by omega) _ _
    · exact (o3.fresh (Nat.le_refl _) _ _).fresh (Nat.le_refl _) _ _
  · obtain ⟨n1, n2, n3, n4⟩ := j_ok hy
    have t : ((jY s a c : Int) == 0) = false := by simpa using hy
    have HY := Lib.hid hY
    have wr : IntKind.u32.wrap (jY s a c : Int) = (jY s a c : Int) := by rw [IntKind.wrap_u32]; omega
    have N1 := Lib.hid n1; have N2 := Lib.hid n2; have N3 := Lib.hid n3; have N4 := Lib.hid n4
    clear hY hy hYle n1 n2 n3 n4
    go_enter Tryd.func36, Tryd.ntmps36
    go_wp2_with fail
    refine (rInt_val q a s 7 c _ _ _ _ HX.out HB.out HE.out (Blk.alloc HH.out _) ha hs (by omega)).mono ?_
    rintro e w1 ⟨rfl, hr1, ho1⟩
    have b1 : Blk w1 w.heap.size #[.int .i64 0, .int .u32 0] 53 := Blk.only (Blk.new w _ _) ho1 (by omega)
    have o1 : Only q w w1 := ((Only.refl q w).alloc _).trans ho1
    have hl1 := Blk.lt b1
    have HR1 := Lib.hid hr1; have HB1 := Lib.hid b1; clear hr1 ho1 b1
    go_wp2_with fail
    refine (rInt_val q _ s 1048576 _ _ _ _ _ HY.out HA.out HD.out (Blk.alloc HR1.out _) hBle hs (by omega)).mono ?_
    rintro e w2 ⟨rfl, hr2, ho2⟩
    rw [N2.out] at hr2
    have b2 : Blk w2 w.heap.size #[.int .i64 0, .int .u32 0] 53 := Blk.only (Blk.alloc HB1.out _) ho2 (by omega)
    have i2 : Blk w2 w1.heap.size #[.int .i64 (jX s a c : Int), .int .u32 0] 53 := Blk.only (Blk.new w1 _ _) ho2 (by omega)
    have o2 := (o1.alloc (.cells #[.int .i64 (jX s a c : Int), .int .u32 0] 53)).trans ho2
    have z0 : w2.cell? ⟨w1.heap.size, 0, none⟩ = some (.int .i64 (jX s a c : Int)) := by rw [Blk.cell i2]; rfl
    have z1 : w2.cell? ⟨w1.heap.size, 1, none⟩ = some (.int .u32 0) := by rw [Blk.cell i2]; rfl
    have k1 := Blk.free i2 1
    have g3 : (w2.setCell ⟨w1.heap.size, 1, none⟩ (.int .u32 (jY s a c : Int))).cell? ⟨q, 3, none⟩ = some (.int .i64 0) := RR.c3 (Blk.far hr2 (by omega) _ _)
    have b3 : Blk (w2.setCell ⟨w1.heap.size, 1, none⟩ (.int .u32 (jY s a c : Int))) w.heap.size #[.int .i64 0, .int .u32 0] 53 := Blk.far b2 (by omega) _ _
    have x0 : (w2.setCell ⟨w1.heap.size, 1, none⟩ (.int .u32 (jY s a c : Int))).cell? ⟨w.heap.size, 0, none⟩ = some (.int .i64 0) := by rw [Blk.cell b3]; rfl
    have x1 : (w2.setCell ⟨w1.heap.size, 1, none⟩ (.int .u32 (jY s a c : Int))).cell? ⟨w.heap.size, 1, none⟩ = some (.int .u32 0) := by rw [Blk.cell b3]; rfl
    have f0 := Blk.free b3 0
    have f1 := Blk.free b3 1
    have HR2 := Lib.hid hr2; clear hr2 ho2 b2 i2 o1 b3
    go_wp2
    refine bodyPost_ret (v := .agg #[.int .i64 (jX s a c : Int), .int .u32 (jY s a c : Int)]) ?_ rfl ⟨by rw [N3.out, N4.out], ?_, ?_⟩
    · simp [results, Tryd.results36, go_sem, x0, x1]
    · rw [N1.out]; exact Blk.far (Blk.far (Blk.far HR2.out (by omega) _ _) (by omega) _ _) (by omega) _ _
    · exact ((o2.fresh (by omega) _ _).fresh (Nat.le_refl _) _ _).fresh (Nat.le_refl _) _ _

end Go.Proofs.YtgcmlefalilodaaDoor
