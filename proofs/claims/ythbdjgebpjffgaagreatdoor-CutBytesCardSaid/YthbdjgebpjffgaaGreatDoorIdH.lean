/-
  What Read and ReadTag of package ident answer, whatever the reader holds.
  Conditions: the reader lies in a block of its own; its text has at most 2^20 bytes.
-/
import Derived.Test.YthbdjgebpjffgaaGreatDoorOctL
import Derived.Test.YthbdjgebpjffgaaGreatDoorOctN
import Derived.Test.YthbdjgebpjffgaaGreatDoorOctR
set_option linter.unusedVariables false
set_option linter.unusedSimpArgs false
namespace Go.Proofs.YthbdjgebpjffgaaGreatDoor
open Go.RowKit

theorem iV'_bad {s : ByteArray} {a : Nat} {m c : Int} (h : ¬ iC' s a m c = 0) : iV' s a m c = 0 := by
  unfold iC' at h; unfold iV'
  split
  · rename_i k; rw [if_pos k] at h; exact iV_bad h
  · rfl
theorem iV'_le {s : ByteArray} {a : Nat} {m c : Int} (hm : 0 ≤ m) : (iV' s a m c : Int) ≤ m := by
  unfold iV'
  split
  · unfold iV
    split
    · rename_i h
      unfold iC at h
      split at h
      · split at h
        · exact absurd h (by decide)
        · omega
      · rename_i k; exact absurd h k
    · omega
  · omega
theorem iA'_in {s : ByteArray} {a : Nat} {m c : Int} (ha : a ≤ s.size) : iA' s a m c ≤ s.size := by
  unfold iA'
  split
  · exact iA_le ha
  · exact ha
theorem failC_two (c : Int) : ¬ failC c 2 = 0 := by
  unfold failC
  split
  · decide
  · assumption

/-- The steps of reading a name: whose it is; where the second number begins, what is wrong by then; the second number; where it ends, what is wrong by then. -/
def jX (s : ByteArray) (a : Nat) (c : Int) : Nat := iV' s a 7 c
def jB (s : ByteArray) (a : Nat) (c : Int) : Nat := iA' s a 7 c
def jE (s : ByteArray) (a : Nat) (c : Int) : Int := iC' s a 7 c
def jY (s : ByteArray) (a : Nat) (c : Int) : Nat := iV' s (jB s a c) 1048576 (jE s a c)
def jA (s : ByteArray) (a : Nat) (c : Int) : Nat := iA' s (jB s a c) 1048576 (jE s a c)
def jD (s : ByteArray) (a : Nat) (c : Int) : Int := iC' s (jB s a c) 1048576 (jE s a c)
/-- What is wrong behind a name; the name. -/
def jC (s : ByteArray) (a : Nat) (c : Int) : Int := if jY s a c = 0 then failC (jD s a c) 2 else jD s a c
def jO (s : ByteArray) (a : Nat) (c : Int) : Nat := if jY s a c = 0 then 0 else jX s a c
def jQ (s : ByteArray) (a : Nat) (c : Int) : Nat := if jY s a c = 0 then 0 else jY s a c
/-- An operation's name. -/
def gN (s : ByteArray) (a : Nat) (c : Int) : Nat := iV' s (jA s a c) 15 (jC s a c)
def gA (s : ByteArray) (a : Nat) (c : Int) : Nat := iA' s (jA s a c) 15 (jC s a c)
def gC (s : ByteArray) (a : Nat) (c : Int) : Int := iC' s (jA s a c) 15 (jC s a c)
def gO (s : ByteArray) (a : Nat) (c : Int) : Nat := if gC s a c = 0 then jO s a c else 0
def gQ (s : ByteArray) (a : Nat) (c : Int) : Nat := if gC s a c = 0 then jQ s a c else 0
def gM (s : ByteArray) (a : Nat) (c : Int) : Nat := if gC s a c = 0 then gN s a c else 0

theorem jB_le {s : ByteArray} {a : Nat} {c : Int} (ha : a ≤ s.size) : jB s a c ≤ s.size := iA'_in ha
theorem jA_le {s : ByteArray} {a : Nat} {c : Int} (ha : a ≤ s.size) : jA s a c ≤ s.size := iA'_in (jB_le ha)
theorem gA_le {s : ByteArray} {a : Nat} {c : Int} (ha : a ≤ s.size) : gA s a c ≤ s.size := iA'_in (jA_le ha)
theorem jY_le (s : ByteArray) (a : Nat) (c : Int) : (jY s a c : Int) ≤ 1048576 := iV'_le (by omega)
/-- A name that was read is there only if nothing is wrong. -/
theorem jD_zero {s : ByteArray} {a : Nat} {c : Int} (h : ¬ jY s a c = 0) : jD s a c = 0 := by
  rcases Decidable.em (jD s a c = 0) with k | k
  · exact k
  · exact absurd (iV'_bad k) h
theorem j_bad {s : ByteArray} {a : Nat} {c : Int} (h : jY s a c = 0) : ¬ jC s a c = 0 ∧ jC s a c = failC (jD s a c) 2 ∧ jO s a c = 0 ∧ jQ s a c = 0 := by
  unfold jC jO jQ
  rw [if_pos h, if_pos h, if_pos h]
  exact ⟨failC_two _, rfl, rfl, rfl⟩
theorem j_ok {s : ByteArray} {a : Nat} {c : Int} (h : ¬ jY s a c = 0) : jC s a c = 0 ∧ jD s a c = 0 ∧ jO s a c = jX s a c ∧ jQ s a c = jY s a c := by
  unfold jC jO jQ
  rw [if_neg h, if_neg h, if_neg h]
  exact ⟨jD_zero h, jD_zero h, rfl, rfl⟩

theorem rdInt_val (r a : Nat) (s : ByteArray) (m c : Int) (w : World) (v b : Nat) (d : Int) (hv : iV' s a m c = v) (hb : iA' s a m c = b) (hd : iC' s a m c = d) (h : Rdr w r s a c) (ha : a ≤ s.size) (hs : s.size ≤ 1048576) (hm : -9223372036854775808 ≤ m ∧ m ≤ 9223372036854775807) :
    Calls Tryz.prog 44 #[.pointer (some ⟨r, 0, none⟩), .int .i64 m] w fun e w' => e = .returned (.int .i64 (v : Int)) ∧ Rdr w' r s b d ∧ Only r w w' := by
  subst hv; subst hb; subst hd
  exact rdInt_any r a s m c w h ha hs hm
theorem rInt_val (q a : Nat) (s : ByteArray) (m c : Int) (w : World) (v b : Nat) (d : Int) (hv : iV' s a m c = v) (hb : iA' s a m c = b) (hd : iC' s a m c = d) (h : RR w q s a (fA a c) c) (ha : a ≤ s.size) (hs : s.size ≤ 1048576) (hm : -9223372036854775808 ≤ m ∧ m ≤ 9223372036854775807) :
    Calls Tryz.prog 46 #[.pointer (some ⟨q, 0, none⟩), .int .i64 m] w fun e w' => e = .returned (.int .i64 (v : Int)) ∧ RR w' q s b (fA b d) d ∧ Only q w w' := by
  subst hv; subst hb; subst hd
  exact rInt_any q a s m c w h ha hs hm

set_option maxRecDepth 100000 in
set_option maxHeartbeats 1000000 in
theorem idRead_any (r a : Nat) (s : ByteArray) (c : Int) (w : World) (h : Rdr w r s a c) (ha : a ≤ s.size) (hs : s.size ≤ 1048576) :
    Calls Tryz.prog 45 #[.pointer (some ⟨r, 0, none⟩)] w fun e w' =>
      e = .returned (.agg #[.int .i64 (jO s a c : Int), .int .u32 (jQ s a c : Int)]) ∧ Rdr w' r s (jA s a c) (jC s a c) ∧ Only r w w' := by
  have hlt := Blk.lt h
  have HX : Hid (iV' s a 7 c = jX s a c) := Lib.hid rfl
  have HB : Hid (iA' s a 7 c = jB s a c) := Lib.hid rfl
  have HE : Hid (iC' s a 7 c = jE s a c) := Lib.hid rfl
  have HA : Hid (iA' s (jB s a c) 1048576 (jE s a c) = jA s a c) := Lib.hid rfl
  have HD : Hid (iC' s (jB s a c) 1048576 (jE s a c) = jD s a c) := Lib.hid rfl
  have hY : iV' s (jB s a c) 1048576 (jE s a c) = jY s a c := rfl
  have hYle := jY_le s a c
  have hBle := jB_le (c := c) ha
  have HH := Lib.hid h; clear h
  by_cases hy : jY s a c = 0
  · obtain ⟨n1, n2, n3, n4⟩ := j_bad hy
    rw [hy] at hY
    have HY := Lib.hid hY
    have N1 := Lib.hid n1; have N2 := Lib.hid n2; have N3 := Lib.hid n3; have N4 := Lib.hid n4
    clear hY hy hYle n1 n2 n3 n4
    go_enter Tryz.func45, Tryz.ntmps45
    go_wp2_with fail
    refine (rdInt_val r a s 7 c _ _ _ _ HX.out HB.out HE.out (Blk.alloc HH.out _) ha hs (by omega)).mono ?_
    rintro e w1 ⟨rfl, hr1, ho1⟩
    have b1 : Blk w1 w.heap.size #[.int .i64 0, .int .u32 0] 83 := Blk.only (Blk.new w _ _) ho1 (by omega)
    have o1 : Only r w w1 := ((Only.refl r w).alloc _).trans ho1
    have HR1 := Lib.hid hr1; have HB1 := Lib.hid b1; clear hr1 ho1 b1
    go_wp2_with fail
    refine (rdInt_val r _ s 1048576 _ _ _ _ _ HY.out HA.out HD.out HR1.out hBle hs (by omega)).mono ?_
    rintro e w2 ⟨rfl, hr2, ho2⟩
    have b2 : Blk w2 w.heap.size #[.int .i64 0, .int .u32 0] 83 := Blk.only HB1.out ho2 (by omega)
    have o2 := o1.trans ho2
    have HR2 := Lib.hid hr2; have HB2 := Lib.hid b2; clear hr2 ho2 b2 o1
    go_wp2_with fail
    refine (fail_any r _ s _ 2 _ (Blk.alloc HR2.out _)).mono ?_
    rintro e w3 ⟨rfl, hr3, ho3⟩
    rw [← N2.out] at hr3
    have b3 : Blk w3 w.heap.size #[.int .i64 0, .int .u32 0] 83 := Blk.only (Blk.alloc HB2.out _) ho3 (by omega)
    have o3 := (o2.alloc (.cells #[.int .i64 (jX s a c : Int), .int .u32 0] 83)).trans ho3
    have HR3 := Lib.hid hr3; have HB3 := Lib.hid b3; clear hr3 ho3 b3 o2
    go_wp2_with fail
    refine (err_some r _ s _ _ HR3.out N1.out).mono ?_
    rintro e w4 ⟨rfl, _, hb4⟩
    have hr4 := Blk.below HR3.out hb4
    have b4 := Blk.below HB3.out hb4
    have o4 := o3.trans (only_of hb4)
    have x0 : w4.cell? ⟨w.heap.size, 0, none⟩ = some (.int .i64 0) := by rw [Blk.cell b4]; rfl
    have x1 : w4.cell? ⟨w.heap.size, 1, none⟩ = some (.int .u32 0) := by rw [Blk.cell b4]; rfl
    have f0 := Blk.free b4 0
    have f1 := Blk.free b4 1
    have HR4 := Lib.hid hr4; clear hr4 hb4 b4 o3
    go_wp2
    refine bodyPost_ret (v := .agg #[.int .i64 0, .int .u32 0]) ?_ rfl ⟨by rw [N3.out, N4.out]; rfl, ?_, ?_⟩
    · simp [results, Tryz.results45, go_sem, x0, x1]
    · exact Blk.far (Blk.far HR4.out (by omega) _ _) (by omega) _ _
    · exact (o4.fresh (Nat.le_refl _) _ _).fresh (Nat.le_refl _) _ _
  · obtain ⟨n1, n2, n3, n4⟩ := j_ok hy
    have t : ((jY s a c : Int) == 0) = false := by simpa using hy
    have HY := Lib.hid hY
    have wr : IntKind.u32.wrap (jY s a c : Int) = (jY s a c : Int) := by rw [IntKind.wrap_u32]; omega
    have N1 := Lib.hid n1; have N2 := Lib.hid n2; have N3 := Lib.hid n3; have N4 := Lib.hid n4
    clear hY hy hYle n1 n2 n3 n4
    go_enter Tryz.func45, Tryz.ntmps45
    go_wp2_with fail
    refine (rdInt_val r a s 7 c _ _ _ _ HX.out HB.out HE.out (Blk.alloc HH.out _) ha hs (by omega)).mono ?_
    rintro e w1 ⟨rfl, hr1, ho1⟩
    have b1 : Blk w1 w.heap.size #[.int .i64 0, .int .u32 0] 83 := Blk.only (Blk.new w _ _) ho1 (by omega)
    have o1 : Only r w w1 := ((Only.refl r w).alloc _).trans ho1
    have HR1 := Lib.hid hr1; have HB1 := Lib.hid b1; clear hr1 ho1 b1
    go_wp2_with fail
    refine (rdInt_val r _ s 1048576 _ _ _ _ _ HY.out HA.out HD.out HR1.out hBle hs (by omega)).mono ?_
    rintro e w2 ⟨rfl, hr2, ho2⟩
    rw [N2.out] at hr2
    have b2 : Blk w2 w.heap.size #[.int .i64 0, .int .u32 0] 83 := Blk.only HB1.out ho2 (by omega)
    have o2 := o1.trans ho2
    have x0 : w2.cell? ⟨w.heap.size, 0, none⟩ = some (.int .i64 0) := by rw [Blk.cell b2]; rfl
    have x1 : w2.cell? ⟨w.heap.size, 1, none⟩ = some (.int .u32 0) := by rw [Blk.cell b2]; rfl
    have f0 := Blk.free b2 0
    have f1 := Blk.free b2 1
    have hl2 := Blk.lt b2
    have HR2 := Lib.hid hr2; clear hr2 ho2 b2 o1
    go_wp2_with fail
    refine (err_none r _ s _ (Blk.alloc HR2.out _)).mono ?_
    rintro e w3 ⟨rfl, rfl⟩
    go_wp2
    refine bodyPost_ret (v := .agg #[.int .i64 (jX s a c : Int), .int .u32 (jY s a c : Int)]) ?_ rfl ⟨by rw [N3.out, N4.out], ?_, ?_⟩
    · simp [results, Tryz.results45, go_sem, x0, x1, hl2]
    · rw [N1.out]; exact Blk.alloc (Blk.far (Blk.far HR2.out (by omega) _ _) (by omega) _ _) _
    · exact ((o2.fresh (Nat.le_refl _) _ _).fresh (Nat.le_refl _) _ _).alloc _

theorem g_bad {s : ByteArray} {a : Nat} {c : Int} (h : ¬ gC s a c = 0) : gO s a c = 0 ∧ gQ s a c = 0 ∧ gM s a c = 0 ∧ gN s a c = 0 := by
  unfold gO gQ gM
  rw [if_neg h, if_neg h, if_neg h]
  exact ⟨rfl, rfl, rfl, iV'_bad h⟩
theorem g_ok {s : ByteArray} {a : Nat} {c : Int} (h : gC s a c = 0) : gO s a c = jO s a c ∧ gQ s a c = jQ s a c ∧ gM s a c = gN s a c := by
  unfold gO gQ gM
  rw [if_pos h, if_pos h, if_pos h]
  exact ⟨rfl, rfl, rfl⟩

end Go.Proofs.YthbdjgebpjffgaaGreatDoor

/-
  What the document's own Read and ReadTag answer, whatever the reader holds.
  Conditions: the reader lies in a block of its own; its text has at most 2^20 bytes.
-/

namespace Go.Proofs.YthbdjgebpjffgaaGreatDoor
open Go.RowKit

set_option maxRecDepth 100000 in
set_option maxHeartbeats 1000000 in
theorem ridRead_any (q a : Nat) (s : ByteArray) (c : Int) (w : World) (h : RR w q s a (fA a c) c) (ha : a ≤ s.size) (hs : s.size ≤ 1048576) :
    Calls Tryz.prog 47 #[.pointer (some ⟨q, 0, none⟩)] w fun e w' =>
      e = .returned (.agg #[.int .i64 (jO s a c : Int), .int .u32 (jQ s a c : Int)]) ∧ RR w' q s (jA s a c) (fA (jA s a c) (jC s a c)) (jC s a c) ∧ Only q w w' := by
  have hlt := Blk.lt h
  have HX : Hid (iV' s a 7 c = jX s a c) := Lib.hid rfl
  have HB : Hid (iA' s a 7 c = jB s a c) := Lib.hid rfl
  have HE : Hid (iC' s a 7 c = jE s a c) := Lib.hid rfl
  have HA : Hid (iA' s (jB s a c) 1048576 (jE s a c) = jA s a c) := Lib.hid rfl
  have HD : Hid (iC' s (jB s a c) 1048576 (jE s a c) = jD s a c) := Lib.hid rfl
  have hY : iV' s (jB s a c) 1048576 (jE s a c) = jY s a c := rfl
  have hYle := jY_le s a c
  have hBle := jB_le (c := c) ha
  have HH := Lib.hid h; clear h
  by_cases hy : jY s a c = 0
  · obtain ⟨n1, n2, n3, n4⟩ := j_bad hy
    have t : (jC s a c != 0) = true := by simpa using n1
    rw [hy] at hY
    have HY := Lib.hid hY
    have N1 := Lib.hid n1; have N2 := Lib.hid n2; have N3 := Lib.hid n3; have N4 := Lib.hid n4
    clear hY hy hYle n1 n2 n3 n4
    go_enter Tryz.func47, Tryz.ntmps47
    go_wp2_with fail
    refine (rInt_val q a s 7 c _ _ _ _ HX.out HB.out HE.out (Blk.alloc HH.out _) ha hs (by omega)).mono ?_
    rintro e w1 ⟨rfl, hr1, ho1⟩
    have b1 : Blk w1 w.heap.size #[.int .i64 0, .int .u32 0] 83 := Blk.only (Blk.new w _ _) ho1 (by omega)
    have o1 : Only q w w1 := ((Only.refl q w).alloc _).trans ho1
    have hl1 := Blk.lt b1
    have HR1 := Lib.hid hr1; have HB1 := Lib.hid b1; clear hr1 ho1 b1
    go_wp2_with fail
    refine (rInt_val q _ s 1048576 _ _ _ _ _ HY.out HA.out HD.out (Blk.alloc HR1.out _) hBle hs (by omega)).mono ?_
    rintro e w2 ⟨rfl, hr2, ho2⟩
    have b2 : Blk w2 w.heap.size #[.int .i64 0, .int .u32 0] 83 := Blk.only (Blk.alloc HB1.out _) ho2 (by omega)
    have i2 : Blk w2 w1.heap.size #[.int .i64 (jX s a c : Int), .int .u32 0] 83 := Blk.only (Blk.new w1 _ _) ho2 (by omega)
    have o2 := (o1.alloc (.cells #[.int .i64 (jX s a c : Int), .int .u32 0] 83)).trans ho2
    have z1 : w2.cell? ⟨w1.heap.size, 1, none⟩ = some (.int .u32 0) := by rw [Blk.cell i2]; rfl
    have k1 := Blk.free i2 1
    have HR2 := Lib.hid hr2; have HB2 := Lib.hid b2; clear hr2 ho2 b2 i2 o1
    go_wp2_with fail
    refine (rfail_any q _ s _ 2 _ (Blk.far HR2.out (by omega) _ _)).mono ?_
    rintro e w3 ⟨rfl, hr3, ho3⟩
    rw [← N2.out] at hr3
    have b3 : Blk w3 w.heap.size #[.int .i64 0, .int .u32 0] 83 := Blk.only (Blk.far HB2.out (by omega) _ _) ho3 (by omega)
    have o3 := (o2.fresh (g := w1.heap.size) (by omega) 1 (.int .u32 0)).trans ho3
    have g3 := hr3.c3
    have x0 : w3.cell? ⟨w.heap.size, 0, none⟩ = some (.int .i64 0) := by rw [Blk.cell b3]; rfl
    have x1 : w3.cell? ⟨w.heap.size, 1, none⟩ = some (.int .u32 0) := by rw [Blk.cell b3]; rfl
    have f0 := Blk.free b3 0
    have f1 := Blk.free b3 1
    have HR3 := Lib.hid hr3; clear hr3 ho3 b3 o2
    go_wp2
    refine bodyPost_ret (v := .agg #[.int .i64 0, .int .u32 0]) ?_ rfl ⟨by rw [N3.out, N4.out]; rfl, ?_, ?_⟩
    · simp [results, Tryz.results47, go_sem, x0, x1]
    · exact Blk.far (Blk.far HR3.out (by omega) _ _) (by omega) _ _
    · exact (o3.fresh (Nat.le_refl _) _ _).fresh (Nat.le_refl _) _ _
  · obtain ⟨n1, n2, n3, n4⟩ := j_ok hy
    have t : ((jY s a c : Int) == 0) = false := by simpa using hy
    have HY := Lib.hid hY
    have wr : IntKind.u32.wrap (jY s a c : Int) = (jY s a c : Int) := by rw [IntKind.wrap_u32]; omega
    have N1 := Lib.hid n1; have N2 := Lib.hid n2; have N3 := Lib.hid n3; have N4 := Lib.hid n4
    clear hY hy hYle n1 n2 n3 n4
    go_enter Tryz.func47, Tryz.ntmps47
    go_wp2_with fail
    refine (rInt_val q a s 7 c _ _ _ _ HX.out HB.out HE.out (Blk.alloc HH.out _) ha hs (by omega)).mono ?_
    rintro e w1 ⟨rfl, hr1, ho1⟩
    have b1 : Blk w1 w.heap.size #[.int .i64 0, .int .u32 0] 83 := Blk.only (Blk.new w _ _) ho1 (by omega)
    have o1 : Only q w w1 := ((Only.refl q w).alloc _).trans ho1
    have hl1 := Blk.lt b1
    have HR1 := Lib.hid hr1; have HB1 := Lib.hid b1; clear hr1 ho1 b1
    go_wp2_with fail
    refine (rInt_val q _ s 1048576 _ _ _ _ _ HY.out HA.out HD.out (Blk.alloc HR1.out _) hBle hs (by omega)).mono ?_
    rintro e w2 ⟨rfl, hr2, ho2⟩
    rw [N2.out] at hr2
    have b2 : Blk w2 w.heap.size #[.int .i64 0, .int .u32 0] 83 := Blk.only (Blk.alloc HB1.out _) ho2 (by omega)
    have i2 : Blk w2 w1.heap.size #[.int .i64 (jX s a c : Int), .int .u32 0] 83 := Blk.only (Blk.new w1 _ _) ho2 (by omega)
    have o2 := (o1.alloc (.cells #[.int .i64 (jX s a c : Int), .int .u32 0] 83)).trans ho2
    have z0 : w2.cell? ⟨w1.heap.size, 0, none⟩ = some (.int .i64 (jX s a c : Int)) := by rw [Blk.cell i2]; rfl
    have z1 : w2.cell? ⟨w1.heap.size, 1, none⟩ = some (.int .u32 0) := by rw [Blk.cell i2]; rfl
    have k1 := Blk.free i2 1
    have g3 : (w2.setCell ⟨w1.heap.size, 1, none⟩ (.int .u32 (jY s a c : Int))).cell? ⟨q, 3, none⟩ = some (.int .i64 0) := RR.c3 (Blk.far hr2 (by omega) _ _)
    have b3 : Blk (w2.setCell ⟨w1.heap.size, 1, none⟩ (.int .u32 (jY s a c : Int))) w.heap.size #[.int .i64 0, .int .u32 0] 83 := Blk.far b2 (by omega) _ _
    have x0 : (w2.setCell ⟨w1.heap.size, 1, none⟩ (.int .u32 (jY s a c : Int))).cell? ⟨w.heap.size, 0, none⟩ = some (.int .i64 0) := by rw [Blk.cell b3]; rfl
    have x1 : (w2.setCell ⟨w1.heap.size, 1, none⟩ (.int .u32 (jY s a c : Int))).cell? ⟨w.heap.size, 1, none⟩ = some (.int .u32 0) := by rw [Blk.cell b3]; rfl
    have f0 := Blk.free b3 0
    have f1 := Blk.free b3 1
    have HR2 := Lib.hid hr2; clear hr2 ho2 b2 i2 o1 b3
    go_wp2
    refine bodyPost_ret (v := .agg #[.int .i64 (jX s a c : Int), .int .u32 (jY s a c : Int)]) ?_ rfl ⟨by rw [N3.out, N4.out], ?_, ?_⟩
    · simp [results, Tryz.results47, go_sem, x0, x1]
    · rw [N1.out]; exact Blk.far (Blk.far (Blk.far HR2.out (by omega) _ _) (by omega) _ _) (by omega) _ _
    · exact ((o2.fresh (by omega) _ _).fresh (Nat.le_refl _) _ _).fresh (Nat.le_refl _) _ _

end Go.Proofs.YthbdjgebpjffgaaGreatDoor
