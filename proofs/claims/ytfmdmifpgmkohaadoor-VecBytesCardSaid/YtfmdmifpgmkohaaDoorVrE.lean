/-
  The walk of the law VecBack.
  Conditions: the library's own table of powers of ten holds what its text says.
-/
import Derived.Test.YtfmdmifpgmkohaaDoorVrD
import Derived.Test.YtfmdmifpgmkohaaDoorVecX
import Derived.OpenShut
namespace Go.Proofs.YtfmdmifpgmkohaaDoor
open Go.RowKit

theorem eql_self (v : Nat → Int) (w : World) : (Op.equalIn 10000 24 (.agg #[.int .u32 (v 0), .int .u32 (v 1), .int .u32 (v 2), .int .u32 (v 3), .int .u32 (v 4), .int .u32 (v 5), .int .u32 (v 6), .int .u32 (v 7)]) (.agg #[.int .u32 (v 0), .int .u32 (v 1), .int .u32 (v 2), .int .u32 (v 3), .int .u32 (v 4), .int .u32 (v 5), .int .u32 (v 6), .int .u32 (v 7)])).run Tryd.prog w = .ok true w := by
  have h : eqV v v = true := eqV_iff.2 fun _ _ => rfl
  rw [← h]; exact eql_vec 9998 v v w
theorem writeV_size {v : Nat → Int} (hv : ∀ i, i < 8 → 0 ≤ v i ∧ v i ≤ 4294967295) : (writeV v).size ≤ 81 := by
  have h8 := lngV_le v 8
  have := codeW_len hv h8 h8
  show (codeW v (lngV v 8) (lngV v 8)).toArray.size ≤ 81
  simpa using this
theorem backV_size (v : Nat → Int) (more : ByteArray) : (backV v more).size = (writeV v).size + more.size := by unfold backV; exact app_size _ _

/-- The law's reader stands at a; the vector lies where it lay. -/
structure KR (W : World) (r : Nat) (Z : ByteArray) (v : Nat → Int) (a : Nat) (w : World) : Prop where
  rd : Rdr w r Z a 0
  b : Blk w W.heap.size #[.int .u32 (v 0), .int .u32 (v 1), .int .u32 (v 2), .int .u32 (v 3), .int .u32 (v 4), .int .u32 (v 5), .int .u32 (v 6), .int .u32 (v 7)] 24
  bel : Below W.heap.size W w
  hr : W.heap.size < r
section
variable {W : World} {r : Nat} {v : Nat → Int} {a : Nat} {w : World} {more : ByteArray}
theorem KR.drew {Z : ByteArray} (h : KR W r Z v a w) : KR W r Z v a w.drew := ⟨h.rd, h.b, ⟨h.bel.os, h.bel.tape, h.bel.output, h.bel.size, h.bel.block⟩, h.hr⟩
theorem KR.all {Z : ByteArray} (h : KR W r Z v a w) : w.cell? ⟨W.heap.size, 0, none⟩ = some (.int .u32 (v 0)) ∧ w.cell? ⟨W.heap.size, 1, none⟩ = some (.int .u32 (v 1)) ∧ w.cell? ⟨W.heap.size, 2, none⟩ = some (.int .u32 (v 2)) ∧ w.cell? ⟨W.heap.size, 3, none⟩ = some (.int .u32 (v 3)) ∧ w.cell? ⟨W.heap.size, 4, none⟩ = some (.int .u32 (v 4)) ∧ w.cell? ⟨W.heap.size, 5, none⟩ = some (.int .u32 (v 5)) ∧ w.cell? ⟨W.heap.size, 6, none⟩ = some (.int .u32 (v 6)) ∧ w.cell? ⟨W.heap.size, 7, none⟩ = some (.int .u32 (v 7)) := vec_cells h.b
theorem read_KR (hok : okV v = true) (hnn : ∀ i, i < 8 → 0 ≤ v i) (hz : (backV v more).size ≤ 1048576) (h : KR W r (backV v more) v 0 w) :
    Calls Tryd.prog 12 #[.pointer (some ⟨r, 0, none⟩)] w fun e w' => e = .returned (.agg #[.int .u32 (v 0), .int .u32 (v 1), .int .u32 (v 2), .int .u32 (v 3), .int .u32 (v 4), .int .u32 (v 5), .int .u32 (v 6), .int .u32 (v 7)]) ∧ KR W r (backV v more) v (writeV v).size w' := by
  obtain ⟨h1, h2, h3⟩ := back_vec more hok hnn
  refine (vecRead_any r 0 (backV v more) 0 w h.rd (Nat.zero_le _) hz).mono fun e w' ⟨g1, g2, g3⟩ => ?_
  rw [h1, h2] at g2
  refine ⟨by rw [g1, vec_congr h3], g2, Blk.only h.b g3 (by have := h.hr; omega), Only.below h.bel g3 (by have := h.hr; omega) h.bel.size, h.hr⟩
theorem left_KR (hz : (backV v more).size ≤ 1048576) (h : KR W r (backV v more) v (writeV v).size w) :
    Calls Tryd.prog 25 #[.pointer (some ⟨r, 0, none⟩)] w fun e w' => e = .returned (.int .i64 (more.size : Int)) ∧ KR W r (backV v more) v (writeV v).size w' := by
  have hs := backV_size v more
  refine (left_any r _ _ 0 w h.rd (by omega) hz).mono fun e w' ⟨g1, m, g2⟩ => ?_
  subst g2
  exact ⟨by rw [g1, show (((backV v more).size : Int) - ((writeV v).size : Nat)) = more.size by omega], h.rd, h.b, below_drewN h.bel m, h.hr⟩
theorem err_KR {Z : ByteArray} (h : KR W r Z v a w) :
    Calls Tryd.prog 16 #[.pointer (some ⟨r, 0, none⟩)] w fun e w' => e = .returned .nilIface ∧ KR W r Z v a w' :=
  (err_none r a Z w h.rd).mono fun _ _ ⟨g1, g2⟩ => ⟨g1, g2 ▸ h⟩
end

set_option maxRecDepth 100000 in
set_option maxHeartbeats 1000000 in
theorem vecBack_walk0 (v : Nat → Int) (more : ByteArray) (w : World) (ht : Tab w) (hv : ∀ i, i < 8 → 0 ≤ v i ∧ v i ≤ 4294967295) (hm : more.size ≤ 9223372036854775807) :
    Calls Tryd.prog 6 #[.agg #[.int .u32 (v 0), .int .u32 (v 1), .int .u32 (v 2), .int .u32 (v 3), .int .u32 (v 4), .int .u32 (v 5), .int .u32 (v 6), .int .u32 (v 7)], .string more] w fun e w' => e = .returned (.bool true) ∧ Below w.heap.size w w' := by
  have hb := (Below.refl w.heap.size w).alloc (Nat.le_refl _) (.cells #[.int .u32 (v 0), .int .u32 (v 1), .int .u32 (v 2), .int .u32 (v 3), .int .u32 (v 4), .int .u32 (v 5), .int .u32 (v 6), .int .u32 (v 7)] 24)
  have HB0 := Lib.hid (Blk.new w #[.int .u32 (v 0), .int .u32 (v 1), .int .u32 (v 2), .int .u32 (v 3), .int .u32 (v 4), .int .u32 (v 5), .int .u32 (v 6), .int .u32 (v 7)] 24)
  have HT := Lib.hid (ht.alloc (.cells #[.int .u32 (v 0), .int .u32 (v 1), .int .u32 (v 2), .int .u32 (v 3), .int .u32 (v 4), .int .u32 (v 5), .int .u32 (v 6), .int .u32 (v 7)] 24))
  have HV := Lib.hid hv; clear hv ht
  go_enter Tryd.func6, Tryd.ntmps6
  go_wp2_with fail
  refine (vworks_any _ HT.out).mono ?_
  rintro e w1 ⟨rfl, b1⟩
  have HB1 := Lib.hid (HB0.out.below b1)
  have hb1 := below_then hb b1
  obtain ⟨c0, c1, c2, c3, c4, c5, c6, c7⟩ := vec_cells HB1.out
  clear b1 HB0 hb HT
  cases hok : okV v
  · have HC := Lib.hid (chkV_no hok)
    clear hok
    go_wp2_with fail
    refine (vCheck_any v _).mono ?_
    rw [HC.out]
    rintro e w2 ⟨rfl, b2⟩
    have hb2 := below_then hb1 b2
    clear b2 hb1 c0 c1 c2 c3 c4 c5 c6 c7 HB1
    go_wp2
    go_ret
    exact ⟨rfl, hb2⟩
  · have HC := Lib.hid (chkV_yes hok)
    have HO := Lib.hid hok
    clear hok
    go_wp2_with fail
    refine (vCheck_any v _).mono ?_
    rw [HC.out]
    rintro e w2 ⟨rfl, b2⟩
    have hb2 := below_then hb1 b2
    have HB2 := Lib.hid (HB1.out.below b2)
    clear b2 hb1 c0 c1 c2 c3 c4 c5 c6 c7 HB1
    obtain ⟨c0, c1, c2, c3, c4, c5, c6, c7⟩ := vec_cells HB2.out
    by_cases hl : 1000 < more.size
    · have d : (1000 : Int) < more.size := by omega
      go_wp2
      go_ret
      exact ⟨rfl, hb2⟩
    · have d : ¬ (1000 : Int) < more.size := by omega
      have hsz : (writeV v).size + more.size ≤ 1081 := by have := writeV_size HV.out; omega
      have hZ : Hid ((backV v more).size ≤ 1048576) := Lib.hid (by rw [backV_size]; omega)
      have hadd : ∀ W, (Op.stringOp .add (writeV v) more).run Tryd.prog W = .ok (.string (backV v more)) W := fun W => run_string_add_sum W _ _ (by omega)
      have HZZ := Lib.hid hsz
      clear hl hsz hm
      go_wp2_with fail
      refine (write_any v _ HV.out).mono ?_
      rintro e w3 ⟨rfl, b3⟩
      have hb3 := below_then hb2 b3
      have HB3 := Lib.hid (HB2.out.below b3)
      clear b3 hb2 HB2 c0 c1 c2 c3 c4 c5 c6 c7
      go_wp2_with fail
      refine (new_any _ _).mono ?_
      rintro e w4 ⟨rfl, rfl⟩
      have hK : KR w w3.heap.size (backV v more) v 0 (w3.alloc (.cells #[.string (backV v more), .int .i64 0, .int .i64 0] 73)) := ⟨Blk.new _ _ _, HB3.out.alloc _, below_new hb3 _, HB3.out.lt⟩
      have HN : Hid (∀ i, i < 8 → 0 ≤ v i) := Lib.hid fun i hi => (HV.out i hi).1
      have he := eql_self v
      clear hadd HB3 hb3 HC d
      go_upto_region 6 with fail
      go_region_held3 (fun w' => w'.cell? ⟨w.heap.size, 0, none⟩ = some (.int .u32 (v 0)) ∧ w'.cell? ⟨w.heap.size, 1, none⟩ = some (.int .u32 (v 1)) ∧ w'.cell? ⟨w.heap.size, 2, none⟩ = some (.int .u32 (v 2)) ∧ w'.cell? ⟨w.heap.size, 3, none⟩ = some (.int .u32 (v 3)) ∧ w'.cell? ⟨w.heap.size, 4, none⟩ = some (.int .u32 (v 4)) ∧ w'.cell? ⟨w.heap.size, 5, none⟩ = some (.int .u32 (v 5)) ∧ w'.cell? ⟨w.heap.size, 6, none⟩ = some (.int .u32 (v 6)) ∧ w'.cell? ⟨w.heap.size, 7, none⟩ = some (.int .u32 (v 7))) (exact KR.all (by first | (with_reducible assumption) | exact KR.drew (by with_reducible assumption))) (first | (go_at_call 12; refine (read_KR (W := w) (r := w3.heap.size) (v := v) (more := more) HO.out HN.out hZ.out (by first | (with_reducible assumption) | exact KR.drew (by with_reducible assumption))).mono ?_; rintro e w5 ⟨rfl, hK5⟩) | (go_at_call 25; refine (left_KR (W := w) (r := w3.heap.size) (v := v) (more := more) hZ.out (by first | (with_reducible assumption) | exact KR.drew (by with_reducible assumption))).mono ?_; rintro e w6 ⟨rfl, hK6⟩) | (go_at_call 16; refine (err_KR (W := w) (r := w3.heap.size) (Z := backV v more) (v := v) (a := (writeV v).size) (by first | (with_reducible assumption) | exact KR.drew (by with_reducible assumption))).mono ?_; rintro e w7 ⟨rfl, hK7⟩))
      all_goals
        go_wp2
        go_ret
        exact ⟨rfl, hK7.bel⟩
theorem vec_bnds {a : Nat → Int} (h : ∀ i, i < 8 → (Lit.int .u32 (a i)).wf = true) : ∀ i, i < 8 → 0 ≤ a i ∧ a i ≤ 4294967295 := fun i hi => by
  have := bounds_u32 (h i hi); omega
theorem vecBack_walk (v : Nat → Int) (more : ByteArray) (w : World) (ht : Tab w) (wv : ∀ i, i < 8 → (Lit.int .u32 (v i)).wf = true) (hm : more.size ≤ maxLen) :
    Calls Tryd.prog 6 #[.agg #[.int .u32 (v 0), .int .u32 (v 1), .int .u32 (v 2), .int .u32 (v 3), .int .u32 (v 4), .int .u32 (v 5), .int .u32 (v 6), .int .u32 (v 7)], .string more] w fun e w' => e = .returned (.bool true) ∧ Below w.heap.size w w' :=
  vecBack_walk0 v more w ht (vec_bnds wv) (by unfold maxLen at hm; omega)
end Go.Proofs.YtfmdmifpgmkohaaDoor
