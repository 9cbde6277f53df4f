/-
  What the document's own Signed and Text of layer 2 answer; and the walk of the law OctetWrites.
  Conditions: the numbers fit their kinds; a text is no longer than Go allows.
-/
import Derived.Test.YtpofgibolcmmlaaOctB
namespace Go.Proofs.Ytpofgibolcmmlaa
open Go.RowKit

theorem sgnN_pos2 {v : Int} (h : 0 ≤ v) : 2 * v = (sgnN v : Int) := by rw [← sgnN_pos h]; omega

set_option maxHeartbeats 400000 in
theorem rsigned_any (v : Int) (w : World) (hv : -9223372036854775808 ≤ v ∧ v ≤ 9223372036854775807) :
    Calls Try.prog 7 #[.int .i64 v] w fun e w' => e = .returned (.string (numS (sgnN v))) ∧ Below w.heap.size w w' := by
  have HS := Lib.hid (sgnN_lt hv)
  obtain ⟨h1, h2⟩ := hv
  by_cases hn : v < 0
  · go_enter Try.func7, Try.ntmps7
    go_wp2_with fail
    rw [show 2 * -(v + 1) + 1 = (sgnN v : Int) by unfold sgnN; rw [if_pos hn]; omega]
    refine (rnum_any _ _ HS.out).mono ?_
    rintro e w1 ⟨rfl, hb⟩
    go_wp2
    go_ret
    exact ⟨rfl, hb⟩
  · have HE := Lib.hid (sgnN_pos2 (v := v) (by omega))
    go_enter Try.func7, Try.ntmps7
    go_wp2_with fail
    rw [HE.out]
    refine (rnum_any _ _ HS.out).mono ?_
    rintro e w1 ⟨rfl, hb⟩
    go_wp2
    go_ret
    exact ⟨rfl, hb⟩

set_option maxHeartbeats 400000 in
theorem rtext_any (s : ByteArray) (w : World) (hs : s.size ≤ 1048576) :
    Calls Try.prog 9 #[.string s] w fun e w' => e = .returned (.string (txtS s)) ∧ Below w.heap.size w w' := by
  have hadd : ∀ W, (Op.stringOp .add (numS s.size) s).run Try.prog W = .ok (.string (numS s.size ++ s)) W := fun W => run_string_add_sum W _ _ (by have := numS_size s.size; have := digs_le8 (v := s.size) (by omega); omega)
  go_enter Try.func9, Try.ntmps9
  go_wp2_with fail
  refine (rnum_any _ _ (by omega)).mono ?_
  rintro e w1 ⟨rfl, hb⟩
  go_wp2
  go_ret
  exact ⟨rfl, hb⟩

end Go.Proofs.Ytpofgibolcmmlaa
