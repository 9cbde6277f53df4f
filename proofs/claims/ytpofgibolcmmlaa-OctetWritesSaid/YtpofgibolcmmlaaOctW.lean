/-
  The walk of the law OctetWrites: it returns true for any number, any number with a sign and any text.
  Conditions: the numbers fit their kinds; a text is no longer than Go allows.
-/
import Derived.Test.YtpofgibolcmmlaaOctC
import Derived.OpenShut
namespace Go.Proofs.Ytpofgibolcmmlaa
open Go.RowKit

set_option maxHeartbeats 400000 in
theorem octetWrites_walk0 (v s : Int) (t : ByteArray) (w : World) (h0 : 0 ≤ v ∧ v ≤ 18446744073709551615) (h1 : -9223372036854775808 ≤ s ∧ s ≤ 9223372036854775807) (h2 : t.size ≤ maxLen) :
    Calls Try.prog 3 #[.int .u64 v, .int .i64 s, .string t] w fun e w' => e = .returned (.bool true) ∧ Below w.heap.size w w' := by
  unfold maxLen at h2
  obtain ⟨n, rfl⟩ : ∃ n : Nat, v = n := ⟨v.toNat, by omega⟩
  have hn : n < 18446744073709551616 := by omega
  by_cases ht : 5000 < t.size
  · go_enter Try.func3, Try.ntmps3
    go_wp2
    go_ret
    exact ⟨rfl, Below.refl _ _⟩
  · go_enter Try.func3, Try.ntmps3
    go_wp2_with fail
    refine (num_any _ _ hn).mono ?_
    rintro e w1 ⟨rfl, b1⟩
    go_wp2_with fail
    refine (rnum_any _ _ hn).mono ?_
    rintro e w2 ⟨rfl, b2⟩
    have g2 := below_then b1 b2
    clear b1 b2
    go_wp2_with fail
    refine (signed_any _ _ h1).mono ?_
    rintro e w3 ⟨rfl, b3⟩
    have g3 := below_then g2 b3
    clear g2 b3
    go_wp2_with fail
    refine (rsigned_any _ _ h1).mono ?_
    rintro e w4 ⟨rfl, b4⟩
    have g4 := below_then g3 b4
    clear g3 b4
    go_wp2_with fail
    refine (text_any _ _ (by omega)).mono ?_
    rintro e w5 ⟨rfl, b5⟩
    have g5 := below_then g4 b5
    clear g4 b5
    go_wp2_with fail
    refine (rtext_any _ _ (by omega)).mono ?_
    rintro e w6 ⟨rfl, b6⟩
    have g6 := below_then g5 b6
    clear g5 b6
    go_wp2
    go_ret
    exact ⟨rfl, g6⟩

theorem octetWrites_walk (v s : Int) (t : ByteArray) (w : World) (h0 : (Lit.int .u64 v).wf = true) (h1 : (Lit.int .i64 s).wf = true) (h2 : t.size ≤ maxLen) :
    Calls Try.prog 3 #[.int .u64 v, .int .i64 s, .string t] w fun e w' => e = .returned (.bool true) ∧ Below w.heap.size w w' :=
  octetWrites_walk0 v s t w (bounds_u64 h0) (bounds_i64 h1) h2
end Go.Proofs.Ytpofgibolcmmlaa
