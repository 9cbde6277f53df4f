/-
  What the range checks of package tally answer: within and bounded, at uint32, at int64 and at int, whatever numbers they are given.
  Conditions: the slice's cells hold the numbers that are named.
-/
import Derived.Test.YtfmdmifpgmkohaaRows
import Derived.WalkKit
import Derived.WalkSpells
import Derived.WalkLawsBesides
import Derived.Lib.Hide
namespace Go.Proofs.Ytfmdmifpgmkohaa
open Go.RowKit

/-- Is each of the numbers from lo to hi? -/
def inB (lo hi : Int) (zs : List Int) : Bool := zs.all fun v => decide (lo ≤ v) && decide (v ≤ hi)

theorem inB_take {lo hi : Int} {zs : List Int} {k : Nat} (hk : k < zs.length) (h : inB lo hi (zs.take k) = true) (h1 : lo ≤ zs[k] ∧ zs[k] ≤ hi) : inB lo hi (zs.take (k + 1)) = true := by
  unfold inB at *
  rw [List.take_add_one, List.all_append, h]
  simpa [List.getElem?_eq_getElem hk] using h1

theorem inB_not {lo hi : Int} {zs : List Int} {k : Nat} (hk : k < zs.length) (h : zs[k] < lo ∨ hi < zs[k]) : inB lo hi zs = false := by
  have hm : zs[k] ∈ zs := List.getElem_mem hk
  revert h hm
  generalize zs[k] = x
  intro h hm
  unfold inB
  rw [List.all_eq_false]
  refine ⟨x, hm, ?_⟩
  simp
  omega

theorem ret_bool {a b : Bool} (h : a = b) : Ending.returned (.bool a) = .returned (.bool b) := by rw [h]

set_option maxHeartbeats 400000 in
theorem within_u32 (lo hi : Int) (zs : List Int) (b off cap : Nat) (w : World) (hbig : zs.length ≤ 9223372036854775807)
    (hc : ∀ j, j < zs.length → w.cell? ⟨b, off + j, none⟩ = some (.int .u32 (zs.getD j 0))) :
    Calls Try.prog 25 #[.int .u32 lo, .int .u32 hi, .slice (some ⟨b, off, none⟩) zs.length cap] w fun e w' => e = .returned (.bool (inB lo hi zs)) ∧ w = w' := by
  go_enter Try.func25, Try.ntmps25
  go_wp2
  go_loop [11] (fun i => ∃ k : Nat, k ≤ zs.length ∧ i = .int .i64 k ∧ inB lo hi (zs.take k) = true) (fun i => zs.length - (intOf i).toNat)
  case atStart => exact ⟨0, Nat.zero_le _, rfl, rfl⟩
  case round =>
    obtain ⟨k, hk, rfl, hin⟩ := hrel
    have HI := Lib.hid hin; clear hin
    have hcell : k < zs.length → w.cell? ⟨b, off + k, none⟩ = some (.int .u32 (zs.getD k 0)) := fun _ => hc k (by omega)
    go_wp2
    · have hlt : k < zs.length := by assumption
      have ho : zs[k] < lo ∨ hi < zs[k] := by assumption
      go_ret
      exact ⟨ret_bool (inB_not hlt ho).symm, rfl⟩
    · have hlt : k < zs.length := by assumption
      have ho : lo ≤ zs[k] ∧ zs[k] ≤ hi := by assumption
      go_round
      case rel => exact ⟨k + 1, by omega, by go_num, inB_take hlt HI.out ho⟩
      case measure => simp [intOf]; omega
    · have hlt : k < zs.length := by assumption
      have ho : zs[k] < lo := by assumption
      go_ret
      exact ⟨ret_bool (inB_not hlt (.inl ho)).symm, rfl⟩
    · have hge : ¬ k < zs.length := by assumption
      have H := HI.out
      rw [List.take_of_length_le (by omega)] at H
      go_ret
      exact ⟨ret_bool H.symm, rfl⟩

end Go.Proofs.Ytfmdmifpgmkohaa
