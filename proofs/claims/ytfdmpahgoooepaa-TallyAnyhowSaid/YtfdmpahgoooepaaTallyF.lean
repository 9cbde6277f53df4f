/-
  What Sum of package tally answers, and what the document's own Sum answers, for any list of counts that lies in memory.
  Conditions: the slice's cells hold the numbers that are named; they are uint32 numbers.
-/
import Derived.Test.YtfdmpahgoooepaaTallyE
namespace Go.Proofs.Ytfdmpahgoooepaa
open Go.RowKit

/-- The elements added one by one to t, or the first error. -/
def sumFrom (t : Int) : List Int → Int × Int
  | [] => (t, 0)
  | n :: r => if (sumV 0 1048576 t n).2 = 0 then sumFrom (sumV 0 1048576 t n).1 r else (0, (sumV 0 1048576 t n).2)

/-- The sum of a list, or an error. -/
def sumL (l : List Int) : Int × Int := if 64 < l.length then (0, 8) else sumFrom 0 l

theorem sumV_bd {lo hi a b : Int} (h : lo ≤ 0 ∧ 0 ≤ hi) : lo ≤ (sumV lo hi a b).1 ∧ (sumV lo hi a b).1 ≤ hi := by
  unfold sumV bndV
  by_cases h1 : inB lo hi [a, b] = true
  · by_cases h2 : inB lo hi [a + b] = true
    · rw [if_pos h1, if_pos h2]
      simpa [inB] using h2
    · rw [if_pos h1, if_neg h2]; exact h
  · rw [if_neg h1]; exact h

theorem sumFrom_ok {t : Int} {zs : List Int} {k : Nat} (hk : k < zs.length) (h : (sumV 0 1048576 t zs[k]).2 = 0) : sumFrom t (zs.drop k) = sumFrom (sumV 0 1048576 t zs[k]).1 (zs.drop (k + 1)) := by
  rw [List.drop_eq_getElem_cons hk, sumFrom, if_pos h]

theorem sumFrom_no {t : Int} {zs : List Int} {k : Nat} (hk : k < zs.length) (h : ¬ (sumV 0 1048576 t zs[k]).2 = 0) : sumFrom t (zs.drop k) = (0, (sumV 0 1048576 t zs[k]).2) := by
  rw [List.drop_eq_getElem_cons hk, sumFrom, if_neg h]

set_option maxHeartbeats 400000 in
theorem sum_any (zs : List Int) (b off cap : Nat) (w : World) (hbig : zs.length ≤ 9223372036854775807) (hlt : b < w.heap.size)
    (hc : ∀ j, j < zs.length → w.cell? ⟨b, off + j, none⟩ = some (.int .u32 (zs.getD j 0))) :
    Calls Try.prog 12 #[.slice (some ⟨b, off, none⟩) zs.length cap] w fun e w' => e = .returned (.tuple #[.int .u32 (sumL zs).1, .int .i64 (sumL zs).2]) ∧ Below w.heap.size w w' := by
  by_cases hl : 64 < zs.length
  · have hv : sumL zs = (0, 8) := by simp [sumL, hl]
    have HV := Lib.hid hv; clear hv
    go_enter Try.func12, Try.ntmps12
    go_wp2
    go_ret2
    exact ⟨ret_two HV.out, Below.refl _ _⟩
  · have hv : sumL zs = sumFrom 0 zs := by simp [sumL, hl]
    have HV := Lib.hid hv; clear hv
    go_enter Try.func12, Try.ntmps12
    go_wp2
    go_loopw [4, 13] (fun t i wr => ∃ (k : Nat) (s : Int), k ≤ zs.length ∧ i = .int .i64 k ∧ t = .int .u32 s ∧ sumFrom s (zs.drop k) = sumL zs ∧ Below w.heap.size w wr) (fun _ i _ => zs.length - (intOf i).toNat)
    case atStart => exact ⟨0, 0, Nat.zero_le _, rfl, rfl, HV.out.symm, Below.refl _ _⟩
    case round =>
      obtain ⟨k, s, hk, rfl, rfl, hs, hb⟩ := hrel
      have HS := Lib.hid hs; clear hs
      have hcell : k < zs.length → wr.cell? ⟨b, off + k, none⟩ = some (.int .u32 (zs.getD k 0)) := fun _ => (hb.cell (p := ⟨b, off + k, none⟩) hlt).trans (hc k (by omega))
      by_cases hlk : k < zs.length
      · have hcl := hcell hlk
        clear hcell
        by_cases he : (sumV 0 1048576 s zs[k]).2 = 0
        · have HE := Lib.hid he
          have he' : ((sumV 0 1048576 s zs[k]).2 != 0) = false := by simpa using he
          clear he
          go_wp2_with (go_at_call 9; refine (add_any _ _ _).mono ?_; rintro e w1 ⟨rfl, hb1⟩)
          go_roundw
          case rel => exact ⟨k + 1, _, by omega, by go_num, rfl, (sumFrom_ok hlk HE.out).symm.trans HS.out, hb.trans (hb1.mono hb.size)⟩
          case measure => simp [intOf]; omega
        · have HE := Lib.hid he
          have he' : ((sumV 0 1048576 s zs[k]).2 != 0) = true := by simpa using he
          clear he
          go_wp2_with (go_at_call 9; refine (add_any _ _ _).mono ?_; rintro e w1 ⟨rfl, hb1⟩)
          go_ret2
          exact ⟨ret_two (HS.out.symm.trans (sumFrom_no hlk HE.out)), hb.trans (hb1.mono hb.size)⟩
      · go_wp2
        have hd := HS.out
        rw [List.drop_of_length_le (by omega)] at hd
        go_ret2
        exact ⟨ret_two (hd.symm.trans rfl), hb⟩

theorem sum_none (a : Option Addr) (cap : Nat) (w : World) :
    Calls Try.prog 12 #[.slice a 0 cap] w fun e w' => e = .returned (.tuple #[.int .u32 (sumL []).1, .int .i64 (sumL []).2]) ∧ Below w.heap.size w w' := by
  go_enter Try.func12, Try.ntmps12
  go_wp2
  go_loop [4, 13] (fun t i => i = .int .i64 0 ∧ t = .int .u32 0) (fun _ _ => 0)
  case atStart => exact ⟨rfl, rfl⟩
  case round =>
    obtain ⟨rfl, rfl⟩ := hrel
    go_wp2
    go_ret2
    exact ⟨rfl, Below.refl _ _⟩

set_option maxHeartbeats 400000 in
theorem rsum_any (zs : List Int) (b off cap : Nat) (w : World) (hbig : zs.length ≤ 9223372036854775807) (hz : ∀ n ∈ zs, (Lit.int .u32 n).wf = true)
    (hc : ∀ j, j < zs.length → w.cell? ⟨b, off + j, none⟩ = some (.int .u32 (zs.getD j 0))) :
    Calls Try.prog 13 #[.slice (some ⟨b, off, none⟩) zs.length cap] w fun e w' => e = .returned (.tuple #[.int .u32 (sumL zs).1, .int .i64 (sumL zs).2]) ∧ w = w' := by
  by_cases hl : 64 < zs.length
  · have hv : sumL zs = (0, 8) := by simp [sumL, hl]
    have HV := Lib.hid hv; clear hv hc
    go_enter Try.func13, Try.ntmps13
    go_wp2
    go_ret2
    exact ⟨ret_two HV.out, rfl⟩
  · have hv : sumL zs = sumFrom 0 zs := by simp [sumL, hl]
    have HV := Lib.hid hv; clear hv
    have HZ := Lib.hid hz; clear hz
    have HC := Lib.hid hc; clear hc
    go_enter Try.func13, Try.ntmps13
    go_wp2
    go_loop [4, 5] (fun t i => ∃ (k : Nat) (s : Int), k ≤ zs.length ∧ i = .int .i64 k ∧ t = .int .u32 s ∧ sumFrom s (zs.drop k) = sumL zs ∧ 0 ≤ s ∧ s ≤ 1048576) (fun _ i => zs.length - (intOf i).toNat)
    case atStart => exact ⟨0, 0, Nat.zero_le _, rfl, rfl, HV.out.symm, by omega, by omega⟩
    case round =>
      obtain ⟨k, s, hk, rfl, rfl, hs, hs0, hs1⟩ := hrel
      have HS := Lib.hid hs; clear hs
      by_cases hlk : k < zs.length
      · have hcl := HC.out k hlk
        have hb := wf_u32 (HZ.out zs[k] (List.getElem_mem hlk))
        have hv := sumV_bd (lo := 0) (hi := 1048576) (a := s) (b := zs[k]) (by omega)
        by_cases he : (sumV 0 1048576 s zs[k]).2 = 0
        · have HE := Lib.hid he
          have he' : ((sumV 0 1048576 s zs[k]).2 != 0) = false := by simpa using he
          clear he
          go_wp2_with (go_at_call 10; refine (radd_any _ _ _ (by omega) hb).mono ?_; rintro e w' ⟨rfl, rfl⟩)
          go_round
          case rel => exact ⟨k + 1, _, by omega, by go_num, rfl, (sumFrom_ok hlk HE.out).symm.trans HS.out, hv.1, hv.2⟩
          case measure => simp [intOf]; omega
        · have HE := Lib.hid he
          have he' : ((sumV 0 1048576 s zs[k]).2 != 0) = true := by simpa using he
          clear he
          go_wp2_with (go_at_call 10; refine (radd_any _ _ _ (by omega) hb).mono ?_; rintro e w' ⟨rfl, rfl⟩)
          go_ret2
          exact ⟨ret_two (HS.out.symm.trans (sumFrom_no hlk HE.out)), rfl⟩
      · go_wp2
        have hd := HS.out
        rw [List.drop_of_length_le (by omega)] at hd
        go_ret2
        exact ⟨ret_two (hd.symm.trans rfl), rfl⟩

theorem rsum_none (a : Option Addr) (cap : Nat) (w : World) :
    Calls Try.prog 13 #[.slice a 0 cap] w fun e w' => e = .returned (.tuple #[.int .u32 (sumL []).1, .int .i64 (sumL []).2]) ∧ w = w' := by
  go_enter Try.func13, Try.ntmps13
  go_wp2
  go_loop [4, 5] (fun t i => i = .int .i64 0 ∧ t = .int .u32 0) (fun _ _ => 0)
  case atStart => exact ⟨rfl, rfl⟩
  case round =>
    obtain ⟨rfl, rfl⟩ := hrel
    go_wp2
    go_ret2
    exact ⟨rfl, rfl⟩

end Go.Proofs.Ytfdmpahgoooepaa
