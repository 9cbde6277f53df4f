/-
  What Of and More of package sum answer, and the document's own, whatever they are given.
  Conditions: the numbers fit their kinds; a text is no longer than Go allows.
-/
import Derived.Test.YtcmdemblegdelaaDoorSumA
import Derived.Test.YtcmdemblegdelaaDoorRows
import Derived.WalkKit
import Derived.WalkSpells
import Derived.WalkLawsBesides
import Derived.Lib.Hide
import Derived.Laws.BitsAllLaws
import Derived.Laws.BitsLemmas
namespace Go.Proofs.YtcmdemblegdelaaDoor
open Go.RowKit

theorem ret_int {k : IntKind} {a b : Int} (h : a = b) : Ending.returned (.int k a) = .returned (.int k b) := by rw [h]

theorem and_one (c : Nat) (h : c < 4294967296) : bits .and .u32 (c : Int) 1 = ((c % 2 : Nat) : Int) := by
  have := u32_and_nat c 1 h (by omega)
  rw [Nat.and_one_is_mod] at this
  exact this

theorem stp_int {c : Nat} (h : c < 4294967296) (hc : c % 2 = 1) : bits .xor .u32 ((c : Int) / 2) 3988292384 = (stp c : Int) := by
  have := u32_xor_nat (c / 2) 3988292384 (by omega) (by omega)
  unfold stp
  rw [if_pos hc, ← this]
  congr 1

theorem stp_int0 {c : Nat} (hc : ¬ c % 2 = 1) : (c : Int) / 2 = (stp c : Int) := by
  unfold stp
  rw [if_neg hc]
  omega

theorem shift_any (c : Nat) (w : World) (h : c < 4294967296) :
    Calls Tryd.prog 69 #[.int .u32 c] w fun e w' => e = .returned (.int .u32 (stp c)) ∧ w = w' := by
  have hA := and_one c h
  have hb : (c : Int) ≤ 4294967295 := by omega
  by_cases hc : c % 2 = 1
  · have HS := Lib.hid (stp_int h hc)
    rw [hc] at hA
    clear hc
    go_enter Tryd.func69, Tryd.ntmps69
    go_wp2
    go_ret
    exact ⟨ret_int HS.out, rfl⟩
  · have HS := Lib.hid (stp_int0 hc)
    have h0 : c % 2 = 0 := by omega
    rw [h0] at hA
    clear hc h0
    go_enter Tryd.func69, Tryd.ntmps69
    go_wp2
    go_ret
    exact ⟨ret_int HS.out, rfl⟩

/-- A number of steps. -/
def stps : Nat → Nat → Nat
  | 0, c => c
  | n + 1, c => stp (stps n c)

theorem stps_lt : ∀ n {c : Nat}, c < 4294967296 → stps n c < 4294967296
  | 0, _, h => h
  | n + 1, _, h => stp_lt (stps_lt n h)
theorem stps_eight (c : Nat) : stps 8 c = eight c := rfl

theorem xor_byte {c : Nat} (b : UInt8) (h : c < 4294967296) : bits .xor .u32 (c : Int) (b.toNat : Int) = ((c ^^^ b.toNat : Nat) : Int) :=
  u32_xor_nat c b.toNat h (by have := UInt8.toNat_lt b; omega)

theorem process_any (c : Nat) (b : UInt8) (w : World) (h : c < 4294967296) :
    Calls Tryd.prog 66 #[.int .u32 c, .int .u8 (b.toNat : Int)] w fun e w' => e = .returned (.int .u32 (byteC c b)) ∧ w = w' := by
  have hx := xor_byte b h
  have hlt : c ^^^ b.toNat < 4294967296 := Nat.xor_lt_two_pow (n := 32) h (by have := UInt8.toNat_lt b; omega)
  have hb := UInt8.toNat_lt b
  go_enter Tryd.func66, Tryd.ntmps66
  go_wp2
  go_loop [0, 9] (fun c1 i => ∃ k : Nat, k ≤ 8 ∧ i = .int .i64 k ∧ c1 = .int .u32 (stps k (c ^^^ b.toNat))) (fun _ i => 8 - (intOf i).toNat)
  case atStart => exact ⟨0, by omega, rfl, rfl⟩
  case round =>
    obtain ⟨k, hk, rfl, rfl⟩ := hrel
    have HL := Lib.hid (stps_lt k hlt)
    clear hlt hx
    by_cases hk8 : k < 8
    · go_wp2_with fail
      refine (shift_any _ _ HL.out).mono ?_
      rintro e w1 ⟨rfl, rfl⟩
      go_wp2
      go_round
      case rel => exact ⟨k + 1, by omega, by go_num, rfl⟩
      case measure => simp [intOf]; omega
    · obtain rfl : k = 8 := by omega
      go_wp2
      go_ret
      exact ⟨rfl, rfl⟩

theorem not_u32 {c : Nat} (h : c < 4294967296) : 4294967295 ^^^ c = 4294967295 - c := by
  have e : (BitVec.allOnes 32 ^^^ BitVec.ofNat 32 c).toNat = 4294967295 - c := by
    rw [BitVec.allOnes_xor, BitVec.toNat_not, BitVec.toNat_ofNat]
    omega
  rw [BitVec.toNat_xor, BitVec.toNat_ofNat, Nat.mod_eq_of_lt (by omega)] at e
  exact e

theorem not_int {c : Nat} (h : c < 4294967296) : bits .xor .u32 IntKind.u32.max (c : Int) = ((4294967295 - c : Nat) : Int) := by
  rw [show IntKind.u32.max = 4294967295 by decide]
  have := u32_xor_nat 4294967295 c (by omega) h
  rw [not_u32 h] at this
  exact this

theorem take_snoc (s : ByteArray) (k : Nat) (h : k < s.size) : s.data.toList.take (k + 1) = s.data.toList.take k ++ [s[k]] := by
  rw [List.take_succ_eq_append_getElem (by simpa using h)]; rfl

theorem run_snoc (c : Nat) (s : ByteArray) (k : Nat) (h : k < s.size) : runC c (s.data.toList.take (k + 1)) = byteC (runC c (s.data.toList.take k)) s[k] := by
  rw [take_snoc s k h, runC_append]
  rfl

theorem run_end (c : Nat) (s : ByteArray) : runC c (s.data.toList.take s.size) = runC c s.data.toList := by
  rw [List.take_of_length_le (by simp)]

theorem more_any (n : Nat) (s : ByteArray) (w : World) (h : n < 4294967296) (hs : s.size ≤ maxLen) :
    Calls Tryd.prog 58 #[.int .u32 n, .string s] w fun e w' => e = .returned (.int .u32 (moreC n s.data.toList)) ∧ w = w' := by
  unfold maxLen at hs
  have hn := not_int h
  go_enter Tryd.func58, Tryd.ntmps58
  go_wp2
  go_loop [5, 11] (fun c i => ∃ k : Nat, k ≤ s.size ∧ i = .int .i64 k ∧ c = .int .u32 (runC (4294967295 - n) (s.data.toList.take k))) (fun _ i => s.size - (intOf i).toNat)
  case atStart => exact ⟨0, by omega, rfl, rfl⟩
  case round =>
    obtain ⟨k, hk, rfl, rfl⟩ := hrel
    clear hn
    have hl : runC (4294967295 - n) (s.data.toList.take k) < 4294967296 := runC_lt _ (by omega)
    by_cases hk8 : k < s.size
    · have HR := Lib.hid (run_snoc (4294967295 - n) s k hk8)
      have HL := Lib.hid hl
      clear hl
      go_wp2_with fail
      refine (process_any _ s[k] _ HL.out).mono ?_
      rintro e w1 ⟨rfl, rfl⟩
      go_wp2
      go_round
      case rel => exact ⟨k + 1, by omega, by go_num, by rw [HR.out]⟩
      case measure => simp [intOf]; omega
    · obtain rfl : k = s.size := by omega
      have hn := not_int hl
      have HR := Lib.hid (run_end (4294967295 - n) s)
      go_wp2
      go_ret
      exact ⟨ret_int (by rw [HR.out]; rfl), rfl⟩

theorem of_any (s : ByteArray) (w : World) (hs : s.size ≤ maxLen) :
    Calls Tryd.prog 41 #[.string s] w fun e w' => e = .returned (.int .u32 (ofC s.data.toList)) ∧ w = w' := by
  go_enter Tryd.func41, Tryd.ntmps41
  go_wp2_with fail
  refine (more_any 0 _ _ (by omega) hs).mono ?_
  rintro e w1 ⟨rfl, rfl⟩
  go_wp2
  go_ret
  exact ⟨rfl, rfl⟩

theorem stps_snoc (k c : Nat) : stps (k + 1) c = stp (stps k c) := rfl
theorem stps_odd {k c : Nat} (h : c < 4294967296) (ho : stps k c % 2 = 1) : bits .xor .u32 ((stps k c : Int) / 2) 3988292384 = (stps (k + 1) c : Int) := stp_int (stps_lt k h) ho
theorem stps_even {k c : Nat} (ho : ¬ stps k c % 2 = 1) : (stps k c : Int) / 2 = (stps (k + 1) c : Int) := stp_int0 ho

set_option maxHeartbeats 400000 in
theorem rmore_any (n : Nat) (s : ByteArray) (w : World) (h : n < 4294967296) (hs : s.size ≤ maxLen) :
    Calls Tryd.prog 59 #[.int .u32 n, .string s] w fun e w' => e = .returned (.int .u32 (moreC n s.data.toList)) ∧ w = w' := by
  unfold maxLen at hs
  have hn := not_int h
  go_enter Tryd.func59, Tryd.ntmps59
  go_wp2
  go_loop [5, 6] (fun c i => ∃ k : Nat, k ≤ s.size ∧ i = .int .i64 k ∧ c = .int .u32 (runC (4294967295 - n) (s.data.toList.take k))) (fun _ i => s.size - (intOf i).toNat)
  case atStart => exact ⟨0, by omega, rfl, rfl⟩
  case round =>
    obtain ⟨k, hk, rfl, rfl⟩ := hrel
    clear hn
    have hl : runC (4294967295 - n) (s.data.toList.take k) < 4294967296 := runC_lt _ (by omega)
    by_cases hk8 : k < s.size
    · have HR := Lib.hid (run_snoc (4294967295 - n) s k hk8)
      generalize hc : runC (4294967295 - n) (s.data.toList.take k) = c at hl HR ⊢
      clear hc
      have hx := xor_byte s[k] hl
      have hlt : c ^^^ s[k].toNat < 4294967296 := Nat.xor_lt_two_pow (n := 32) hl (by have := UInt8.toNat_lt s[k]; omega)
      have hb := UInt8.toNat_lt s[k]
      go_wp2
      clear hx
      go_loop [5, 7] (fun c1 i => ∃ m : Nat, m ≤ 8 ∧ i = .int .i64 m ∧ c1 = .int .u32 (stps m (c ^^^ s[k].toNat))) (fun _ i => 8 - (intOf i).toNat)
      case atStart => exact ⟨0, by omega, rfl, rfl⟩
      case round =>
        obtain ⟨m, hm, rfl, rfl⟩ := hrel
        by_cases hm8 : m < 8
        · have hl2 := stps_lt m hlt
          by_cases ho : stps m (c ^^^ s[k].toNat) % 2 = 1
          · have HO := Lib.hid (stps_odd hlt ho)
            have ho' : ((stps m (c ^^^ s[k].toNat) : Nat) : Int) % 2 = 1 := by omega
            clear ho
            go_wp2
            go_round
            case rel => exact ⟨m + 1, by omega, by go_num, by rw [HO.out]⟩
            case measure => simp [intOf]; omega
          · have HO := Lib.hid (stps_even ho)
            have ho' : ((stps m (c ^^^ s[k].toNat) : Nat) : Int) % 2 = 0 := by omega
            clear ho
            go_wp2
            go_round
            case rel => exact ⟨m + 1, by omega, by go_num, by rw [HO.out]⟩
            case measure => simp [intOf]; omega
        · obtain rfl : m = 8 := by omega
          go_wp2
          go_round
          case rel => exact ⟨k + 1, by omega, by go_num, by rw [HR.out]; rfl⟩
          case measure => simp [intOf]; omega
    · obtain rfl : k = s.size := by omega
      have hn := not_int hl
      have HR := Lib.hid (run_end (4294967295 - n) s)
      go_wp2
      go_ret
      exact ⟨ret_int (by rw [HR.out]; rfl), rfl⟩

theorem rof_any (s : ByteArray) (w : World) (hs : s.size ≤ maxLen) :
    Calls Tryd.prog 43 #[.string s] w fun e w' => e = .returned (.int .u32 (ofC s.data.toList)) ∧ w = w' := by
  go_enter Tryd.func43, Tryd.ntmps43
  go_wp2_with fail
  refine (rmore_any 0 _ _ (by omega) hs).mono ?_
  rintro e w1 ⟨rfl, rfl⟩
  go_wp2
  go_ret
  exact ⟨rfl, rfl⟩
end Go.Proofs.YtcmdemblegdelaaDoor
