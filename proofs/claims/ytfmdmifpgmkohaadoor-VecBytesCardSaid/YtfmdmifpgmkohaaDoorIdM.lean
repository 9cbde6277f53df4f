/-
  The document's own Digits: a number's decimal digits.
  Conditions: none.
-/
import Derived.Test.YtfmdmifpgmkohaaDoorIdA
import Derived.Test.YtfmdmifpgmkohaaDoorOctC
namespace Go.Proofs.YtfmdmifpgmkohaaDoor
open Go.RowKit

theorem conv_byte (w : World) (d : Nat) (hd : d < 256) : (convert 65 9 (.slice (some ⟨w.heap.size, 0, none⟩) 1 1)).run Tryd.prog (w.alloc (.cells #[.int .u8 (d : Int)] 5))
      = .ok (.string ⟨#[UInt8.ofNat d]⟩) (w.alloc (.cells #[.int .u8 (d : Int)] 5)) := by
  have e : ((UInt8.ofNat d).toNat : Int) = d := by rw [UInt8.toNat_ofNat']; omega
  exact run_convert_bytes_back (P := Tryd.prog) (w.alloc (.cells #[.int .u8 (d : Int)] 5)) 65 9 5 ⟨w.heap.size, 0, none⟩ 1 [UInt8.ofNat d] (by kernel_rfl) (by kernel_rfl) (by kernel_rfl)
    (fun j hj => by
      match j, hj with
      | 0, _ => simp [Addr.add]; omega)

theorem pow_low {u k : Nat} (h : u < 10 ^ (10 - k)) (h1 : ¬ u < 10) (hk : k ≤ 9) : k + 1 ≤ 9 ∧ u / 10 < 10 ^ (10 - (k + 1)) := by
  have hk8 : k ≤ 8 := by
    rcases Nat.lt_or_ge k 9 with h9 | h9
    · omega
    · have : k = 9 := by omega
      subst this
      exact absurd h (by simpa using h1)
  refine ⟨by omega, ?_⟩
  rw [show 10 - k = (10 - (k + 1)) + 1 by omega, Nat.pow_succ] at h
  omega

set_option maxRecDepth 4000 in
set_option maxHeartbeats 400000 in
theorem digits_any (v : Nat) (w : World) (hv : v < 4294967296) :
    Calls Tryd.prog 30 #[.int .u32 v] w fun e w' => e = .returned (.string (digS v)) ∧ Below w.heap.size w w' := by
  go_enter Tryd.func30, Tryd.ntmps30
  go_wp2
  go_loopw [0, 3, 4] (fun a sv i wr => ∃ (u k : Nat) (t : List UInt8), a = .int .u32 u ∧ sv = .string ⟨t.toArray⟩ ∧ i = .int .i64 (k : Int) ∧ k ≤ 9 ∧ u < 10 ^ (10 - k) ∧ u ≤ v ∧ t.length = k ∧ Lib.decDigits v = Lib.decDigits u ++ t ∧ Below w.heap.size w wr) (fun _ _ i _ => 10 - (intOf i).toNat)
  case atStart => exact ⟨v, 0, [], rfl, rfl, rfl, by omega, by omega, by omega, rfl, by simp, Below.refl _ _⟩
  case round =>
    obtain ⟨u, k, t, rfl, rfl, rfl, hk, hu, huv, ht, hd, hb⟩ := hrel
    have huv' := huv
    obtain ⟨b, hbyte⟩ : ∃ b, UInt8.ofNat (48 + u % 10) = b := ⟨_, rfl⟩
    have hcv := conv_byte wr (48 + u % 10) (by omega)
    rw [show ((48 + u % 10 : Nat) : Int) = 48 + (u : Int) % 10 by omega, hbyte] at hcv
    have e1 : ∀ W, (Op.stringOp .add ⟨#[b]⟩ ⟨t.toArray⟩).run Tryd.prog W = .ok (.string (⟨#[b]⟩ ++ ⟨t.toArray⟩)) W := fun W => run_string_add_sum W _ _ (by show 1 + t.length ≤ _; omega)
    have e2 : (⟨#[b]⟩ : ByteArray) ++ ⟨t.toArray⟩ = ⟨(b :: t).toArray⟩ := by
      apply ByteArray.ext; apply Array.toList_inj.1; simp
    rw [e2] at e1
    have q1 : (u : Int) / 10 % 4294967296 = ((u / 10 : Nat) : Int) := by omega
    have hk' : (k : Int) < 10 := by omega
    have hb1 := below_new hb (.cells #[.int .u8 (48 + (u : Int) % 10)] 5)
    have HB := Lib.hid hbyte
    clear hbyte e2 huv
    by_cases h1 : u < 10
    · have HD : Hid (digS v = ⟨(b :: t).toArray⟩) := Lib.hid (by unfold digS; rw [hd, Lib.decDigits_one h1, ← HB.out, show u % 10 = u by omega]; rfl)
      have q2 : (((u / 10 : Nat) : Int) == 0) = true := by rw [show u / 10 = 0 by omega]; rfl
      clear hu ht hd h1 hk hb
      go_wp2
      go_ret
      exact ⟨by rw [HD.out]; rfl, hb1⟩
    · have hx := pow_low hu h1 hk
      have HX := Lib.hid hx
      have HD : Hid (Lib.decDigits v = Lib.decDigits (u / 10) ++ b :: t) := Lib.hid (by rw [hd, dec_big h1, HB.out]; simp)
      have HT : Hid ((b :: t).length = k + 1) := Lib.hid (by simp [ht])
      have q2 : (((u / 10 : Nat) : Int) == 0) = false := by
        have : ¬ ((u / 10 : Nat) : Int) = 0 := by omega
        simpa using this
      have HV : Hid (u / 10 ≤ v) := Lib.hid (by omega)
      clear hu ht hd h1 hk hb hx
      go_wp2
      go_roundw
      case rel => exact ⟨u / 10, k + 1, b :: t, rfl, rfl, by go_num, HX.out.1, HX.out.2, HV.out, HT.out, HD.out, hb1⟩
      case measure => simp [intOf]; omega
end Go.Proofs.YtfmdmifpgmkohaaDoor
