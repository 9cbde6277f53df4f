/-
  The numbers' encodings stand in the order of the numbers: plain mathematics; and the walk of the law OctetOrder.
  Conditions: the numbers fit their kind; package errors' own variable holds the handle of the type error.
-/
import Derived.Test.YtpofgibolcmmlaaDoorOctX
import Derived.OpenShut
namespace Go.Proofs.YtpofgibolcmmlaaDoor
open Go.RowKit

theorem valFrom (l : List UInt8) : ∀ a : Nat, l.foldl (fun a b => a * 256 + b.toNat) a = a * 256 ^ l.length + valB l := by
  induction l with
  | nil => intro a; simp [valB]
  | cons b l ih =>
    intro a
    have e : valB (b :: l) = b.toNat * 256 ^ l.length + valB l := by
      show (b :: l).foldl (fun a b => a * 256 + b.toNat) 0 = _
      rw [List.foldl_cons, ih]
      simp
    rw [List.foldl_cons, ih, e, List.length_cons, Nat.pow_succ, Nat.add_mul, Nat.mul_assoc, Nat.mul_comm 256, Nat.add_assoc]

theorem valB_cons (b : UInt8) (l : List UInt8) : valB (b :: l) = b.toNat * 256 ^ l.length + valB l := by
  show (b :: l).foldl (fun a b => a * 256 + b.toNat) 0 = _
  rw [List.foldl_cons, valFrom]
  simp

theorem less_val : ∀ (x y : List UInt8), x.length = y.length → Op.bytesLess x y = decide (valB x < valB y)
  | [], [], _ => by simp [Op.bytesLess, valB]
  | a :: x, b :: y, h => by
    have hl : x.length = y.length := by simpa using h
    have hx : valB x < 256 ^ y.length := by rw [← hl]; exact valB_lt _ _ rfl
    have hy : valB y < 256 ^ y.length := valB_lt _ _ rfl
    have ih := less_val x y hl
    rw [Op.bytesLess, ih, valB_cons, valB_cons, hl]
    revert hx hy
    generalize 256 ^ y.length = P
    intro hx hy
    rcases Nat.lt_trichotomy a.toNat b.toNat with h1 | h1 | h1
    · have e1 : decide (a < b) = true := by simpa [UInt8.lt_iff_toNat_lt] using h1
      have e2 : a.toNat * P + valB x < b.toNat * P + valB y := by
        have : (a.toNat + 1) * P ≤ b.toNat * P := Nat.mul_le_mul_right _ h1
        rw [Nat.add_mul, Nat.one_mul] at this
        omega
      rw [e1, decide_eq_true e2]; rfl
    · have e0 : a = b := UInt8.toNat_inj.1 h1
      subst e0
      have e1 : decide (a < a) = false := by simp
      rw [e1]
      simp
    · have e1 : decide (a < b) = false := by simpa [UInt8.lt_iff_toNat_lt, UInt8.le_iff_toNat_le] using Nat.le_of_lt h1
      have e3 : (a == b) = false := by
        simp only [beq_eq_false_iff_ne]
        intro e; subst e; omega
      have e2 : ¬ a.toNat * P + valB x < b.toNat * P + valB y := by
        have : (b.toNat + 1) * P ≤ a.toNat * P := Nat.mul_le_mul_right _ h1
        rw [Nat.add_mul, Nat.one_mul] at this
        omega
      rw [e1, e3, decide_eq_false e2]; rfl

theorem digs_low {v : Nat} (h : 0 < v) : 256 ^ ((digs v).length - 1) ≤ v := by
  have hh := digs_head v
  have hv := val_digs v
  rcases hd : digs v with _ | ⟨b, t⟩
  · exact absurd hd (digs_ne h)
  · rw [hd] at hh hv
    rw [valB_cons] at hv
    have hb : 0 < b.toNat := by
      rcases Nat.eq_zero_or_pos b.toNat with h0 | h0
      · have : b = 0 := UInt8.toNat_inj.1 (by simpa using h0)
        subst this; simp at hh
      · exact h0
    have : 1 * 256 ^ t.length ≤ b.toNat * 256 ^ t.length := Nat.mul_le_mul_right _ hb
    simp only [List.length_cons, Nat.add_sub_cancel]
    omega

theorem digs_up (v : Nat) : v < 256 ^ (digs v).length := by
  have := valB_lt _ (digs v) rfl
  rw [val_digs] at this
  exact this

theorem digs_mono {a b : Nat} (h : (digs a).length < (digs b).length) : a < b := by
  have hb : 0 < b := by
    rcases Nat.eq_zero_or_pos b with h0 | h0
    · subst h0; rw [digs_zero] at h; simp at h
    · exact h0
  have h1 := digs_low hb
  have h2 := digs_up a
  have h3 : 256 ^ (digs a).length ≤ 256 ^ ((digs b).length - 1) := Nat.pow_le_pow_right (by decide) (by omega)
  omega

theorem numL_less {a b : Nat} (ha : a < 18446744073709551616) (hb : b < 18446744073709551616) : Op.bytesLess (numL a) (numL b) = decide (a < b) := by
  have h8a := digs_le8 ha
  have h8b := digs_le8 hb
  have ea : (UInt8.ofNat (digs a).length).toNat = (digs a).length := by rw [UInt8.toNat_ofNat']; omega
  have eb : (UInt8.ofNat (digs b).length).toNat = (digs b).length := by rw [UInt8.toNat_ofNat']; omega
  unfold numL
  rw [Op.bytesLess]
  rcases Nat.lt_trichotomy (digs a).length (digs b).length with h | h | h
  · have e1 : decide (UInt8.ofNat (digs a).length < UInt8.ofNat (digs b).length) = true := by
      rw [decide_eq_true_eq, UInt8.lt_iff_toNat_lt, ea, eb]; exact h
    rw [e1, decide_eq_true (digs_mono h)]; rfl
  · have e1 : decide (UInt8.ofNat (digs a).length < UInt8.ofNat (digs b).length) = false := by
      rw [decide_eq_false_iff_not, UInt8.lt_iff_toNat_lt, ea, eb]; omega
    have e2 : (UInt8.ofNat (digs a).length == UInt8.ofNat (digs b).length) = true := by rw [h]; simp
    rw [e1, e2, less_val _ _ h, val_digs, val_digs]; rfl
  · have e1 : decide (UInt8.ofNat (digs a).length < UInt8.ofNat (digs b).length) = false := by
      rw [decide_eq_false_iff_not, UInt8.lt_iff_toNat_lt, ea, eb]; omega
    have e2 : (UInt8.ofNat (digs a).length == UInt8.ofNat (digs b).length) = false := by
      simp only [beq_eq_false_iff_ne]
      intro e
      have := congrArg UInt8.toNat e
      rw [ea, eb] at this
      omega
    have := digs_mono h
    rw [e1, e2, decide_eq_false (by omega)]; rfl

theorem numS_list (v : Nat) : (numS v).toList = numL v := by rw [ByteArray.toList_eq]; rfl

theorem numS_less {a b : Nat} (ha : a < 18446744073709551616) (hb : b < 18446744073709551616) : Op.bytesLess (numS a).toList (numS b).toList = decide (a < b) := by
  rw [numS_list, numS_list, numL_less ha hb]

theorem numS_inj {a b : Nat} (h : numS a = numS b) : a = b := by
  have : numL a = numL b := by rw [← numS_list, ← numS_list, h]
  have h2 : digs a = digs b := by unfold numL at this; exact (List.cons.inj this).2
  rw [← val_digs a, h2, val_digs]

theorem numS_beq {a b : Nat} : ((numS a).toList == (numS b).toList) = decide (a = b) := by
  by_cases h : a = b
  · subst h; simp
  · rw [decide_eq_false h]
    simp only [beq_eq_false_iff_ne]
    intro e
    rw [numS_list, numS_list] at e
    apply h
    have h2 : digs a = digs b := by unfold numL at e; exact (List.cons.inj e).2
    rw [← val_digs a, h2, val_digs]

set_option maxHeartbeats 400000 in
theorem octetOrder_core (a b : Nat) (w : World) (ha : a < 18446744073709551616) (hb : b < 18446744073709551616) (hg : Handle w) :
    Calls Tryd.prog 6 #[.int .u64 a, .int .u64 b] w fun e w' => e = .returned (.bool true) ∧ Below w.heap.size w w' := by
  have HW := Lib.hid (works_any w hg)
  clear hg
  have hl := numS_less ha hb
  have he := @numS_beq a b
  rcases Nat.lt_trichotomy a b with h | h | h
  · rw [decide_eq_true h] at hl
    rw [decide_eq_false (by omega)] at he
    have hi : ((a : Int) == b) = false := by simp only [beq_eq_false_iff_ne]; omega
    have hlt : (a : Int) < b := by omega
    go_enter Tryd.func6, Tryd.ntmps6
    go_wp2_with fail
    refine HW.out.mono ?_
    rintro e w1 ⟨rfl, b1⟩
    go_wp2_with fail
    refine (num_any a _ ha).mono ?_
    rintro e w2 ⟨rfl, b2⟩
    have g2 := below_then b1 b2; clear b1 b2
    go_wp2_with fail
    refine (num_any b _ hb).mono ?_
    rintro e w3 ⟨rfl, b3⟩
    have g3 := below_then g2 b3; clear g2 b3
    go_wp2_with fail
    refine (num_any a _ ha).mono ?_
    rintro e w4 ⟨rfl, b4⟩
    have g4 := below_then g3 b4; clear g3 b4
    go_wp2_with fail
    refine (num_any b _ hb).mono ?_
    rintro e w5 ⟨rfl, b5⟩
    have g5 := below_then g4 b5; clear g4 b5
    go_wp2
    go_ret
    exact ⟨rfl, g5⟩
  · subst h
    rw [decide_eq_false (by omega)] at hl
    go_enter Tryd.func6, Tryd.ntmps6
    go_wp2_with fail
    refine HW.out.mono ?_
    rintro e w1 ⟨rfl, b1⟩
    go_wp2_with fail
    refine (num_any a _ ha).mono ?_
    rintro e w2 ⟨rfl, b2⟩
    have g2 := below_then b1 b2; clear b1 b2
    go_wp2_with fail
    refine (num_any a _ hb).mono ?_
    rintro e w3 ⟨rfl, b3⟩
    have g3 := below_then g2 b3; clear g2 b3
    go_wp2_with fail
    refine (num_any a _ ha).mono ?_
    rintro e w4 ⟨rfl, b4⟩
    have g4 := below_then g3 b4; clear g3 b4
    go_wp2_with fail
    refine (num_any a _ hb).mono ?_
    rintro e w5 ⟨rfl, b5⟩
    have g5 := below_then g4 b5; clear g4 b5
    go_wp2
    go_ret
    exact ⟨rfl, g5⟩
  · rw [decide_eq_false (by omega)] at hl
    rw [decide_eq_false (by omega)] at he
    have hi : ((a : Int) == b) = false := by simp only [beq_eq_false_iff_ne]; omega
    have hlt : decide (a < b) = false := decide_eq_false (by omega)
    have hlt2 : decide ((a : Int) < b) = false := decide_eq_false (by omega)
    go_enter Tryd.func6, Tryd.ntmps6
    go_wp2_with fail
    refine HW.out.mono ?_
    rintro e w1 ⟨rfl, b1⟩
    go_wp2_with fail
    refine (num_any a _ ha).mono ?_
    rintro e w2 ⟨rfl, b2⟩
    have g2 := below_then b1 b2; clear b1 b2
    go_wp2_with fail
    refine (num_any b _ hb).mono ?_
    rintro e w3 ⟨rfl, b3⟩
    have g3 := below_then g2 b3; clear g2 b3
    go_wp2_with fail
    refine (num_any a _ ha).mono ?_
    rintro e w4 ⟨rfl, b4⟩
    have g4 := below_then g3 b4; clear g3 b4
    go_wp2_with fail
    refine (num_any b _ hb).mono ?_
    rintro e w5 ⟨rfl, b5⟩
    have g5 := below_then g4 b5; clear g4 b5
    go_wp2
    go_ret
    exact ⟨rfl, g5⟩

theorem octetOrder_walk (a b : Int) (w : World) (hg : Handle w) (w0 : (Lit.int .u64 a).wf = true) (w1 : (Lit.int .u64 b).wf = true) :
    Calls Tryd.prog 6 #[.int .u64 a, .int .u64 b] w fun e w' => e = .returned (.bool true) ∧ Below w.heap.size w w' := by
  have h0 := bounds_u64 w0
  have h1 := bounds_u64 w1
  obtain ⟨m, rfl⟩ : ∃ n : Nat, a = n := ⟨a.toNat, by omega⟩
  obtain ⟨n, rfl⟩ : ∃ n : Nat, b = n := ⟨b.toNat, by omega⟩
  exact octetOrder_core m n w (by omega) (by omega) hg
end Go.Proofs.YtpofgibolcmmlaaDoor
