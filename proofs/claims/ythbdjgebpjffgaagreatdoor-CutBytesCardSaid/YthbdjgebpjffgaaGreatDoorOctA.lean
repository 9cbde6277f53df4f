/-
  Plain mathematics: the bytes of a number, the most significant first, without a leading 0; their value; the number's encoding.
  Conditions: none. It speaks of no program.
-/
import Derived.WalkKit
set_option linter.unusedVariables false
set_option linter.unusedSimpArgs false
namespace Go.Proofs.YthbdjgebpjffgaaGreatDoor

/-- The bytes of a number, the most significant first, without a leading 0. -/
def digs (v : Nat) : List UInt8 := if v = 0 then [] else digs (v / 256) ++ [UInt8.ofNat v]
termination_by v
decreasing_by omega

theorem digs_zero : digs 0 = [] := by rw [digs]; simp
theorem digs_pos {v : Nat} (h : 0 < v) : digs v = digs (v / 256) ++ [UInt8.ofNat v] := by
  conv => lhs; rw [digs, if_neg (by omega)]

theorem digs_len : ∀ (k v : Nat), v < 256 ^ k → (digs v).length ≤ k
  | 0, v, h => by
    have : v = 0 := by simpa using h
    subst this
    simp [digs_zero]
  | k + 1, v, h => by
    rcases Nat.eq_zero_or_pos v with h0 | h0
    · subst h0; simp [digs_zero]
    · rw [digs_pos h0]
      have := digs_len k (v / 256) (Nat.div_lt_of_lt_mul (by rw [Nat.pow_succ] at h; omega))
      simp only [List.length_append, List.length_cons, List.length_nil]
      omega

theorem digs_ne {v : Nat} (h : 0 < v) : digs v ≠ [] := by rw [digs_pos h]; simp

theorem digs_nil {v : Nat} (h : digs v = []) : v = 0 := by
  rcases Nat.eq_zero_or_pos v with h0 | h0
  · exact h0
  · exact absurd h (digs_ne h0)

/-- The value of some bytes. -/
def valB (l : List UInt8) : Nat := l.foldl (fun a b => a * 256 + b.toNat) 0

theorem valB_snoc (l : List UInt8) (b : UInt8) : valB (l ++ [b]) = valB l * 256 + b.toNat := by simp [valB]

theorem valB_lt : ∀ (n : Nat) (l : List UInt8), l.length = n → valB l < 256 ^ n
  | 0, l, h => by
    have : l = [] := List.length_eq_zero_iff.1 h
    subst this
    simp [valB]
  | n + 1, l, h => by
    have hne : l ≠ [] := by intro e; subst e; simp at h
    have e := List.dropLast_concat_getLast hne
    have hl : l.dropLast.length = n := by rw [List.length_dropLast]; omega
    have ih := valB_lt n l.dropLast hl
    have hb := UInt8.toNat_lt (l.getLast hne)
    rw [← e, valB_snoc, Nat.pow_succ]
    omega

theorem val_digs (v : Nat) : valB (digs v) = v := by
  induction v using Nat.strongRecOn with
  | _ v ih =>
    rcases Nat.eq_zero_or_pos v with h0 | h0
    · subst h0; simp [digs_zero, valB]
    · rw [digs_pos h0, valB_snoc, ih (v / 256) (by omega), UInt8.toNat_ofNat']
      omega

theorem digs_val : ∀ (n : Nat) (l : List UInt8), l.length = n → l.head? ≠ some 0 → digs (valB l) = l
  | 0, l, h, _ => by
    have : l = [] := List.length_eq_zero_iff.1 h
    subst this
    simp [valB, digs_zero]
  | n + 1, l, h, hh => by
    have hne : l ≠ [] := by intro e; subst e; simp at h
    have e := List.dropLast_concat_getLast hne
    have hl : l.dropLast.length = n := by rw [List.length_dropLast]; omega
    generalize l.dropLast = m at e hl
    generalize l.getLast hne = b at e
    subst e
    have hb := UInt8.toNat_lt b
    have hob : UInt8.ofNat (valB m * 256 + b.toNat) = b := by
      apply UInt8.toNat_inj.1
      rw [UInt8.toNat_ofNat']
      omega
    rcases hm : m with _ | ⟨c, m'⟩
    · subst hm
      have hb0 : b ≠ 0 := by intro e; subst e; simp at hh
      have hb1 : 0 < b.toNat := by
        rcases Nat.eq_zero_or_pos b.toNat with h0 | h0
        · exact absurd (UInt8.toNat_inj.1 (by simpa using h0)) hb0
        · exact h0
      have ev : valB ([] ++ [b]) = b.toNat := by simp [valB]
      rw [ev, digs_pos hb1, show b.toNat / 256 = 0 by omega, digs_zero]
      simp
    · have ih := digs_val n m hl (by rw [hm] at hh ⊢; simpa using hh)
      have hv : 0 < valB m := by
        rcases Nat.eq_zero_or_pos (valB m) with h0 | h0
        · rw [h0, digs_zero, hm] at ih; simp at ih
        · exact h0
      rw [← hm, valB_snoc, digs_pos (by omega), hob, show (valB m * 256 + b.toNat) / 256 = valB m by omega, ih]

/-- The first byte of a number that is not 0 is not 0. -/
theorem digs_head (v : Nat) : (digs v).head? ≠ some 0 := by
  induction v using Nat.strongRecOn with
  | _ v ih =>
    rcases Nat.eq_zero_or_pos v with h0 | h0
    · subst h0; simp [digs_zero]
    · rw [digs_pos h0]
      rcases Nat.eq_zero_or_pos (v / 256) with h1 | h1
      · rw [h1, digs_zero]
        simp only [List.nil_append, List.head?_cons]
        intro e
        have := congrArg UInt8.toNat (Option.some.inj e)
        rw [UInt8.toNat_ofNat'] at this
        simp at this
        omega
      · have hi := ih (v / 256) (by omega)
        rcases hd : digs (v / 256) with _ | ⟨c, m⟩
        · exact absurd hd (digs_ne h1)
        · rw [hd] at hi; simpa using hi

/-- The encoding of a number. -/
def numL (v : Nat) : List UInt8 := UInt8.ofNat (digs v).length :: digs v
def numS (v : Nat) : ByteArray := ⟨(numL v).toArray⟩

theorem numS_size (v : Nat) : (numS v).size = (digs v).length + 1 := by simp [numS, numL, ByteArray.size]

/-- The number whose encoding is that of a number with a sign. -/
def sgnN (v : Int) : Nat := if v < 0 then (-2 * v - 1).toNat else (2 * v).toNat

/-- The encoding of a text. -/
def txtS (s : ByteArray) : ByteArray := numS s.size ++ s

theorem pow8 : 256 ^ 8 = 18446744073709551616 := by decide

theorem digs_le8 {v : Nat} (h : v < 18446744073709551616) : (digs v).length ≤ 8 := digs_len 8 v (by rw [pow8]; exact h)

end Go.Proofs.YthbdjgebpjffgaaGreatDoor
