/-
  Plain mathematics of the check sum CRC-32: the shift step, a byte, a text; each step keeps apart what was apart; four bytes that differ give another sum.
  Conditions: none. It speaks of no program.
-/
import Derived.WalkKit
namespace Go.Proofs.YtcmdemblegdelaaDoor

/-- The shift step. -/
def stp (c : Nat) : Nat := if c % 2 = 1 then (c / 2) ^^^ 3988292384 else c / 2

theorem stp_lt {c : Nat} (h : c < 2 ^ 32) : stp c < 2 ^ 32 := by
  unfold stp
  split
  · exact Nat.xor_lt_two_pow (by omega) (by omega)
  · omega

theorem xor_half (x y : Nat) : (x ^^^ y) / 2 = (x / 2) ^^^ (y / 2) := by
  have := Nat.shiftRight_xor_distrib (a := x) (b := y) (i := 1)
  simpa [Nat.shiftRight_eq_div_pow] using this

theorem xor_odd (x y : Nat) : (x ^^^ y) % 2 = (x % 2 + y % 2) % 2 := by
  have h := Nat.testBit_xor x y 0
  simp only [Nat.testBit_zero] at h
  rcases Nat.mod_two_eq_zero_or_one x with hx | hx <;> rcases Nat.mod_two_eq_zero_or_one y with hy | hy <;> rcases Nat.mod_two_eq_zero_or_one (x ^^^ y) with hz | hz <;> simp_all

/-- The step goes through xor. -/
theorem stp_xor (x y : Nat) : stp (x ^^^ y) = stp x ^^^ stp y := by
  have h := xor_odd x y
  have e := xor_half x y
  unfold stp
  rw [e]
  rcases Nat.mod_two_eq_zero_or_one x with hx | hx <;> rcases Nat.mod_two_eq_zero_or_one y with hy | hy
  · rw [hx, hy] at h
    rw [if_neg (by omega), if_neg (by omega), if_neg (by omega)]
  · rw [hx, hy] at h
    rw [if_pos (by omega), if_neg (by omega), if_pos (by omega), Nat.xor_assoc]
  · rw [hx, hy] at h
    rw [if_pos (by omega), if_pos (by omega), if_neg (by omega), Nat.xor_assoc, Nat.xor_assoc, Nat.xor_comm 3988292384]
  · rw [hx, hy] at h
    rw [if_neg (by omega), if_pos (by omega), if_pos (by omega)]
    have : x / 2 ^^^ 3988292384 ^^^ (y / 2 ^^^ 3988292384) = x / 2 ^^^ y / 2 ^^^ (3988292384 ^^^ 3988292384) := by
      rw [Nat.xor_assoc, Nat.xor_assoc, Nat.xor_comm (3988292384) (y / 2 ^^^ 3988292384), Nat.xor_assoc]
    rw [this, Nat.xor_self, Nat.xor_zero]

/-- Nothing but 0 comes to 0. -/
theorem stp_zero {x : Nat} (hx : x < 2 ^ 32) (h : stp x = 0) : x = 0 := by
  unfold stp at h
  split at h
  · have h2 : x / 2 = 3988292384 := by
      have := congrArg (· ^^^ 3988292384) h
      simpa [Nat.xor_assoc] using this
    omega
  · omega

theorem stp_even {x : Nat} : stp (2 * x) = x := by
  unfold stp
  rw [if_neg (by omega)]
  omega

/-- Eight steps: a byte's. -/
def eight (c : Nat) : Nat := stp (stp (stp (stp (stp (stp (stp (stp c)))))))

theorem eight_lt {c : Nat} (h : c < 2 ^ 32) : eight c < 2 ^ 32 := stp_lt (stp_lt (stp_lt (stp_lt (stp_lt (stp_lt (stp_lt (stp_lt h)))))))

theorem eight_xor (x y : Nat) : eight (x ^^^ y) = eight x ^^^ eight y := by
  unfold eight
  simp only [stp_xor]

theorem eight_zero {x : Nat} (hx : x < 2 ^ 32) (h : eight x = 0) : x = 0 := by
  unfold eight at h
  have a1 := stp_lt hx
  have a2 := stp_lt a1
  have a3 := stp_lt a2
  have a4 := stp_lt a3
  have a5 := stp_lt a4
  have a6 := stp_lt a5
  have a7 := stp_lt a6
  exact stp_zero hx (stp_zero a1 (stp_zero a2 (stp_zero a3 (stp_zero a4 (stp_zero a5 (stp_zero a6 (stp_zero a7 h)))))))

theorem eight_up (x : Nat) : eight (256 * x) = x := by
  unfold eight
  rw [show 256 * x = 2 * (2 * (2 * (2 * (2 * (2 * (2 * (2 * x))))))) by omega]
  simp only [stp_even]

theorem xor_eq_zero {x y : Nat} (h : x ^^^ y = 0) : x = y := by
  have := congrArg (· ^^^ y) h
  simpa [Nat.xor_assoc] using this

/-- Eight steps keep apart what was apart. -/
theorem eight_inj {x y : Nat} (hx : x < 2 ^ 32) (hy : y < 2 ^ 32) (h : eight x = eight y) : x = y := by
  apply xor_eq_zero
  apply eight_zero (Nat.xor_lt_two_pow hx hy)
  rw [eight_xor, h, Nat.xor_self]

/-- A byte processed. -/
def byteC (c : Nat) (b : UInt8) : Nat := eight (c ^^^ b.toNat)
/-- A text processed. -/
def runC (c : Nat) (l : List UInt8) : Nat := l.foldl byteC c

theorem u8_lt32 (b : UInt8) : b.toNat < 2 ^ 32 := by have := UInt8.toNat_lt b; omega

theorem byteC_lt {c : Nat} (b : UInt8) (h : c < 2 ^ 32) : byteC c b < 2 ^ 32 := eight_lt (Nat.xor_lt_two_pow h (u8_lt32 b))
theorem runC_lt : ∀ (l : List UInt8) {c : Nat}, c < 2 ^ 32 → runC c l < 2 ^ 32
  | [], _, h => h
  | b :: l, _, h => runC_lt l (byteC_lt b h)

theorem runC_append (c : Nat) (x y : List UInt8) : runC c (x ++ y) = runC (runC c x) y := List.foldl_append

/-- What goes on from two numbers in the same way keeps them apart. -/
theorem runC_inj : ∀ (l : List UInt8) {c d : Nat}, c < 2 ^ 32 → d < 2 ^ 32 → runC c l = runC d l → c = d
  | [], _, _, _, _, h => h
  | b :: l, c, d, hc, hd, h => by
    have h1 := runC_inj l (byteC_lt b hc) (byteC_lt b hd) h
    have h2 := eight_inj (Nat.xor_lt_two_pow hc (u8_lt32 b)) (Nat.xor_lt_two_pow hd (u8_lt32 b)) h1
    have h3 := congrArg (· ^^^ b.toNat) h2
    simpa [Nat.xor_assoc] using h3

theorem xor_swap (a b c d : Nat) : (a ^^^ b) ^^^ (c ^^^ d) = (a ^^^ c) ^^^ (b ^^^ d) := by
  rw [Nat.xor_assoc, Nat.xor_assoc, ← Nat.xor_assoc b c d, Nat.xor_comm b c, Nat.xor_assoc c b d]

theorem byteC_xor (c d : Nat) (b e : UInt8) : byteC c b ^^^ byteC d e = eight ((c ^^^ d) ^^^ (b.toNat ^^^ e.toNat)) := by
  unfold byteC
  rw [← eight_xor, xor_swap]

theorem eq_of_xor {x y z : Nat} (h : x ^^^ y = z) : x = z ^^^ y := by
  rw [← h, Nat.xor_assoc, Nat.xor_self, Nat.xor_zero]

/-- Four bytes laid over come to 0 only where all are 0. -/
theorem four {e0 e1 e2 e3 : Nat} (h0 : e0 < 256) (h1 : e1 < 256) (h2 : e2 < 256) (h3 : e3 < 256) (h : eight (eight (eight (eight e0 ^^^ e1) ^^^ e2) ^^^ e3) = 0) : e0 = 0 ∧ e1 = 0 ∧ e2 = 0 ∧ e3 = 0 := by
  have l0 : eight e0 < 2 ^ 32 := eight_lt (by omega)
  have l1 : eight e0 ^^^ e1 < 2 ^ 32 := Nat.xor_lt_two_pow l0 (by omega)
  have l2 : eight (eight e0 ^^^ e1) ^^^ e2 < 2 ^ 32 := Nat.xor_lt_two_pow (eight_lt l1) (by omega)
  have l3 : eight (eight (eight e0 ^^^ e1) ^^^ e2) ^^^ e3 < 2 ^ 32 := Nat.xor_lt_two_pow (eight_lt l2) (by omega)
  have k3 : eight (eight (eight e0 ^^^ e1) ^^^ e2) = e3 := xor_eq_zero (eight_zero l3 h)
  have k2 : eight (eight e0 ^^^ e1) ^^^ e2 = 256 * e3 := eight_inj l2 (by omega) (by rw [k3, eight_up])
  have m2 := eq_of_xor k2
  have n2 : 256 * e3 ^^^ e2 < 2 ^ 16 := Nat.xor_lt_two_pow (by omega) (by omega)
  have k1 : eight e0 ^^^ e1 = 256 * (256 * e3 ^^^ e2) := eight_inj l1 (by omega) (by rw [m2, eight_up])
  have m1 := eq_of_xor k1
  have n1 : 256 * (256 * e3 ^^^ e2) ^^^ e1 < 2 ^ 24 := Nat.xor_lt_two_pow (by omega) (by omega)
  have k0 : e0 = 256 * (256 * (256 * e3 ^^^ e2) ^^^ e1) := eight_inj (by omega) (by omega) (by rw [m1, eight_up])
  have z1 : 256 * (256 * e3 ^^^ e2) ^^^ e1 = 0 := by omega
  have z2 := xor_eq_zero z1
  have z3 : 256 * e3 ^^^ e2 = 0 := by omega
  have z4 := xor_eq_zero z3
  omega

/-- TOLD FOR SURE: four bytes that follow one another, laid over with others that are not all 0: another number comes of it. -/
theorem burst (c : Nat) (hc : c < 2 ^ 32) (p q : List UInt8) (a0 a1 a2 a3 b0 b1 b2 b3 : UInt8) (h : runC c (p ++ [a0, a1, a2, a3] ++ q) = runC c (p ++ [b0, b1, b2, b3] ++ q)) : a0 = b0 ∧ a1 = b1 ∧ a2 = b2 ∧ a3 = b3 := by
  rw [runC_append, runC_append, runC_append, runC_append] at h
  have hd := runC_lt p hc
  generalize runC c p = d at h hd
  have h1 := runC_inj q (runC_lt _ hd) (runC_lt _ hd) h
  have h2 : byteC (byteC (byteC (byteC d a0) a1) a2) a3 ^^^ byteC (byteC (byteC (byteC d b0) b1) b2) b3 = 0 := by
    have : byteC (byteC (byteC (byteC d a0) a1) a2) a3 = byteC (byteC (byteC (byteC d b0) b1) b2) b3 := h1
    rw [this, Nat.xor_self]
  rw [byteC_xor, byteC_xor, byteC_xor, byteC_xor, Nat.xor_self, Nat.zero_xor] at h2
  have hb : ∀ x y : UInt8, x.toNat ^^^ y.toNat < 256 := fun x y => Nat.xor_lt_two_pow (n := 8) (UInt8.toNat_lt x) (UInt8.toNat_lt y)
  obtain ⟨e0, e1, e2, e3⟩ := four (hb _ _) (hb _ _) (hb _ _) (hb _ _) h2
  exact ⟨UInt8.toNat_inj.1 (xor_eq_zero e0), UInt8.toNat_inj.1 (xor_eq_zero e1), UInt8.toNat_inj.1 (xor_eq_zero e2), UInt8.toNat_inj.1 (xor_eq_zero e3)⟩

/-- The check sum of a text behind another one's. -/
def moreC (n : Nat) (l : List UInt8) : Nat := 4294967295 - runC (4294967295 - n) l
/-- The check sum of a text. -/
def ofC (l : List UInt8) : Nat := moreC 0 l

theorem moreC_lt (n : Nat) (l : List UInt8) : moreC n l < 4294967296 := by unfold moreC; omega

/-- In two parts. -/
theorem moreC_append (n : Nat) (x y : List UInt8) : moreC (moreC n x) y = moreC n (x ++ y) := by
  unfold moreC
  have h := runC_lt x (c := 4294967295 - n) (by omega)
  rw [runC_append, show 4294967295 - (4294967295 - runC (4294967295 - n) x) = runC (4294967295 - n) x by omega]

theorem burst_of (p q : List UInt8) (a0 a1 a2 a3 b0 b1 b2 b3 : UInt8) (h : ofC (p ++ [a0, a1, a2, a3] ++ q) = ofC (p ++ [b0, b1, b2, b3] ++ q)) : a0 = b0 ∧ a1 = b1 ∧ a2 = b2 ∧ a3 = b3 := by
  unfold ofC moreC at h
  have h1 := runC_lt (p ++ [a0, a1, a2, a3] ++ q) (c := 4294967295 - 0) (by omega)
  have h2 := runC_lt (p ++ [b0, b1, b2, b3] ++ q) (c := 4294967295 - 0) (by omega)
  exact burst (4294967295 - 0) (by omega) p q a0 a1 a2 a3 b0 b1 b2 b3 (by omega)
end Go.Proofs.YtcmdemblegdelaaDoor
