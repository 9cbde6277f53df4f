/-
  What Num, Signed and Text of package octet answer, whatever they are given.
  Conditions: the numbers fit their kinds; a text is no longer than Go allows.
-/
import Derived.Test.YthbdjgebpjffgaaGreatDoorOctA
import Derived.Test.YthbdjgebpjffgaaGreatDoorRows
import Derived.WalkKit
import Derived.WalkSpells
import Derived.WalkLawsBesides
import Derived.Lib.Hide
import Derived.Laws.BitsAllLaws
import Derived.Laws.BitsLemmas
import Derived.Laws.IdiomStrings
set_option linter.unusedVariables false
set_option linter.unusedSimpArgs false
namespace Go.Proofs.YthbdjgebpjffgaaGreatDoor
open Go.RowKit

theorem ret_str {a b : ByteArray} (h : a = b) : Ending.returned (.string a) = .returned (.string b) := by rw [h]

/-- Nine cells: zeros, and behind them some bytes. -/
def arr (t : List UInt8) : Array Value := (List.replicate (9 - t.length) (Value.int .u8 0) ++ t.map fun b => Value.int .u8 (b.toNat : Int)).toArray

theorem arr_nil : arr [] = #[.int .u8 0, .int .u8 0, .int .u8 0, .int .u8 0, .int .u8 0, .int .u8 0, .int .u8 0, .int .u8 0, .int .u8 0] := rfl

theorem arr_size {t : List UInt8} (h : t.length ≤ 9) : (arr t).size = 9 := by simp [arr]; omega

theorem arr_at {t : List UInt8} {i : Nat} (h : i + t.length < 9) : (arr t)[i]? = some (.int .u8 0) := by
  simp only [arr, List.getElem?_toArray]
  rw [List.getElem?_append_left (by simp; omega), List.getElem?_replicate, if_pos (by omega)]

theorem arr_set {t : List UInt8} {b : UInt8} {i : Nat} (h : i + t.length + 1 = 9) : (arr t).setIfInBounds i (.int .u8 (b.toNat : Int)) = arr (b :: t) := by
  simp only [arr]
  rw [List.setIfInBounds_toArray]
  congr 1
  rw [List.set_append_left _ _ (by simp; omega)]
  have e1 : 9 - t.length = i + 1 := by omega
  have e2 : 9 - (b :: t).length = i := by simp; omega
  rw [e1, e2, List.replicate_succ', List.set_append_right _ _ (by simp)]
  simp

theorem arr_get {t : List UInt8} {i : Nat} (h : i < t.length) (_h9 : t.length ≤ 9) : (arr t)[9 - t.length + i]? = some (.int .u8 (t[i].toNat : Int)) := by
  simp only [arr, List.getElem?_toArray]
  rw [List.getElem?_append_right (by simp)]
  simp [List.getElem?_eq_getElem h]


theorem num_step1 {u k : Nat} (h : u < 256 ^ (8 - k)) (hk : k < 8) : u / 256 < 256 ^ (8 - (k + 1)) := by
  rw [show 8 - k = (8 - (k + 1)) + 1 by omega, Nat.pow_succ] at h
  exact Nat.div_lt_of_lt_mul (by omega)

theorem num_step2 {v u : Nat} {t : List UInt8} (h : digs v = digs u ++ t) (h0 : 0 < u) : digs v = digs (u / 256) ++ UInt8.ofNat u :: t := by
  rw [h, digs_pos h0]; simp

theorem num_step3 {u k : Nat} {t : List UInt8} (w : World) (T : TypeId) (h : t.length = k) (hk : k < 8) :
    w.alloc (.cells ((arr t).setIfInBounds (9 - k - 1) (.int .u8 ((u : Int) % 256))) T) = w.alloc (.cells (arr (UInt8.ofNat u :: t)) T) := by
  rw [← arr_set (t := t) (b := UInt8.ofNat u) (i := 9 - k - 1) (by omega)]
  have : (u : Int) % 256 = ((UInt8.ofNat u).toNat : Int) := by rw [UInt8.toNat_ofNat']; omega
  rw [this]

theorem slice_end (a : Addr) (k : Nat) (hk : k ≤ 8) (W : World) :
    (Instr.sliceAt 114 (.pointer (some a)) (some (.int .i64 (9 - (k : Int) - 1))) none none).run Tryz.prog W = .ok (.slice (some (a.add (8 - k))) (k + 1) (k + 1)) W := by
  have h9 : Program.arrayLen Tryz.prog 114 = 9 := by kernel_rfl
  rw [run_sliceAt_array_l W 114 a (by rw [h9]; kernel_rfl) .i64 _ (by omega) (by rw [h9]; omega), h9]
  have hs : (Go.sizeOf (Program.elem Tryz.prog 114)).run Tryz.prog W = .ok 1 W := by kernel_rfl
  rw [hs]
  simp only [Result.andThen, slicedAt]
  rw [if_neg (by omega), show (9 - (k : Int) - 1).toNat = 8 - k by omega, Nat.mul_one, show 9 - (8 - k) = k + 1 by omega]

/-- A count, and behind it some bytes. -/
def endS (k : Nat) (t : List UInt8) : ByteArray := ⟨(UInt8.ofNat k :: t).toArray⟩

theorem conv_end (w : World) (k : Nat) (t : List UInt8) (h : t.length = k) (hk : k ≤ 8) :
    (convert 75 9 (.slice (some ⟨w.heap.size, 8 - k, none⟩) (k + 1) (k + 1))).run Tryz.prog (w.alloc (.cells ((arr t).setIfInBounds (9 - k - 1) (.int .u8 (9 - (9 - (k : Int))))) 114))
      = .ok (.string (endS k t)) (w.alloc (.cells ((arr t).setIfInBounds (9 - k - 1) (.int .u8 (9 - (9 - (k : Int))))) 114)) := by
  have e : (9 - (9 - (k : Int))) = ((UInt8.ofNat k).toNat : Int) := by rw [UInt8.toNat_ofNat']; omega
  rw [e, arr_set (by omega)]
  have hl : (UInt8.ofNat k :: t).length = k + 1 := by simp [h]
  have := run_convert_bytes_back (P := Tryz.prog) (w.alloc (.cells (arr (UInt8.ofNat k :: t)) 114)) 75 9 5 ⟨w.heap.size, 8 - k, none⟩ (k + 1) (UInt8.ofNat k :: t) (by kernel_rfl) (by kernel_rfl) (by kernel_rfl)
    (fun j hj => by
      have e2 : (⟨w.heap.size, 8 - k, none⟩ : Addr).add j = ⟨w.heap.size, 8 - k + j, none⟩ := by unfold Addr.add; split <;> simp_all
      rw [e2, World.cell?_alloc_at _ _ _ _ rfl]
      have := arr_get (t := UInt8.ofNat k :: t) (i := j) hj (by omega)
      rw [hl] at this
      rw [show 8 - k = 9 - (k + 1) by omega]
      exact this)
  rw [hl] at this
  exact this

theorem num_end {v k : Nat} {t : List UInt8} (h : digs v = digs 0 ++ t) (hl : t.length = k) : numS v = endS k t := by
  rw [digs_zero, List.nil_append] at h
  simp only [numS, endS, numL]
  rw [h, hl]

set_option maxHeartbeats 400000 in
theorem num_any (v : Nat) (w : World) (hv : v < 18446744073709551616) :
    Calls Tryz.prog 34 #[.int .u64 v] w fun e w' => e = .returned (.string (numS v)) ∧ Below w.heap.size w w' := by
  have hv' : (v : Int) ≤ 18446744073709551615 := by omega
  go_enter Tryz.func34, Tryz.ntmps34
  go_wp2
  go_loopw [0, 4] (fun a i wr => ∃ (u k : Nat) (t : List UInt8), a = .int .u64 u ∧ i = .int .i64 (9 - k) ∧ t.length = k ∧ k ≤ 8 ∧ u < 256 ^ (8 - k) ∧ digs v = digs u ++ t ∧ wr = w.alloc (.cells (arr t) 114)) (fun a _ _ => (intOf a).toNat)
  case atStart => exact ⟨v, 0, [], rfl, rfl, rfl, by omega, by rw [Nat.sub_zero, pow8]; exact hv, by simp, rfl⟩
  case round =>
    obtain ⟨u, k, t, rfl, rfl, hl, hk, hu, hd, rfl⟩ := hrel
    have HL := Lib.hid hl; clear hl
    have HD := Lib.hid hd; clear hd
    have HU := Lib.hid hu
    have hub : (u : Int) ≤ 18446744073709551615 := by
      have := Nat.pow_le_pow_right (show 0 < 256 by decide) (show 8 - k ≤ 8 by omega)
      rw [pow8] at this
      omega
    clear hu
    by_cases h0 : 0 < u
    · have hk8 : k < 8 := by
        rcases Nat.lt_or_ge k 8 with h | h
        · exact h
        · have h1 := HU.out
          have : k = 8 := by omega
          subst this
          simp at h1
          omega
      have hat := arr_at (t := t) (i := 9 - k - 1) (by rw [HL.out]; omega)
      go_wp2
      go_roundw
      case rel => exact ⟨u / 256, k + 1, UInt8.ofNat u :: t, by go_num, by go_num, by rw [List.length_cons, HL.out], by omega, num_step1 HU.out hk8, num_step2 HD.out h0, num_step3 w _ HL.out (by omega)⟩
      case measure => simp [intOf]; omega
    · have hu0 : u = 0 := by omega
      subst hu0
      have hat := arr_at (t := t) (i := 9 - k - 1) (by rw [HL.out]; omega)
      have hsl := slice_end ⟨w.heap.size, 0, none⟩ k hk
      have hcv := conv_end w k t HL.out hk
      go_wp2
      go_ret
      exact ⟨ret_str (num_end HD.out HL.out).symm, ((Below.refl _ _).alloc (Nat.le_refl _) _)⟩

theorem sgnN_lt {v : Int} (h : -9223372036854775808 ≤ v ∧ v ≤ 9223372036854775807) : sgnN v < 18446744073709551616 := by unfold sgnN; split <;> omega


theorem not_i64 {v : Int} (h1 : -9223372036854775808 ≤ v) (h2 : v ≤ 9223372036854775807) : bits .xor .i64 (-1) v = -v - 1 := by
  show IntKind.i64.wrap ((BitVec.ofInt 64 (-1) ^^^ BitVec.ofInt 64 v).toNat : Int) = _
  have e : BitVec.ofInt 64 (-1) = BitVec.allOnes 64 := by decide
  rw [e, BitVec.allOnes_xor, BitVec.toNat_not, BitVec.toNat_ofInt, IntKind.wrap_i64]
  omega

theorem or_one {x : Int} (h0 : 0 ≤ x) (h1 : x < 18446744073709551616) (he : x % 2 = 0) : bits .or .u64 x 1 = x + 1 := by
  rw [u64_or x 1 h0 h1 (by omega) (by omega), nat_join 1 _ _ (by omega) (by decide)]
  omega

theorem sgnN_neg {v : Int} (h1 : -9223372036854775808 ≤ v) (h2 : v < 0) :
    (bits BinOp.or IntKind.u64 (IntKind.u64.wrap (IntKind.u64.wrap (bits BinOp.xor IntKind.i64 (-1) v) * 2)) 1) = (sgnN v : Int) := by
  rw [not_i64 h1 (by omega)]
  have w1 : IntKind.u64.wrap (-v - 1) = -v - 1 := by rw [IntKind.wrap_u64]; omega
  have w2 : IntKind.u64.wrap ((-v - 1) * 2) = (-v - 1) * 2 := by rw [IntKind.wrap_u64]; omega
  rw [w1, w2, or_one (by omega) (by omega) (by omega)]
  unfold sgnN
  rw [if_pos h2]
  omega

theorem sgnN_pos {v : Int} (h : 0 ≤ v) : v * 2 = (sgnN v : Int) := by
  unfold sgnN
  rw [if_neg (by omega)]
  omega

theorem below_then {w a b : World} (h : Below w.heap.size w a) (k : Below a.heap.size a b) : Below w.heap.size w b := h.trans (k.mono h.size)
theorem below_new {w a : World} (h : Below w.heap.size w a) (o : Obj) : Below w.heap.size w (a.alloc o) := h.alloc h.size o

end Go.Proofs.YthbdjgebpjffgaaGreatDoor
