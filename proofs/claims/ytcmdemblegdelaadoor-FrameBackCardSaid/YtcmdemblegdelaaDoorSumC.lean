/-
  What Bytes, Seal and Ends of package sum answer, and the document's own, whatever they are given.
  Conditions: the numbers fit their kinds; a text is no longer than Go allows.
-/
import Derived.Test.YtcmdemblegdelaaDoorSumB
import Derived.Laws.IdiomStrings
import Derived.Below
import Derived.Deep.QuietTactic
import Derived.BigQuiet
import Derived.Deep.RegionHeld3
namespace Go.Proofs.YtcmdemblegdelaaDoor
open Go.RowKit
/-- The four bytes of a sum, the least one first. -/
def fours (n : Nat) : List UInt8 := [UInt8.ofNat n, UInt8.ofNat (n / 256), UInt8.ofNat (n / 65536), UInt8.ofNat (n / 16777216)]
/-- The same, as a text. -/
def foursS (n : Nat) : ByteArray := ⟨(fours n).toArray⟩
/-- Four cells: so many bytes of a sum, and zeros. -/
def ar (n k : Nat) : Array Value := #[.int .u8 (if 0 < k then ((UInt8.ofNat n).toNat : Int) else 0), .int .u8 (if 1 < k then ((UInt8.ofNat (n / 256)).toNat : Int) else 0), .int .u8 (if 2 < k then ((UInt8.ofNat (n / 65536)).toNat : Int) else 0), .int .u8 (if 3 < k then ((UInt8.ofNat (n / 16777216)).toNat : Int) else 0)]

theorem ar4 (n : Nat) : ar n 4 = ((fours n).map fun b => Value.int .u8 (b.toNat : Int)).toArray := rfl

theorem ar_set0 (n : Nat) : (ar n 0).setIfInBounds 0 (.int .u8 ((n : Int) % 256)) = ar n 1 := by
  have e : (n : Int) % 256 = ((UInt8.ofNat n).toNat : Int) := by rw [UInt8.toNat_ofNat']; omega
  rw [e]
  rfl
theorem ar_set1 (n : Nat) : (ar n 1).setIfInBounds 1 (.int .u8 ((n : Int) / 256 % 256)) = ar n 2 := by
  have e : (n : Int) / 256 % 256 = ((UInt8.ofNat (n / 256)).toNat : Int) := by rw [UInt8.toNat_ofNat']; omega
  rw [e]
  rfl
theorem ar_set2 (n : Nat) : (ar n 2).setIfInBounds 2 (.int .u8 ((n : Int) / 65536 % 256)) = ar n 3 := by
  have e : (n : Int) / 65536 % 256 = ((UInt8.ofNat (n / 65536)).toNat : Int) := by rw [UInt8.toNat_ofNat']; omega
  rw [e]
  rfl
theorem ar_set3 (n : Nat) (h : n < 4294967296) : (ar n 3).setIfInBounds 3 (.int .u8 ((n : Int) / 16777216)) = ar n 4 := by
  have e : (n : Int) / 16777216 = ((UInt8.ofNat (n / 16777216)).toNat : Int) := by rw [UInt8.toNat_ofNat']; omega
  rw [e]
  rfl

theorem conv_four (w : World) (n : Nat) (T : TypeId) :
    (convert 82 9 (.slice (some ⟨w.heap.size, 0, none⟩) 4 4)).run Tryd.prog (w.alloc (.cells (ar n 4) T)) = .ok (.string (foursS n)) (w.alloc (.cells (ar n 4) T)) := by
  exact run_convert_bytes_back (P := Tryd.prog) (w.alloc (.cells (ar n 4) T)) 82 9 5 ⟨w.heap.size, 0, none⟩ 4 (fours n) (by kernel_rfl) (by kernel_rfl) (by kernel_rfl)
    (fun j hj => by
      have e2 : (⟨w.heap.size, 0, none⟩ : Addr).add j = ⟨w.heap.size, j, none⟩ := by unfold Addr.add; split <;> simp_all
      rw [e2, World.cell?_alloc_at _ _ _ _ rfl, ar4]
      simp only [List.getElem?_toArray, List.getElem?_map, List.getElem?_eq_getElem hj]
      rfl)

set_option maxHeartbeats 400000 in
theorem bytes_any (n : Nat) (w : World) (hn : n < 4294967296) :
    Calls Tryd.prog 40 #[.int .u32 n] w fun e w' => e = .returned (.string (foursS n)) ∧ Below w.heap.size w w' := by
  have hv' : (n : Int) ≤ 4294967295 := by omega
  go_enter Tryd.func40, Tryd.ntmps40
  go_wp2
  go_loopw [5] (fun i wr => ∃ (k : Nat), i = .int .i64 k ∧ k ≤ 4 ∧ wr = w.alloc (.cells (ar n k) 107)) (fun i _ => 4 - (intOf i).toNat)
  case atStart => exact ⟨0, rfl, by omega, rfl⟩
  case round =>
    obtain ⟨k, rfl, hk, rfl⟩ := hrel
    by_cases h0 : k < 4
    · have hk : k = 0 ∨ k = 1 ∨ k = 2 ∨ k = 3 := by omega
      rcases hk with rfl | rfl | rfl | rfl
      · go_wp2
        go_roundw
        case rel => exact ⟨1, rfl, by omega, by rw [ar_set0]⟩
        case measure => simp [intOf]
      · go_wp2
        go_roundw
        case rel => exact ⟨2, rfl, by omega, by rw [ar_set1]⟩
        case measure => simp [intOf]
      · go_wp2
        go_roundw
        case rel => exact ⟨3, rfl, by omega, by rw [ar_set2]⟩
        case measure => simp [intOf]
      · go_wp2
        go_roundw
        case rel => exact ⟨4, rfl, by omega, by rw [ar_set3 n hn]⟩
        case measure => simp [intOf]
    · obtain rfl : k = 4 := by omega
      have hcv := conv_four w n 107
      go_wp2
      go_ret
      exact ⟨rfl, ((Below.refl _ _).alloc (Nat.le_refl _) _)⟩

theorem ar_lit (n : Nat) (h : n < 4294967296) : ar n 4 = #[.int .u8 ((n : Int) % 256), .int .u8 ((n : Int) / 256 % 256), .int .u8 ((n : Int) / 65536 % 256), .int .u8 ((n : Int) / 16777216)] := by
  have e0 : (n : Int) % 256 = ((UInt8.ofNat n).toNat : Int) := by rw [UInt8.toNat_ofNat']; omega
  have e1 : (n : Int) / 256 % 256 = ((UInt8.ofNat (n / 256)).toNat : Int) := by rw [UInt8.toNat_ofNat']; omega
  have e2 : (n : Int) / 65536 % 256 = ((UInt8.ofNat (n / 65536)).toNat : Int) := by rw [UInt8.toNat_ofNat']; omega
  have e3 : (n : Int) / 16777216 = ((UInt8.ofNat (n / 16777216)).toNat : Int) := by rw [UInt8.toNat_ofNat']; omega
  rw [e0, e1, e2, e3]
  rfl

set_option maxHeartbeats 400000 in
theorem rbytes_any (n : Nat) (w : World) (hn : n < 4294967296) :
    Calls Tryd.prog 42 #[.int .u32 n] w fun e w' => e = .returned (.string (foursS n)) ∧ Below w.heap.size w w' := by
  have hv' : (n : Int) ≤ 4294967295 := by omega
  have hcv := conv_four w n 5
  rw [ar_lit n hn] at hcv
  go_enter Tryd.func42, Tryd.ntmps42
  go_wp2
  go_ret
  exact ⟨rfl, ((Below.refl _ _).alloc (Nat.le_refl _) _)⟩

theorem ofC_lt (l : List UInt8) : ofC l < 4294967296 := moreC_lt 0 l

/-- A text sealed. -/
def sealS (s : ByteArray) : ByteArray := s ++ foursS (ofC s.data.toList)

theorem foursS_size (n : Nat) : (foursS n).size = 4 := rfl

theorem seal_any (s : ByteArray) (w : World) (hs : s.size ≤ 1048576) :
    Calls Tryd.prog 20 #[.string s] w fun e w' => e = .returned (.string (sealS s)) ∧ Below w.heap.size w w' := by
  have HC := Lib.hid (ofC_lt s.data.toList)
  have hadd : ∀ W, (Op.stringOp .add s (foursS (ofC s.data.toList))).run Tryd.prog W = .ok (.string (sealS s)) W := fun W => run_string_add_sum W _ _ (by rw [foursS_size]; omega)
  go_enter Tryd.func20, Tryd.ntmps20
  go_wp2_with fail
  refine (of_any _ _ (by unfold maxLen; omega)).mono ?_
  rintro e w1 ⟨rfl, rfl⟩
  go_wp2_with fail
  refine (bytes_any _ _ HC.out).mono ?_
  rintro e w1 ⟨rfl, hb⟩
  go_wp2
  go_ret
  exact ⟨rfl, hb⟩

theorem rseal_any (s : ByteArray) (w : World) (hs : s.size ≤ 1048576) :
    Calls Tryd.prog 23 #[.string s] w fun e w' => e = .returned (.string (sealS s)) ∧ Below w.heap.size w w' := by
  have HC := Lib.hid (ofC_lt s.data.toList)
  have hadd : ∀ W, (Op.stringOp .add s (foursS (ofC s.data.toList))).run Tryd.prog W = .ok (.string (sealS s)) W := fun W => run_string_add_sum W _ _ (by rw [foursS_size]; omega)
  go_enter Tryd.func23, Tryd.ntmps23
  go_wp2_with fail
  refine (rof_any _ _ (by unfold maxLen; omega)).mono ?_
  rintro e w1 ⟨rfl, rfl⟩
  go_wp2_with fail
  refine (rbytes_any _ _ HC.out).mono ?_
  rintro e w1 ⟨rfl, hb⟩
  go_wp2
  go_ret
  exact ⟨rfl, hb⟩

theorem below_then {w a b : World} (h : Below w.heap.size w a) (k : Below a.heap.size a b) : Below w.heap.size w b := h.trans (k.mono h.size)

/-- Nothing that lay in a world has turned. -/
def Bel (w w' : World) : Prop := Below w.heap.size w w'
theorem Bel.same (w : World) : Bel w w := Below.refl _ _
theorem Bel.drew {w w' : World} (h : Bel w w') : Bel w w'.drew := Below.drew h
theorem Bel.bel {w w' : World} (h : Bel w w') : Below w.heap.size w w' := h

theorem of_B {w w' : World} {s : ByteArray} (h : Bel w w') (hs : s.size ≤ maxLen) :
    Calls Tryd.prog 41 #[.string s] w' fun e w2 => e = .returned (.int .u32 (ofC s.data.toList)) ∧ Bel w w2 :=
  (of_any s w' hs).mono fun _ _ ⟨he, hw⟩ => ⟨he, hw ▸ h⟩
theorem rof_B {w w' : World} {s : ByteArray} (h : Bel w w') (hs : s.size ≤ maxLen) :
    Calls Tryd.prog 43 #[.string s] w' fun e w2 => e = .returned (.int .u32 (ofC s.data.toList)) ∧ Bel w w2 :=
  (rof_any s w' hs).mono fun _ _ ⟨he, hw⟩ => ⟨he, hw ▸ h⟩
theorem bytes_B {w w' : World} {n : Nat} (h : Bel w w') (hn : n < 4294967296) :
    Calls Tryd.prog 40 #[.int .u32 n] w' fun e w2 => e = .returned (.string (foursS n)) ∧ Bel w w2 :=
  (bytes_any n w' hn).mono fun _ _ ⟨he, hb⟩ => ⟨he, below_then h hb⟩
theorem rbytes_B {w w' : World} {n : Nat} (h : Bel w w') (hn : n < 4294967296) :
    Calls Tryd.prog 42 #[.int .u32 n] w' fun e w2 => e = .returned (.string (foursS n)) ∧ Bel w w2 :=
  (rbytes_any n w' hn).mono fun _ _ ⟨he, hb⟩ => ⟨he, below_then h hb⟩

/-- Whether a text ends with the sum of its first m bytes. -/
def tailB (s : ByteArray) (m : Nat) : Bool := (s.extract m s.size).toList == (foursS (ofC (s.data.toList.take m))).toList
/-- Whether a text ends with its sum. -/
def endsB (s : ByteArray) : Bool := decide (4 ≤ s.size) && tailB s (s.size - 4)

theorem endsB_yes {s : ByteArray} {m : Nat} (h : s.size = m + 4) : endsB s = tailB s m := by
  unfold endsB
  rw [h, show m + 4 - 4 = m by omega]
  simp
theorem endsB_no {s : ByteArray} (h : s.size < 4) : endsB s = false := by
  unfold endsB
  rw [show decide (4 ≤ s.size) = false by simp; omega]
  rfl

theorem ret_bool {a b : Bool} (h : a = b) : Ending.returned (.bool a) = .returned (.bool b) := by rw [h]

theorem ext_small {s : ByteArray} (hs : s.size ≤ 1048576) (a b : Nat) : (s.extract a b).size ≤ maxLen := by
  unfold maxLen
  rw [ByteArray.size_extract]
  omega

set_option maxHeartbeats 400000 in
theorem ends_any (s : ByteArray) (w : World) (hs : s.size ≤ 1048576) :
    Calls Tryd.prog 53 #[.string s] w fun e w' => e = .returned (.bool (endsB s)) ∧ Below w.heap.size w w' := by
  by_cases h4 : 4 ≤ s.size
  · obtain ⟨m, h5⟩ : ∃ m : Nat, s.size = m + 4 := ⟨s.size - 4, by omega⟩
    have HE := Lib.hid (endsB_yes h5)
    have hm : (s.size : Int) - 4 = m := by omega
    have hm1 : (0 : Int) ≤ m := by omega
    have hm2 : (m : Int) ≤ s.size := by omega
    have hm3 : m ≤ s.size := by omega
    have hS := Bel.same w
    clear h4 h5
    go_enter Tryd.func53, Tryd.ntmps53
    go_wp2
    go_region_held3 (fun w' => Bel w w') (first | assumption | exact Bel.drew (by assumption)) (first | (go_at_call 41; refine (of_B (w := w) (by first | assumption | exact Bel.drew (by assumption)) (ext_small hs _ _)).mono ?_; rintro e w1 ⟨rfl, hb⟩) | (go_at_call 40; refine (bytes_B (w := w) (by first | assumption | exact Bel.drew (by assumption)) (ofC_lt _)).mono ?_; rintro e w1 ⟨rfl, hb⟩))
    go_wp2
    go_ret
    exact ⟨ret_bool HE.out.symm, by first | exact Bel.bel (by assumption) | exact Bel.bel (Bel.drew (by assumption))⟩
  · have h5 : s.size < 4 := by omega
    have HE := Lib.hid (endsB_no h5)
    have hd : decide ((4 : Int) ≤ s.size) = false := by simp; omega
    clear h4
    go_enter Tryd.func53, Tryd.ntmps53
    go_wp2
    go_quiet (fail)
    go_wp2
    go_ret
    exact ⟨ret_bool HE.out.symm, below_drewN (Below.refl _ _) _⟩

set_option maxHeartbeats 400000 in
theorem rends_any (s : ByteArray) (w : World) (hs : s.size ≤ 1048576) :
    Calls Tryd.prog 37 #[.string s] w fun e w' => e = .returned (.bool (endsB s)) ∧ Below w.heap.size w w' := by
  by_cases h4 : 4 ≤ s.size
  · obtain ⟨m, h5⟩ : ∃ m : Nat, s.size = m + 4 := ⟨s.size - 4, by omega⟩
    have HE := Lib.hid (endsB_yes h5)
    have hm : (s.size : Int) - 4 = m := by omega
    have hm1 : (0 : Int) ≤ m := by omega
    have hm2 : (m : Int) ≤ s.size := by omega
    have hm3 : m ≤ s.size := by omega
    have hS := Bel.same w
    clear h4 h5
    go_enter Tryd.func37, Tryd.ntmps37
    go_wp2
    go_region_held3 (fun w' => Bel w w') (first | assumption | exact Bel.drew (by assumption)) (first | (go_at_call 43; refine (rof_B (w := w) (by first | assumption | exact Bel.drew (by assumption)) (ext_small hs _ _)).mono ?_; rintro e w1 ⟨rfl, hb⟩) | (go_at_call 42; refine (rbytes_B (w := w) (by first | assumption | exact Bel.drew (by assumption)) (ofC_lt _)).mono ?_; rintro e w1 ⟨rfl, hb⟩))
    go_wp2
    go_ret
    exact ⟨ret_bool HE.out.symm, by first | exact Bel.bel (by assumption) | exact Bel.bel (Bel.drew (by assumption))⟩
  · have h5 : s.size < 4 := by omega
    have HE := Lib.hid (endsB_no h5)
    have hd : decide ((4 : Int) ≤ s.size) = false := by simp; omega
    clear h4
    go_enter Tryd.func37, Tryd.ntmps37
    go_wp2
    go_quiet (fail)
    go_wp2
    go_ret
    exact ⟨ret_bool HE.out.symm, below_drewN (Below.refl _ _) _⟩

end Go.Proofs.YtcmdemblegdelaaDoor
