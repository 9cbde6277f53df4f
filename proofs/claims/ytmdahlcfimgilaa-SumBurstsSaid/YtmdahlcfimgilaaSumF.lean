/-
  The walk of the law SumBursts: four bytes that follow one another, laid over with others that are not all 0, have another sum.
  Conditions: the numbers fit their kinds; a text is no longer than Go allows.
-/
import Derived.Test.YtmdahlcfimgilaaSumE
namespace Go.Proofs.Ytmdahlcfimgilaa
open Go.RowKit

/-- A row of bytes, and behind it some zeros. -/
def row (l : List UInt8) (n : Nat) : Array Value := (l.map (fun b => Value.int .u8 (b.toNat : Int)) ++ List.replicate n (Value.int .u8 0)).toArray
/-- Four bytes among others. -/
def mid (p q : List UInt8) (x0 x1 x2 x3 : UInt8) : List UInt8 := p ++ [x0, x1, x2, x3] ++ q

theorem bytesRow_eq (s : ByteArray) (c : Nat) : bytesRow s c = row s.data.toList (c - s.size) := by
  apply Array.toList_inj.1
  simp [bytesRow, row]

theorem row_at {l : List UInt8} {n j : Nat} {b : UInt8} (h : l[j]? = some b) : (row l n)[j]? = some (.int .u8 (b.toNat : Int)) := by
  have hj : j < l.length := by
    rcases Nat.lt_or_ge j l.length with h1 | h1
    · exact h1
    · rw [List.getElem?_eq_none h1] at h; cases h
  simp only [row, List.getElem?_toArray]
  rw [List.getElem?_append_left (by simpa using hj), List.getElem?_map, h]
  rfl

theorem row_set {l : List UInt8} {n j : Nat} {b : UInt8} (h : j < l.length) : (row l n).setIfInBounds j (.int .u8 (b.toNat : Int)) = row (l.set j b) n := by
  simp only [row]
  rw [List.setIfInBounds_toArray]
  congr 1
  rw [List.set_append_left _ _ (by simpa using h), List.map_set]

variable (p q : List UInt8) (x0 x1 x2 x3 y : UInt8)
theorem mid_len : (mid p q x0 x1 x2 x3).length = p.length + 4 + q.length := by simp [mid]; omega
theorem mid_at0 : (mid p q x0 x1 x2 x3)[p.length]? = some x0 := by simp [mid]
theorem mid_at1 : (mid p q x0 x1 x2 x3)[p.length + 1]? = some x1 := by simp [mid]
theorem mid_at2 : (mid p q x0 x1 x2 x3)[p.length + 2]? = some x2 := by simp [mid]
theorem mid_at3 : (mid p q x0 x1 x2 x3)[p.length + 3]? = some x3 := by simp [mid]
theorem mid_set0 : (mid p q x0 x1 x2 x3).set p.length y = mid p q y x1 x2 x3 := by simp [mid]
theorem mid_set1 : (mid p q x0 x1 x2 x3).set (p.length + 1) y = mid p q x0 y x2 x3 := by simp [mid]
theorem mid_set2 : (mid p q x0 x1 x2 x3).set (p.length + 2) y = mid p q x0 x1 y x3 := by simp [mid]
theorem mid_set3 : (mid p q x0 x1 x2 x3).set (p.length + 3) y = mid p q x0 x1 x2 y := by simp [mid]

theorem mid_of (l : List UInt8) (k : Nat) (h : k + 4 ≤ l.length) : ∃ p q x0 x1 x2 x3, p.length = k ∧ l = mid p q x0 x1 x2 x3 := by
  refine ⟨l.take k, l.drop (k + 4), l[k], l[k + 1], l[k + 2], l[k + 3], by simp; omega, ?_⟩
  unfold mid
  have e : l.drop k = l[k] :: l[k + 1] :: l[k + 2] :: l[k + 3] :: l.drop (k + 4) := by
    rw [List.drop_eq_getElem_cons (by omega), List.drop_eq_getElem_cons (by omega), List.drop_eq_getElem_cons (by omega), List.drop_eq_getElem_cons (by omega)]
  have := List.take_append_drop k l
  rw [e] at this
  rw [List.append_assoc]
  exact this.symm

theorem xor_u8 (b : UInt8) (v : Nat) : bits .xor .u8 (b.toNat : Int) ((v : Int) % 256) = ((b ^^^ UInt8.ofNat v).toNat : Int) := by
  have hb := UInt8.toNat_lt b
  have := u8_xor_nat b.toNat (v % 256) (by omega) (by omega)
  rw [UInt8.toNat_xor, UInt8.toNat_ofNat']
  exact this

theorem xor_ne {b c : UInt8} (h : b ^^^ c = b) : c = 0 := by
  have h2 : b ^^^ (b ^^^ c) = b ^^^ b := by rw [h]
  simpa [← UInt8.xor_assoc] using h2

theorem u8_zero {v : Nat} (h : UInt8.ofNat v = 0) : v % 256 = 0 := by
  have := congrArg UInt8.toNat h
  simpa [UInt8.toNat_ofNat'] using this

/-- TOLD FOR SURE. -/
theorem mid_sum {o : Nat} (h0 : o ≠ 0) (h : o < 4294967296) : ofC (mid p q (x0 ^^^ UInt8.ofNat o) (x1 ^^^ UInt8.ofNat (o / 256)) (x2 ^^^ UInt8.ofNat (o / 65536)) (x3 ^^^ UInt8.ofNat (o / 16777216))) ≠ ofC (mid p q x0 x1 x2 x3) := by
  intro e
  obtain ⟨e0, e1, e2, e3⟩ := burst_of p q _ _ _ _ _ _ _ _ e
  have := u8_zero (xor_ne e0)
  have := u8_zero (xor_ne e1)
  have := u8_zero (xor_ne e2)
  have := u8_zero (xor_ne e3)
  omega

theorem fours_inj {a b : Nat} (ha : a < 4294967296) (hb : b < 4294967296) (h : fours a = fours b) : a = b := by
  simp only [fours, List.cons.injEq] at h
  obtain ⟨h0, h1, h2, h3, _⟩ := h
  have h0 := congrArg UInt8.toNat h0
  have h1 := congrArg UInt8.toNat h1
  have h2 := congrArg UInt8.toNat h2
  have h3 := congrArg UInt8.toNat h3
  simp only [UInt8.toNat_ofNat'] at h0 h1 h2 h3
  omega

/-- Another sum behind a text: it does not end with its own. -/
theorem other_ends {t : ByteArray} {n : Nat} (hn : n < 4294967296) (h : ofC t.data.toList ≠ n) : endsB (t ++ foursS n) = false := by
  rw [endsB_yes (m := t.size) (by rw [ByteArray.size_append, foursS_size])]
  unfold tailB
  have e0 : (t ++ foursS n).data.toList = t.data.toList ++ fours n := by
    rw [ByteArray.data_append, Array.toList_append]
    rfl
  have e1 : (t ++ foursS n).data.toList.take t.size = t.data.toList := by
    rw [e0, List.take_left' (by simp)]
  have e2 : (t ++ foursS n).extract t.size (t ++ foursS n).size = foursS n := by
    apply ByteArray.ext
    apply Array.toList_inj.1
    rw [ByteArray.data_extract, Array.toList_extract, e0, ByteArray.size_append, foursS_size]
    simp [List.extract, foursS, fours]
  rw [e1, e2]
  have hne : (foursS n).toList ≠ (foursS (ofC t.data.toList)).toList := by
    rw [ba_toList, ba_toList]
    intro e
    exact h (fours_inj (ofC_lt _) hn e.symm)
  simpa using hne

theorem conv_row (w : World) (l : List UInt8) (n c g len : Nat) (M : Nat × Nat) (hg : g = w.heap.size) (hl : l.length = len) :
    (convert 32 9 (.slice (some ⟨g, 0, none⟩) len c)).run Try.prog (w.alloc (.cells (row l n) 5 M)).drew = .ok (.string ⟨l.toArray⟩) (w.alloc (.cells (row l n) 5 M)).drew := by
  subst hg hl
  exact run_convert_bytes_back (P := Try.prog) (w.alloc (.cells (row l n) 5 M)).drew 32 9 5 ⟨w.heap.size, 0, none⟩ c l (by kernel_rfl) (by kernel_rfl) (by kernel_rfl)
    (fun j hj => by
      have e2 : (⟨w.heap.size, 0, none⟩ : Addr).add j = ⟨w.heap.size, j, none⟩ := by unfold Addr.add; split <;> simp_all
      rw [e2]
      exact (cell_of_row _ w.heap.size j (row l n) 5 M (heap_alloc_new w _)).trans (row_at (List.getElem?_eq_getElem hj)))
end Go.Proofs.Ytmdahlcfimgilaa
