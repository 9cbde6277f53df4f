/-
  The walk of the law SumParts: a text's sum in two parts; what is sealed ends with its sum.
  Conditions: the number fits its kind; a text is no longer than Go allows.
-/
import Derived.Test.YtmdahlcfimgilaaSumD
import Derived.IntWalk
namespace Go.Proofs.Ytmdahlcfimgilaa
open Go.RowKit

theorem ba_toList (s : ByteArray) : s.toList = s.data.toList := by
  first | simp | exact ByteArray.toList_eq s

theorem seal_data (s : ByteArray) : (sealS s).data.toList = s.data.toList ++ fours (ofC s.data.toList) := by
  unfold sealS
  rw [ByteArray.data_append, Array.toList_append]
  rfl

theorem seal_size (s : ByteArray) : (sealS s).size = s.size + 4 := by
  unfold sealS
  rw [ByteArray.size_append, foursS_size]

theorem seal_head (s : ByteArray) : (sealS s).extract 0 s.size = s := by
  apply ByteArray.ext
  apply Array.toList_inj.1
  rw [ByteArray.data_extract, Array.toList_extract, seal_data]
  simp [List.extract]

theorem seal_ends (s : ByteArray) : endsB (sealS s) = true := by
  rw [endsB_yes (seal_size s)]
  unfold tailB
  have e1 : (sealS s).data.toList.take s.size = s.data.toList := by
    rw [seal_data, List.take_left' (by simp)]
  have e2 : (sealS s).extract s.size (sealS s).size = foursS (ofC s.data.toList) := by
    apply ByteArray.ext
    apply Array.toList_inj.1
    rw [ByteArray.data_extract, Array.toList_extract, seal_data, seal_size]
    simp [List.extract, foursS, fours]
  rw [e1, e2]
  simp

theorem cut_sum (s : ByteArray) (k : Nat) : moreC (ofC (s.data.toList.take k)) (s.extract k s.size).data.toList = ofC s.data.toList := by
  unfold ofC
  rw [moreC_append, ByteArray.data_extract, Array.toList_extract]
  congr 1
  rw [List.extract, List.take_of_length_le (i := s.size - k) (by simp), List.take_append_drop]

theorem cut_B {w w' : World} {s : ByteArray} {k : Nat} (h : Bel w w') (hs : s.size ≤ 1048576) :
    Calls Try.prog 8 #[.int .u32 (ofC (s.data.toList.take k)), .string (s.extract k s.size)] w' fun e w2 => e = .returned (.int .u32 (ofC s.data.toList)) ∧ Bel w w2 :=
  (more_any _ _ w' (ofC_lt _) (ext_small hs _ _)).mono fun _ _ ⟨he, hw⟩ => ⟨by rw [he, cut_sum s k], hw ▸ h⟩
theorem sealed_B {w w' : World} {s : ByteArray} (h : Bel w w') (hs : s.size ≤ 3000) :
    Calls Try.prog 12 #[.string (sealS s)] w' fun e w2 => e = .returned (.bool true) ∧ Bel w w2 :=
  (ends_any (sealS s) w' (by rw [seal_size]; omega)).mono fun _ _ ⟨he, hb⟩ => ⟨by rw [he, seal_ends], below_then h hb⟩
theorem Bel.of {w w' : World} (h : Below w.heap.size w w') : Bel w w' := h

set_option maxHeartbeats 1000000 in
theorem sumParts_walk0 (s : ByteArray) (a : Int) (w : World) (h0 : s.size ≤ maxLen) :
    Calls Try.prog 4 #[.string s, .int .i64 a] w fun e w' => e = .returned (.bool true) ∧ Below w.heap.size w w' := by
  have h0' := h0
  unfold maxLen at h0
  by_cases ht : 3000 < s.size
  · clear h0'
    go_enter Try.func4, Try.ntmps4
    go_wp2_with fail
    refine (works_any _).mono ?_
    rintro e w1 ⟨rfl, b1⟩
    go_wp2
    go_ret
    exact ⟨rfl, b1⟩
  · have hs : s.size ≤ 1048576 := by omega
    have hs3 : s.size ≤ 3000 := by omega
    obtain ⟨x, hx⟩ : ∃ x : Nat, IntKind.u64.wrap a = x := ⟨(IntKind.u64.wrap a).toNat, by rw [IntKind.wrap_u64]; omega⟩
    have m1 := Int.emod_nonneg (x : Int) (show (s.size : Int) + 1 ≠ 0 by omega)
    have m2 := Int.emod_lt_of_pos (x : Int) (show (0 : Int) < (s.size : Int) + 1 by omega)
    obtain ⟨k, hk⟩ : ∃ k : Nat, (x : Int) % (s.size + 1) = k := ⟨((x : Int) % (s.size + 1)).toNat, by omega⟩
    have hks : k ≤ s.size := by omega
    have hk0 : (0 : Int) ≤ k := by omega
    have hk1 : (k : Int) ≤ s.size := by omega
    clear m1 m2
    have hxb : (x : Int) ≤ 18446744073709551615 := by rw [← hx, IntKind.wrap_u64]; omega
    go_enter Try.func4, Try.ntmps4
    go_wp2_with fail
    refine (works_any _).mono ?_
    rintro e w1 ⟨rfl, b1⟩
    go_wp2_with fail
    refine (seal_any _ _ hs).mono ?_
    rintro e w2 ⟨rfl, b2⟩
    have g2 := Bel.of (below_then b1 b2)
    clear b1 b2
    go_wp2
    have hz : (sealS s).size = s.size + 4 := seal_size s
    have hz1 : (0 : Int) ≤ s.size := by omega
    have hz2 : (s.size : Int) ≤ (s.size : Int) + 4 := by omega
    have hh := seal_head s
    have hw4 : IntKind.i64.wrap ((s.size : Int) + 4) = s.size + 4 := IntWalk.i64_in _ (by omega)
    go_region_held3 (fun w' => Bel w w') (first | assumption | exact Bel.drew (by assumption)) (first | (go_at_call 6; refine (of_B (w := w) (by first | assumption | exact Bel.drew (by assumption)) (by first | assumption | exact ext_small hs _ _)).mono ?_; rintro e w1 ⟨rfl, hb⟩) | (go_at_call 8; refine (cut_B (w := w) (by first | assumption | exact Bel.drew (by assumption)) hs).mono ?_; rintro e w1 ⟨rfl, hb⟩) | (go_at_call 12; refine (sealed_B (w := w) (by first | assumption | exact Bel.drew (by assumption)) hs3).mono ?_; rintro e w1 ⟨rfl, hb⟩))
    go_wp2
    go_ret
    exact ⟨rfl, by first | exact Bel.bel (by assumption) | exact Bel.bel (Bel.drew (by assumption))⟩

theorem sumParts_walk (s : ByteArray) (a : Int) (w : World) (h0 : s.size ≤ maxLen) (_h1 : (Lit.int .i64 a).wf = true) :
    Calls Try.prog 4 #[.string s, .int .i64 a] w fun e w' => e = .returned (.bool true) ∧ Below w.heap.size w w' :=
  sumParts_walk0 s a w h0
end Go.Proofs.Ytmdahlcfimgilaa
