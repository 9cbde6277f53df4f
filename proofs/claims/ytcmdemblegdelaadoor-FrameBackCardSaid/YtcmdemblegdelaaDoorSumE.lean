/-
  The walk of the law SumParts: a text's sum in two parts; what is sealed ends with its sum.
  Conditions: the number fits its kind; a text is no longer than Go allows.
-/
import Derived.Test.YtcmdemblegdelaaDoorSumD
import Derived.IntWalk
namespace Go.Proofs.YtcmdemblegdelaaDoor
open Go.RowKit

theorem ba_toList (s : ByteArray) : s.toList = s.data.toList := by
  first | simp | exact ByteArray.toList_eq s

theorem seal_data (s : ByteArray) : (sealS s).data.toList = s.data.toList ++ fours (ofC s.data.toList) := by
  unfold sealS
  rw [ByteArray.data_append, Array.toList_append]
  rfl

theorem seal_size (s : ByteArray) : (sealS s).size = s.size + 4 := by
  unfold sealS
  rw [ByteArray.size_append, foursS_size]

theorem seal_head (s : ByteArray) : (sealS s).extract 0 s.size = s := by
  apply ByteArray.ext
  apply Array.toList_inj.1
  rw [ByteArray.data_extract, Array.toList_extract, seal_data]
  simp [List.extract]

theorem seal_ends (s : ByteArray) : endsB (sealS s) = true := by
  rw [endsB_yes (seal_size s)]
  unfold tailB
  have e1 : (sealS s).data.toList.take s.size = s.data.toList := by
    rw [seal_data, List.take_left' (by simp)]
  have e2 : (sealS s).extract s.size (sealS s).size = foursS (ofC s.data.toList) := by
    apply ByteArray.ext
    apply Array.toList_inj.1
    rw [ByteArray.data_extract, Array.toList_extract, seal_data, seal_size]
    simp [List.extract, foursS, fours]
  rw [e1, e2]
  simp

theorem cut_sum (s : ByteArray) (k : Nat) : moreC (ofC (s.data.toList.take k)) (s.extract k s.size).data.toList = ofC s.data.toList := by
  unfold ofC
  rw [moreC_append, ByteArray.data_extract, Array.toList_extract]
  congr 1
  rw [List.extract, List.take_of_length_le (i := s.size - k) (by simp), List.take_append_drop]

theorem cut_B {w w' : World} {s : ByteArray} {k : Nat} (h : Bel w w') (hs : s.size ≤ 1048576) :
    Calls Tryd.prog 58 #[.int .u32 (ofC (s.data.toList.take k)), .string (s.extract k s.size)] w' fun e w2 => e = .returned (.int .u32 (ofC s.data.toList)) ∧ Bel w w2 :=
  (more_any _ _ w' (ofC_lt _) (ext_small hs _ _)).mono fun _ _ ⟨he, hw⟩ => ⟨by rw [he, cut_sum s k], hw ▸ h⟩
theorem sealed_B {w w' : World} {s : ByteArray} (h : Bel w w') (hs : s.size ≤ 3000) :
    Calls Tryd.prog 53 #[.string (sealS s)] w' fun e w2 => e = .returned (.bool true) ∧ Bel w w2 :=
  (ends_any (sealS s) w' (by rw [seal_size]; omega)).mono fun _ _ ⟨he, hb⟩ => ⟨by rw [he, seal_ends], below_then h hb⟩
theorem Bel.of {w w' : World} (h : Below w.heap.size w w') : Bel w w' := h

end Go.Proofs.YtcmdemblegdelaaDoor
