/-
  The walk of the law DotsBack.
  Conditions: none.
-/
import Derived.Test.YtgcmlefalilodaaDtC
import Derived.Test.YtgcmlefalilodaaDtA
import Derived.Test.YtgcmlefalilodaaDotK
import Derived.Test.YtgcmlefalilodaaDotH
namespace Go.Proofs.Ytgcmlefalilodaa
open Go.RowKit

set_option maxRecDepth 100000 in
set_option maxHeartbeats 4000000 in
theorem dotsBack_walk (al : Option Addr) (len cap : Nat) (L : List (Int × Int)) (t : ByteArray) (w : World) (hL : Ids w al len cap L) (ht : t.size ≤ maxLen) :
    Calls Try.prog 7 #[.slice al len cap, .string t] w fun e w' => e = .returned (.bool true) ∧ Below w.heap.size w w' := by
  have hcap := hL.bd
  have hfit := hL.fit
  have HL := Lib.hid hL; clear hL
  have hts : t.size ≤ 9223372036854775807 := by unfold maxLen at ht; omega
  clear ht
  go_enter Try.func7, Try.ntmps7
  go_wp2_with fail
  refine (dworks_any _).mono ?_
  rintro e w1 ⟨rfl, b1⟩
  have HB1 := Lib.hid b1; clear b1
  go_wp2_with fail
  refine (great_any al len cap _ hfit hcap).mono ?_
  cases hg : greatB len with
  | true =>
    rintro e w2 ⟨rfl, b2⟩
    have HB2 := Lib.hid (below_then HB1.out b2); clear b2 hg
    go_wp2
    go_ret
    exact ⟨rfl, HB2.out⟩
  | false =>
    have hle := great_le hg
    clear hg
    rintro e w2 ⟨rfl, b2⟩
    have HB2 := Lib.hid (below_then HB1.out b2); clear b2
    by_cases h1000 : 1000 < t.size
    · have d1 : (1000 : Int) < t.size := by omega
      go_wp2
      go_ret
      exact ⟨rfl, HB2.out⟩
    · have d1 : ¬ (1000 : Int) < t.size := by omega
      go_wp2_with fail
      refine (own_any al len cap L _ (HL.out.below HB2.out) (by omega)).mono ?_
      rintro e w3 ⟨al3, cap3, rfl, hI3, hF3, b3⟩
      have HB3 := Lib.hid (below_then HB2.out b3)
      have HI3 := Lib.hid hI3
      have HF3 := Lib.hid hF3
      clear b3 hI3 hF3
      go_wp2_with fail
      refine (make_any al3 len cap3 L _ HI3.out HF3.out).mono ?_
      rintro e w4 ⟨al4, cap4, rfl, hI4, _, b4⟩
      have HB4 := Lib.hid (below_then HB3.out b4); clear b4
      by_cases hc : mkC L = 0
      · obtain ⟨_, h64, hr, hck⟩ := mkC_zero hc
        rw [hr] at hI4
        rw [hc, hr]
        have HCK := Lib.hid hck
        have HI4 := Lib.hid hI4
        clear hc hr hck hI4
        generalize setS L = A at HI4 HCK h64 ⊢
        generalize hnA : A.length = nA at HI4 h64 ⊢
        clear hnA
        go_wp2_with fail
        refine (own_any al4 nA cap4 A _ HI4.out (by omega)).mono ?_
        rintro e w5 ⟨al5, cap5, rfl, hI5, _, b5⟩
        have HB5 := Lib.hid (below_then HB4.out b5)
        have HI45 := Lib.hid (HI4.out.below b5)
        have HI5 := Lib.hid hI5
        clear b5 hI5
        go_wp2_with fail
        refine (dWrite_any al5 nA cap5 A _ HI5.out).mono ?_
        rw [HCK.out]
        rintro e w6 ⟨rfl, b6⟩
        have HB6 := Lib.hid (below_then HB5.out b6)
        have HI6 := Lib.hid (HI45.out.below b6)
        clear b6
        have hws := wrS_size HCK.out
        have HBS := Lib.hid (back_set t HCK.out)
        have HZ : Hid (wrS A ++ t = backS A t) := Lib.hid rfl
        have hzs : (backS A t).size = (wrS A).size + t.size := by unfold backS; exact app_size _ _
        go_wp2_with fail
        rw [HZ.out]
        refine (new_any (backS A t) _).mono ?_
        rintro e w7 ⟨rfl, rfl⟩
        have hrd : Rdr (w6.alloc (.cells #[.string (backS A t), .int .i64 0, .int .i64 0] 81)) w6.heap.size (backS A t) 0 0 := Blk.new _ _ _
        have hba := (Below.refl w6.heap.size w6).alloc (Nat.le_refl _) (.cells #[.string (backS A t), .int .i64 0, .int .i64 0] 81)
        have HRD := Lib.hid hrd
        have HI7 := Lib.hid (HI6.out.below hba)
        have HB7 := Lib.hid (below_then HB6.out hba)
        have hw6 := HB6.out.size
        have HZS := Lib.hid hzs
        clear hrd hba HZ hzs
        generalize backS A t = Z at HRD HBS HZS HI7 HB7 ⊢
        have hrr := dRead_any w6.heap.size 0 Z 0 _ HRD.out (Nat.zero_le _) (by have := HZS.out; omega)
        rw [HBS.out.1, HBS.out.2.1, HBS.out.2.2] at hrr
        obtain ⟨nA', hnA'⟩ : ∃ n, A.length = n := ⟨_, rfl⟩
        rw [hnA'] at hrr
        go_wp2_with fail
        refine hrr.mono ?_
        clear hrr
        rintro e w8 ⟨al8, cap8, rfl, hI8, hr8, ho8⟩
        have HI48 := Lib.hid (ids_only HI7.out HRD.out ho8)
        have HI8 := Lib.hid hI8
        have HR8 := Lib.hid hr8
        have HB8 : Hid (Below w.heap.size w w8) := Lib.hid (Only.below HB7.out ho8 (by omega) HB7.out.size)
        clear hI8 hr8 ho8
        go_wp2_with fail
        refine (same_any al8 al4 nA' cap8 nA cap4 A A _ HI8.out HI48.out).mono ?_
        rw [decide_eq_true rfl]
        rintro e w9 ⟨rfl, b9⟩
        have HR9 := Lib.hid (Blk.below HR8.out b9)
        have HB9 := Lib.hid (below_then HB8.out b9)
        clear b9
        go_wp2_with fail
        refine (left_any w6.heap.size (wrS A).size Z 0 _ HR9.out (by have := HZS.out; omega) (by have := HZS.out; omega)).mono ?_
        rw [show ((Z.size : Int) - (wrS A).size) = t.size by have := HZS.out; omega]
        rintro e w10 ⟨rfl, n, rfl⟩
        have HB10 := Lib.hid (below_drewN HB9.out n)
        have HR10 : Hid (Rdr (w9.drewN n) w6.heap.size Z (wrS A).size 0) := Lib.hid (Blk.drewN HR9.out n)
        go_wp2_with fail
        refine (err_none w6.heap.size (wrS A).size Z _ HR10.out).mono ?_
        rintro e w11 ⟨rfl, rfl⟩
        go_wp2
        go_ret
        exact ⟨rfl, HB10.out⟩
      · have hn1 : (mkC L != 0) = true := by simpa using hc
        generalize mkC L = c at hn1 ⊢
        clear hc
        go_wp2
        go_ret
        exact ⟨rfl, HB4.out⟩
end Go.Proofs.Ytgcmlefalilodaa
