/-
  What the methods of package octet's Reader answer, whatever bytes they read.
  Conditions: the reader lies in a block of its own.
-/
import Derived.Test.YthbdjgebpjffgaaGreatDoorOctB
import Derived.Test.YthbdjgebpjffgaaGreatDoorOctK
import Derived.Outline
import Derived.Lib.RabinKarpLaws
import Derived.Laws.BitsAllLaws
import Derived.Shelf.LaysM
import Derived.Shelf.Strconv.Clone
import Derived.Test.YthbdjgebpjffgaaGreatDoorProg
set_option linter.unusedVariables false
set_option linter.unusedSimpArgs false
namespace Go.Proofs.YthbdjgebpjffgaaGreatDoor
open Go.RowKit

/-- A reader of package octet at block r: its bytes, its place, its error's number. -/
def Rdr (w : World) (r : Nat) (s : ByteArray) (a : Nat) (c : Int) : Prop := Blk w r #[.string s, .int .i64 (a : Int), .int .i64 c] 57

theorem Rdr.c0 {w : World} {r a : Nat} {s : ByteArray} {c : Int} (h : Rdr w r s a c) : w.cell? ⟨r, 0, none⟩ = some (.string s) := by rw [Blk.cell h]; rfl
theorem Rdr.c1 {w : World} {r a : Nat} {s : ByteArray} {c : Int} (h : Rdr w r s a c) : w.cell? ⟨r, 1, none⟩ = some (.int .i64 a) := by rw [Blk.cell h]; rfl
theorem Rdr.c2 {w : World} {r a : Nat} {s : ByteArray} {c : Int} (h : Rdr w r s a c) : w.cell? ⟨r, 2, none⟩ = some (.int .i64 c) := by rw [Blk.cell h]; rfl

theorem new_any (s : ByteArray) (w : World) :
    Calls Tryz.prog 8 #[.string s] w fun e w' => e = .returned (.pointer (some ⟨w.heap.size, 0, none⟩)) ∧ w' = w.alloc (.cells #[.string s, .int .i64 0, .int .i64 0] 57) := by
  go_enter Tryz.func8, Tryz.ntmps8
  go_wp2
  go_ret
  exact ⟨rfl, rfl⟩

set_option maxHeartbeats 400000 in
theorem left_any (r a : Nat) (s : ByteArray) (c : Int) (w : World) (h : Rdr w r s a c) (ha : a ≤ s.size) (hs : s.size ≤ 1048576) :
    Calls Tryz.prog 87 #[.pointer (some ⟨r, 0, none⟩)] w fun e w' => e = .returned (.int .i64 ((s.size : Int) - a)) ∧ ∃ n, w' = w.drewN n := by
  have h0 := h.c0
  have h1 := h.c1
  go_enter Tryz.func87, Tryz.ntmps87
  go_wp2
  go_quiet (fail)
  go_wp2
  go_ret
  exact ⟨rfl, _, rfl⟩

set_option maxHeartbeats 400000 in
theorem at_any (r a : Nat) (s : ByteArray) (c : Int) (w : World) (h : Rdr w r s a c) :
    Calls Tryz.prog 13 #[.pointer (some ⟨r, 0, none⟩)] w fun e w' => e = .returned (.int .i64 a) ∧ w = w' := by
  have h1 := h.c1
  go_enter Tryz.func13, Tryz.ntmps13
  go_wp2
  go_ret
  exact ⟨rfl, rfl⟩

theorem Rdr.drewN {w : World} {r a : Nat} {s : ByteArray} {c : Int} (h : Rdr w r s a c) (n : Nat) : Rdr (w.drewN n) r s a c := h
theorem Rdr.set1 {w : World} {r a : Nat} {s : ByteArray} {c : Int} (h : Rdr w r s a c) {x : Int} {b : Nat} (hx : x = b) : Rdr (w.setCell ⟨r, 1, none⟩ (.int .i64 x)) r s b c := by
  subst hx
  have := Blk.set h 1 (.int .i64 (b : Int))
  exact this
theorem Rdr.set2 {w : World} {r a : Nat} {s : ByteArray} {c : Int} (h : Rdr w r s a c) (x : Int) : Rdr (w.setCell ⟨r, 2, none⟩ (.int .i64 x)) r s a x := by
  have := Blk.set h 2 (.int .i64 x)
  exact this

set_option maxHeartbeats 400000 in
theorem take_ok (r a n : Nat) (s : ByteArray) (c : Int) (w : World) (h : Rdr w r s a c) (ha : a + n ≤ s.size) (hs : s.size ≤ 1048576) :
    Calls Tryz.prog 83 #[.pointer (some ⟨r, 0, none⟩), .int .i64 (n : Int)] w fun e w' => e = .returned (.tuple #[.string (s.extract a (a + n)), .int .i64 0]) ∧ Rdr w' r s (a + n) c ∧ Only r w w' := by
  have h0 := h.c0
  have h1 := h.c1
  have f1 := Blk.free h 1
  have HL := Lib.hid (left_any r a s c w h (by omega) hs)
  have HH := Lib.hid h; clear h
  go_enter Tryz.func83, Tryz.ntmps83
  go_wp2_with fail
  refine HL.out.mono ?_
  rintro e w1 ⟨rfl, m, rfl⟩
  go_wp2
  go_quiet (fail)
  go_wp2
  go_ret2
  exact ⟨rfl, (HH.out.drewN _).set1 (by omega), ((Only.refl r w).drewN _).set _ _⟩

set_option maxHeartbeats 400000 in
theorem take_short (r a n : Nat) (s : ByteArray) (c : Int) (w : World) (h : Rdr w r s a c) (ha : s.size < a + n) (ha' : a ≤ s.size) (hs : s.size ≤ 1048576) :
    Calls Tryz.prog 83 #[.pointer (some ⟨r, 0, none⟩), .int .i64 (n : Int)] w fun e w' => e = .returned (.tuple #[.string ⟨#[]⟩, .int .i64 1]) ∧ Rdr w' r s a c ∧ Only r w w' := by
  have HL := Lib.hid (left_any r a s c w h (by omega) hs)
  have HH := Lib.hid h; clear h
  go_enter Tryz.func83, Tryz.ntmps83
  go_wp2_with fail
  refine HL.out.mono ?_
  rintro e w1 ⟨rfl, m, rfl⟩
  go_wp2
  go_ret2
  exact ⟨rfl, HH.out.drewN _, (Only.refl r w).drewN _⟩

/-! ### The bytes of a text -/

/-- Byte i. -/
def bt (s : ByteArray) (i : Nat) : Nat := (s.data.toList.getD i 0).toNat
/-- k bytes from byte a on. -/
def win (s : ByteArray) (a k : Nat) : List UInt8 := (s.data.toList.drop a).take k

theorem bt_lt (s : ByteArray) (i : Nat) : bt s i < 256 := UInt8.toNat_lt _
theorem bt_at (s : ByteArray) (i : Nat) (h : i < s.size) : (s[i]).toNat = bt s i := by
  unfold bt
  have h' : i < s.data.toList.length := by simpa using h
  simp only [List.getD, List.getElem?_eq_getElem h', Option.getD_some]
  rw [byte_at' s i h h']

theorem run_idx (s : ByteArray) (i : Nat) (h : i < s.size) (W : World) : (Instr.index 9 (.string s) (.int .i64 (i : Int))).run Tryz.prog W = .ok (.int .u8 (bt s i : Int)) W := by
  rw [run_index_string W 9 s .i64 i (by kernel_rfl), dif_pos (by omega)]
  simp only [Int.toNat_natCast, bt_at s i h]

theorem ext_size (s : ByteArray) (a n : Nat) (h : a + n ≤ s.size) : (s.extract a (a + n)).size = n := by
  rw [ByteArray.size_extract]; omega

theorem ext_win (s : ByteArray) (a n : Nat) : (s.extract a (a + n)).data.toList = win s a n := by
  rw [Lib.extract_data, show a + n - a = n by omega, win]

theorem ext_bt (s : ByteArray) (a n i : Nat) (hi : i < n) : bt (s.extract a (a + n)) i = bt s (a + i) := by
  unfold bt
  rw [ext_win, win]
  simp only [List.getD, List.getElem?_take_of_lt hi, List.getElem?_drop]

theorem run_idx0 (s : ByteArray) (a n : Nat) (h : a + n ≤ s.size) (hn : 0 < n) (W : World) : (Instr.index 9 (.string (s.extract a (a + n))) (.int .i64 0)).run Tryz.prog W = .ok (.int .u8 (bt s a : Int)) W := by
  have := run_idx (s.extract a (a + n)) 0 (by rw [ext_size s a n h]; exact hn) W
  rw [ext_bt s a n 0 hn] at this
  exact this

/-- What is wrong with the encoding of a number at byte a: nothing is 0. -/
def nC (s : ByteArray) (a : Nat) : Int :=
  if s.size ≤ a then 1 else if 8 < bt s a then 3 else if s.size < a + 1 + bt s a then 1 else if 0 < bt s a ∧ bt s (a + 1) = 0 then 3 else 0
/-- The number. -/
def nV (s : ByteArray) (a : Nat) : Nat := if nC s a = 0 then valB (win s (a + 1) (bt s a)) else 0
/-- The place behind it. -/
def nA (s : ByteArray) (a : Nat) : Nat := if nC s a = 0 then a + 1 + bt s a else a

theorem empty_list {B : ByteArray} (h : B.size = 0) : B.toList = [] := by
  have : B = ⟨#[]⟩ := by
    apply ByteArray.ext
    exact Array.eq_empty_of_size_eq_zero h
  subst this
  rw [ByteArray.toList_eq]

theorem some_list {B : ByteArray} (h : 0 < B.size) : ¬ B.toList = [] ∧ (!B.toList.isEmpty) = true := by
  have : ¬ B.toList = [] := by
    intro e
    rw [ByteArray.toList_eq] at e
    have : B.data.toList.length = 0 := by rw [e]; rfl
    have h2 : B.size = B.data.toList.length := Lib.size_eq _
    omega
  exact ⟨this, by simpa using this⟩

theorem shl_or {x b : Nat} (hx : x ≤ 72057594037927935) (hb : b < 256) : bits .or .u64 ((x : Int) * 256) (b : Int) = ((x * 256 + b : Nat) : Int) := by
  have e : ((x : Int) * 256) = ((x * 256 : Nat) : Int) := by omega
  have h1 : x * 256 < 18446744073709551616 := by omega
  have h2 : b < 18446744073709551616 := by omega
  have h3 : x * 256 % 2 ^ 8 = 0 := Nat.mul_mod_left _ _
  have h4 : b < 2 ^ 8 := hb
  rw [e, u64_or_nat _ _ h1 h2, nat_join 8 _ _ h3 h4]

theorem win_len (s : ByteArray) (a k : Nat) (h : a + k ≤ s.size) : (win s a k).length = k := by
  have h2 : s.size = s.data.toList.length := Lib.size_eq _
  simp only [win, List.length_take, List.length_drop]
  omega

theorem win_next (s : ByteArray) (a k i : Nat) (h : a + k ≤ s.size) (hi : i < k) : valB ((win s a k).take (i + 1)) = valB ((win s a k).take i) * 256 + bt s (a + i) := by
  have hl := win_len s a k h
  rw [List.take_succ_eq_append_getElem (by omega), valB_snoc]
  congr 1
  have e1 : (win s a k)[i]? = s.data.toList[a + i]? := by rw [win, List.getElem?_take_of_lt hi, List.getElem?_drop]
  unfold bt
  rw [List.getD, ← e1, List.getElem?_eq_getElem (by omega), Option.getD_some]

theorem win_bound (s : ByteArray) (a k i : Nat) (h : a + k ≤ s.size) (hk : k ≤ 8) (hi : i < k) : valB ((win s a k).take i) ≤ 72057594037927935 := by
  have hl := win_len s a k h
  have h1 : valB ((win s a k).take i) < 256 ^ i := valB_lt i _ (by rw [List.length_take, hl]; omega)
  have h2 : 256 ^ i ≤ 256 ^ 7 := Nat.pow_le_pow_right (by decide) (by omega)
  have h3 : 256 ^ 7 = 72057594037927936 := by decide
  omega

/-- What number leaves. -/
def NumPost (r : Nat) (s : ByteArray) (a : Nat) (c : Int) (w w' : World) : Prop := ∃ a', Rdr w' r s a' c ∧ (nC s a = 0 → a' = nA s a) ∧ Only r w w'

theorem ret_num {s : ByteArray} {a : Nat} {v e : Int} (hv : v = nV s a) (he : e = nC s a) : Ending.returned (.tuple #[.int .u64 v, .int .i64 e]) = .returned (.tuple #[.int .u64 (nV s a : Int), .int .i64 (nC s a)]) := by rw [hv, he]

set_option maxHeartbeats 400000 in
theorem number_any (r a : Nat) (s : ByteArray) (c : Int) (w : World) (h : Rdr w r s a c) (ha : a ≤ s.size) (hs : s.size ≤ 1048576) :
    Calls Tryz.prog 68 #[.pointer (some ⟨r, 0, none⟩)] w fun e w' => e = .returned (.tuple #[.int .u64 (nV s a : Int), .int .i64 (nC s a)]) ∧ NumPost r s a c w w' := by
  by_cases h1 : s.size ≤ a
  · have hc : nC s a = 1 := by unfold nC; rw [if_pos h1]
    have hv : nV s a = 0 := by unfold nV; rw [hc]; rfl
    have HC := Lib.hid hc; have HV := Lib.hid hv; clear hc hv
    have HT := Lib.hid (take_short r a 1 s c w h (by omega) ha hs)
    clear h
    go_enter Tryz.func68, Tryz.ntmps68
    go_wp2_with fail
    refine HT.out.mono ?_
    rintro e w1 ⟨rfl, hr, ho⟩
    have HR := Lib.hid hr; clear hr
    go_wp2
    go_ret2
    exact ⟨ret_num (by rw [HV.out]; rfl) HC.out.symm, a, HR.out, fun h0 => by rw [HC.out] at h0; simp at h0, ho⟩
  · have HT := Lib.hid (take_ok r a 1 s c w h (by omega) hs)
    have hi1 := run_idx0 s a 1 (by omega) (by omega)
    have hb := bt_lt s a
    by_cases h2 : 8 < bt s a
    · have hc : nC s a = 3 := by unfold nC; rw [if_neg h1, if_pos h2]
      have hv : nV s a = 0 := by unfold nV; rw [hc]; rfl
      have HC := Lib.hid hc; have HV := Lib.hid hv; clear hc hv
      clear h
      go_enter Tryz.func68, Tryz.ntmps68
      go_wp2_with fail
      refine HT.out.mono ?_
      rintro e w1 ⟨rfl, hr, ho⟩
      have HR := Lib.hid hr; clear hr
      go_wp2
      go_ret2
      exact ⟨ret_num (by rw [HV.out]; rfl) HC.out.symm, a + 1, HR.out, fun h0 => by rw [HC.out] at h0; simp at h0, ho⟩
    · by_cases h3 : s.size < a + 1 + bt s a
      · have hc : nC s a = 1 := by unfold nC; rw [if_neg h1, if_neg h2, if_pos h3]
        have hv : nV s a = 0 := by unfold nV; rw [hc]; rfl
        have HC := Lib.hid hc; have HV := Lib.hid hv; clear hc hv
        clear h
        go_enter Tryz.func68, Tryz.ntmps68
        go_wp2_with fail
        refine HT.out.mono ?_
        rintro e w1 ⟨rfl, hr, ho⟩
        have HR := Lib.hid hr; clear hr
        go_wp2_with fail
        refine (take_short r (a + 1) (bt s a) s c w1 HR.out (by omega) (by omega) hs).mono ?_
        rintro e w2 ⟨rfl, hr2, ho2⟩
        have HR2 := Lib.hid hr2; clear hr2
        go_wp2
        go_ret2
        exact ⟨ret_num (by rw [HV.out]; rfl) HC.out.symm, a + 1, HR2.out, fun h0 => by rw [HC.out] at h0; simp at h0, ho.trans ho2⟩
      · have HT2 : ∀ w1, Rdr w1 r s (a + 1) c → ∃ B : ByteArray, B = s.extract (a + 1) (a + 1 + bt s a) ∧ Calls Tryz.prog 83 #[.pointer (some ⟨r, 0, none⟩), .int .i64 (bt s a : Int)] w1 fun e w' => e = .returned (.tuple #[.string B, .int .i64 0]) ∧ Rdr w' r s (a + 1 + bt s a) c ∧ Only r w1 w' :=
          fun w1 h1 => ⟨_, rfl, take_ok r (a + 1) (bt s a) s c w1 h1 (by omega) hs⟩
        clear h
        go_enter Tryz.func68, Tryz.ntmps68
        go_wp2_with fail
        refine HT.out.mono ?_
        rintro e w1 ⟨rfl, hr, ho⟩
        obtain ⟨B, hB, hT2⟩ := HT2 w1 hr
        have HB := Lib.hid hB
        have hsz : B.size = bt s a := by rw [hB]; exact ext_size s (a + 1) (bt s a) (by omega)
        clear hB HT2
        have HR := Lib.hid hr; clear hr
        have HT2 := Lib.hid hT2; clear hT2
        have HS := Lib.hid hsz
        have hs1 : (B.size : Int) ≤ 255 := by omega
        have HI : Hid (∀ j, j < bt s a → ∀ W, (Instr.index 9 (.string B) (.int .i64 (j : Int))).run Tryz.prog W = .ok (.int .u8 (bt s (a + 1 + j) : Int)) W) := Lib.hid (fun j hj W => by
          have := run_idx B j (by omega) W
          rw [this, HB.out, ext_bt s (a + 1) (bt s a) j hj])
        by_cases h4 : bt s a = 0
        · have hc : nC s a = 0 := by unfold nC; rw [if_neg h1, if_neg h2, if_neg h3, if_neg (by omega)]
          have HC := Lib.hid hc
          have HV := Lib.hid (show nV s a = valB (win s (a + 1) (bt s a)) by unfold nV; rw [if_pos hc])
          have hB0 := empty_list (B := B) (by omega)
          clear hsz hc
          have H4 := Lib.hid h4; clear h4
          go_wp2_with fail
          refine HT2.out.mono ?_
          rintro e w2 ⟨rfl, hr2, ho2⟩
          have HR2 := Lib.hid hr2; clear hr2
          go_wp2
          go_loop [7, 8, 40] (fun v _ i => ∃ j : Nat, j ≤ bt s a ∧ i = .int .i64 (j : Int) ∧ v = .int .u64 (valB ((win s (a + 1) (bt s a)).take j) : Int)) (fun _ _ i => bt s a - (intOf i).toNat)
          case atStart => exact ⟨0, by omega, rfl, rfl⟩
          case round =>
            obtain ⟨j, hj, rfl, rfl⟩ := hrel
            by_cases hlt : j < bt s a
            · have hj1 := hlt
              rw [← HS.out] at hj1
              have hidx := HI.out j hlt
              have hb2 := bt_lt s (a + 1 + j)
              have hub := win_bound s (a + 1) (bt s a) j (by omega) (by omega) hlt
              have HN := Lib.hid (win_next s (a + 1) (bt s a) j (by omega) hlt)
              have hor := shl_or hub hb2
              go_wp2
              go_round
              case rel => exact ⟨j + 1, by omega, by go_num, by rw [HN.out]; go_num⟩
              case measure => simp [intOf]; omega
            · have hjk : j = bt s a := by omega
              have HJ := Lib.hid hjk; clear hjk
              have hj1 : ¬ j < B.size := by rw [HS.out]; exact hlt
              go_wp2
              go_ret2
              exact ⟨ret_num (by rw [HV.out, HJ.out, List.take_of_length_le (by rw [win_len s (a + 1) (bt s a) (by omega)]; exact Nat.le_refl _)]) HC.out.symm, _, HR2.out, fun _ => by unfold nA; rw [if_pos HC.out], ho.trans ho2⟩
        · obtain ⟨hne, hne2⟩ := some_list (B := B) (by omega)
          have hi0 := HI.out 0 (by omega)
          rw [Nat.add_zero] at hi0
          have hi0' : ∀ W, (Instr.index 9 (.string B) (.int .i64 0)).run Tryz.prog W = .ok (.int .u8 (bt s (a + 1) : Int)) W := hi0
          clear hi0
          by_cases h5 : bt s (a + 1) = 0
          · have hc : nC s a = 3 := by unfold nC; rw [if_neg h1, if_neg h2, if_neg h3, if_pos (by omega)]
            have hv : nV s a = 0 := by unfold nV; rw [hc]; rfl
            have HC := Lib.hid hc; have HV := Lib.hid hv; clear hc hv
            have h5' : ((bt s (a + 1) : Int) == 0) = true := by simpa using h5
            clear hsz h4 h5
            go_wp2_with fail
            refine HT2.out.mono ?_
            rintro e w2 ⟨rfl, hr2, ho2⟩
            have HR2 := Lib.hid hr2; clear hr2
            go_wp2
            go_ret2
            exact ⟨ret_num (by rw [HV.out]; rfl) HC.out.symm, _, HR2.out, fun h0 => by rw [HC.out] at h0; simp at h0, ho.trans ho2⟩
          · have hc : nC s a = 0 := by unfold nC; rw [if_neg h1, if_neg h2, if_neg h3, if_neg (by omega)]
            have HC := Lib.hid hc
            have HV := Lib.hid (show nV s a = valB (win s (a + 1) (bt s a)) by unfold nV; rw [if_pos hc])
            have h5' : ((bt s (a + 1) : Int) == 0) = false := by simpa using h5
            clear hsz hc h4 h5
            go_wp2_with fail
            refine HT2.out.mono ?_
            rintro e w2 ⟨rfl, hr2, ho2⟩
            have HR2 := Lib.hid hr2; clear hr2
            go_wp2
            go_loop [7, 8, 40] (fun v _ i => ∃ j : Nat, j ≤ bt s a ∧ i = .int .i64 (j : Int) ∧ v = .int .u64 (valB ((win s (a + 1) (bt s a)).take j) : Int)) (fun _ _ i => bt s a - (intOf i).toNat)
            case atStart => exact ⟨0, by omega, rfl, rfl⟩
            case round =>
              obtain ⟨j, hj, rfl, rfl⟩ := hrel
              by_cases hlt : j < bt s a
              · have hj1 := hlt
                rw [← HS.out] at hj1
                have hidx := HI.out j hlt
                have hb2 := bt_lt s (a + 1 + j)
                have hub := win_bound s (a + 1) (bt s a) j (by omega) (by omega) hlt
                have HN := Lib.hid (win_next s (a + 1) (bt s a) j (by omega) hlt)
                have hor := shl_or hub hb2
                go_wp2
                go_round
                case rel => exact ⟨j + 1, by omega, by go_num, by rw [HN.out]; go_num⟩
                case measure => simp [intOf]; omega
              · have hjk : j = bt s a := by omega
                have HJ := Lib.hid hjk; clear hjk
                have hj1 : ¬ j < B.size := by rw [HS.out]; exact hlt
                go_wp2
                go_ret2
                exact ⟨ret_num (by rw [HV.out, HJ.out, List.take_of_length_le (by rw [win_len s (a + 1) (bt s a) (by omega)]; exact Nat.le_refl _)]) HC.out.symm, _, HR2.out, fun _ => by unfold nA; rw [if_pos HC.out], ho.trans ho2⟩
end Go.Proofs.YthbdjgebpjffgaaGreatDoor

/-
  What Num, Int, Signed and Text of package octet's Reader answer, and Fail, Err, End.
  Conditions: the reader lies in a block of its own.
-/

namespace Go.Proofs.YthbdjgebpjffgaaGreatDoor
open Go.RowKit

/-- What is wrong behind Fail. -/
def failC (c e : Int) : Int := if c = 0 then e else c

set_option maxHeartbeats 400000 in
theorem fail_any (r a : Nat) (s : ByteArray) (c e : Int) (w : World) (h : Rdr w r s a c) :
    Calls Tryz.prog 25 #[.pointer (some ⟨r, 0, none⟩), .int .i64 e] w fun x w' => x = .returned (.tuple #[]) ∧ Rdr w' r s a (failC c e) ∧ Only r w w' := by
  have h2 := h.c2
  have f2 := Blk.free h 2
  by_cases hc : c = 0
  · subst hc
    by_cases he : e = 0
    · subst he
      have HH := Lib.hid h; clear h
      go_enter Tryz.func25, Tryz.ntmps25
      go_wp2
      refine bodyPost_ret (results_none rfl _ _ _) rfl ?_
      exact ⟨rfl, HH.out, Only.refl _ _⟩
    · have he' : (e == 0) = false := by simpa using he
      have HE : Hid (failC 0 e = e) := Lib.hid rfl
      have HH := Lib.hid h; clear h he
      go_enter Tryz.func25, Tryz.ntmps25
      go_wp2
      go_end0
      exact ⟨rfl, by rw [HE.out]; exact HH.out.set2 _, (Only.refl r w).set _ _⟩
  · have hc' : (c != 0) = true := by simpa using hc
    have HE : Hid (failC c e = c) := Lib.hid (by unfold failC; rw [if_neg hc])
    have HH := Lib.hid h; clear h hc
    go_enter Tryz.func25, Tryz.ntmps25
    go_wp2
    refine bodyPost_ret (results_none rfl _ _ _) rfl ?_
    exact ⟨rfl, by rw [HE.out]; exact HH.out, Only.refl _ _⟩

/-- The step number of the reader at block r. -/
def stepN (r : Nat) : Value := .func (Fn.func 68) #[.pointer (some ⟨r, 0, none⟩)] #[]

theorem limited_any (r : Nat) (m : Int) (w : World) :
    Calls Tryz.prog 67 #[.func (Fn.func 68) #[.pointer (some ⟨r, 0, none⟩)] #[], .int .i64 m] w fun x w' =>
      x = .returned (.func (Fn.func 82) #[] #[.pointer (some ⟨w.heap.size, 0, none⟩), .pointer (some ⟨w.heap.size + 1, 0, none⟩)]) ∧
      w' = (w.alloc (.cells #[stepN r] 122)).alloc (.cells #[.int .i64 m] 3) := by
  go_enter Tryz.func67, Tryz.ntmps67
  go_wp2
  go_ret
  exact ⟨rfl, rfl⟩

theorem nV_bad {s : ByteArray} {a : Nat} (h : ¬ nC s a = 0) : nV s a = 0 := by unfold nV; rw [if_neg h]
theorem nA_bad {s : ByteArray} {a : Nat} (h : ¬ nC s a = 0) : nA s a = a := by unfold nA; rw [if_neg h]

/-- What a try of a step leaves: a failed one nothing but its error's number. -/
def nC' (s : ByteArray) (a : Nat) (c : Int) : Int := if c = 0 then nC s a else c
def nV' (s : ByteArray) (a : Nat) (c : Int) : Nat := if c = 0 then nV s a else 0
def nA' (s : ByteArray) (a : Nat) (c : Int) : Nat := if c = 0 then nA s a else a

/-! ### Int -/

/-- What is wrong with a number of at most m. -/
def iC (s : ByteArray) (a : Nat) (m : Int) : Int := if nC s a = 0 then (if m < 0 ∨ m < nV s a then 2 else 0) else nC s a
def iV (s : ByteArray) (a : Nat) (m : Int) : Nat := if iC s a m = 0 then nV s a else 0
def iA (s : ByteArray) (a : Nat) (m : Int) : Nat := if iC s a m = 0 then nA s a else a
def iC' (s : ByteArray) (a : Nat) (m c : Int) : Int := if c = 0 then iC s a m else c
def iV' (s : ByteArray) (a : Nat) (m c : Int) : Nat := if c = 0 then iV s a m else 0
def iA' (s : ByteArray) (a : Nat) (m c : Int) : Nat := if c = 0 then iA s a m else a

/-- What a step of the kind of limited leaves. -/
def IntPost (r : Nat) (s : ByteArray) (a : Nat) (m c : Int) (w w' : World) : Prop := ∃ a', Rdr w' r s a' c ∧ (iC s a m = 0 → a' = iA s a m) ∧ Only r w w'

theorem nV_lt (s : ByteArray) (a : Nat) : nV s a < 18446744073709551616 := by
  unfold nV
  split
  · rename_i h
    have hb : bt s a ≤ 8 := by
      unfold nC at h
      split at h
      · simp at h
      · split at h
        · simp at h
        · omega
    have h1 : valB (win s (a + 1) (bt s a)) < 256 ^ (win s (a + 1) (bt s a)).length := valB_lt _ _ rfl
    have h2 : (win s (a + 1) (bt s a)).length ≤ 8 := by rw [win, List.length_take]; omega
    have h3 : 256 ^ (win s (a + 1) (bt s a)).length ≤ 256 ^ 8 := Nat.pow_le_pow_right (by decide) h2
    rw [pow8] at h3
    omega
  · omega

theorem ret_intC {k : IntKind} {x y e f : Int} (h1 : x = y) (h2 : e = f) : Ending.returned (.tuple #[.int k x, .int .i64 e]) = .returned (.tuple #[.int k y, .int .i64 f]) := by rw [h1, h2]

set_option maxHeartbeats 800000 in
theorem limited1_any (r a b0 b1 : Nat) (s : ByteArray) (m c : Int) (w : World) (h : Rdr w r s a c) (ha : a ≤ s.size) (hs : s.size ≤ 1048576) (hm : -9223372036854775808 ≤ m ∧ m ≤ 9223372036854775807)
    (k0 : w.cell? ⟨b0, 0, none⟩ = some (stepN r)) (k1 : Blk w b1 #[.int .i64 m] 3) (hb : b1 ≠ r) :
    Calls Tryz.prog 82 #[.pointer (some ⟨b0, 0, none⟩), .pointer (some ⟨b1, 0, none⟩)] w fun e w' =>
      e = .returned (.tuple #[.int .i64 (iV s a m : Int), .int .i64 (iC s a m)]) ∧ IntPost r s a m c w w' := by
  unfold stepN at k0
  obtain ⟨hm1, hm2⟩ := hm
  have HN := Lib.hid (number_any r a s c w h ha hs)
  have K1 := Lib.hid k1; clear k1
  have hv := nV_lt s a
  clear h
  by_cases he : nC s a = 0
  · have he' : (nC s a != 0) = false := by simpa using he
    by_cases h1 : m < 0
    · have HC : Hid (iC s a m = 2) := Lib.hid (by unfold iC; rw [if_pos he, if_pos (Or.inl h1)])
      have HV : Hid (iV s a m = 0) := Lib.hid (by unfold iV; rw [HC.out]; rfl)
      have HE := Lib.hid he; clear he
      go_enter Tryz.func82, Tryz.ntmps82
      go_wp2_with fail
      refine HN.out.mono ?_
      rintro e w1 ⟨rfl, a', hr, ha', ho⟩
      have HR := Lib.hid hr; clear hr ha'
      have g1 : w1.cell? ⟨b1, 0, none⟩ = some (.int .i64 m) := by rw [Blk.cell (K1.out.only ho hb)]; rfl
      go_wp2
      go_ret2
      exact ⟨ret_intC (by rw [HV.out]; rfl) HC.out.symm, a', HR.out, fun h0 => by rw [HC.out] at h0; simp at h0, ho⟩
    · by_cases h2 : m < nV s a
      · have HC : Hid (iC s a m = 2) := Lib.hid (by unfold iC; rw [if_pos he, if_pos (Or.inr h2)])
        have HV : Hid (iV s a m = 0) := Lib.hid (by unfold iV; rw [HC.out]; rfl)
        have HE := Lib.hid he; clear he
        go_enter Tryz.func82, Tryz.ntmps82
        go_wp2_with fail
        refine HN.out.mono ?_
        rintro e w1 ⟨rfl, a', hr, ha', ho⟩
        have HR := Lib.hid hr; clear hr ha'
        have g1 : w1.cell? ⟨b1, 0, none⟩ = some (.int .i64 m) := by rw [Blk.cell (K1.out.only ho hb)]; rfl
        go_wp2
        go_ret2
        exact ⟨ret_intC (by rw [HV.out]; rfl) HC.out.symm, a', HR.out, fun h0 => by rw [HC.out] at h0; simp at h0, ho⟩
      · have hc0 : iC s a m = 0 := by unfold iC; rw [if_pos he, if_neg (by omega)]
        have HC := Lib.hid hc0
        have HV : Hid (iV s a m = nV s a) := Lib.hid (by unfold iV; rw [if_pos hc0])
        have HA : Hid (iA s a m = nA s a) := Lib.hid (by unfold iA; rw [if_pos hc0])
        clear hc0
        have HE := Lib.hid he; clear he
        go_enter Tryz.func82, Tryz.ntmps82
        go_wp2_with fail
        refine HN.out.mono ?_
        rintro e w1 ⟨rfl, a', hr, ha', ho⟩
        have HR := Lib.hid hr; clear hr
        have HA' := Lib.hid ha'; clear ha'
        have g1 : w1.cell? ⟨b1, 0, none⟩ = some (.int .i64 m) := by rw [Blk.cell (K1.out.only ho hb)]; rfl
        go_wp2
        go_ret2
        exact ⟨ret_intC (by rw [HV.out]) HC.out.symm, a', HR.out, fun _ => by rw [HA.out]; exact HA'.out HE.out, ho⟩
  · have he' : (nC s a != 0) = true := by simpa using he
    have HC : Hid (iC s a m = nC s a) := Lib.hid (by unfold iC; rw [if_neg he])
    have HV : Hid (iV s a m = 0) := Lib.hid (by unfold iV; rw [HC.out, if_neg he])
    have HE := Lib.hid he; clear he
    go_enter Tryz.func82, Tryz.ntmps82
    go_wp2_with fail
    refine HN.out.mono ?_
    rintro e w1 ⟨rfl, a', hr, ha', ho⟩
    have HR := Lib.hid hr; clear hr ha'
    go_wp2
    go_ret2
    exact ⟨ret_intC (by rw [HV.out]; rfl) HC.out.symm, a', HR.out, fun h0 => absurd (HC.out.symm.trans h0) HE.out, ho⟩
end Go.Proofs.YthbdjgebpjffgaaGreatDoor

/-
  What Int, Signed and Text of package octet's Reader answer, and Err, End.
  Conditions: the reader lies in a block of its own.
-/

namespace Go.Proofs.YthbdjgebpjffgaaGreatDoor
open Go.RowKit

theorem iV_bad {s : ByteArray} {a : Nat} {m : Int} (h : ¬ iC s a m = 0) : iV s a m = 0 := by unfold iV; rw [if_neg h]
theorem iA_bad {s : ByteArray} {a : Nat} {m : Int} (h : ¬ iC s a m = 0) : iA s a m = a := by unfold iA; rw [if_neg h]
theorem nA_le {s : ByteArray} {a : Nat} (ha : a ≤ s.size) : nA s a ≤ s.size := by
  unfold nA
  split
  · rename_i h
    unfold nC at h
    split at h
    · simp at h
    · split at h
      · simp at h
      · split at h
        · simp at h
        · omega
  · exact ha
theorem iA_le {s : ByteArray} {a : Nat} {m : Int} (ha : a ≤ s.size) : iA s a m ≤ s.size := by
  unfold iA
  split
  · exact nA_le ha
  · exact ha

set_option maxHeartbeats 400000 in
theorem attemptI_any (r a b0 b1 : Nat) (s : ByteArray) (m c : Int) (w : World) (h : Rdr w r s a c) (ha : a ≤ s.size) (hs : s.size ≤ 1048576) (hm : -9223372036854775808 ≤ m ∧ m ≤ 9223372036854775807) (k0 : w.cell? ⟨b0, 0, none⟩ = some (stepN r)) (k1 : Blk w b1 #[.int .i64 m] 3) (hb : b1 ≠ r) :
    Calls Tryz.prog 66 #[.pointer (some ⟨r, 0, none⟩), .func (Fn.func 82) #[] #[.pointer (some ⟨b0, 0, none⟩), .pointer (some ⟨b1, 0, none⟩)]] w fun e w' =>
      e = .returned (.int .i64 (iV' s a m c)) ∧ Rdr w' r s (iA' s a m c) (iC' s a m c) ∧ Only r w w' := by
  have h1 := h.c1
  have h2 := h.c2
  by_cases hc : c = 0
  · subst hc
    have HC : Hid (iC' s a m 0 = iC s a m) := Lib.hid rfl
    have HV : Hid (iV' s a m 0 = iV s a m) := Lib.hid rfl
    have HA : Hid (iA' s a m 0 = iA s a m) := Lib.hid rfl
    have HN := Lib.hid (limited1_any r a b0 b1 s m 0 w h ha hs hm k0 k1 hb)
    clear h k0 k1
    by_cases he : iC s a m = 0
    · have he' : (iC s a m != 0) = false := by simpa using he
      have HE := Lib.hid he; clear he
      go_enter Tryz.func66, Tryz.ntmps66
      go_wp2_with fail
      refine HN.out.mono ?_
      rintro e w1 ⟨rfl, a', hr, ha', ho⟩
      have hr' : Rdr w1 r s (iA' s a m 0) (iC' s a m 0) := by rw [HC.out, HA.out, HE.out]; have e1 := ha' HE.out; subst e1; exact hr
      have HR := Lib.hid hr'; clear hr hr' ha'
      go_wp2
      go_ret
      exact ⟨rfl, HR.out, ho⟩
    · have he' : (iC s a m != 0) = true := by simpa using he
      have HE := Lib.hid he; clear he
      go_enter Tryz.func66, Tryz.ntmps66
      go_wp2_with fail
      refine HN.out.mono ?_
      rintro e w1 ⟨rfl, a', hr, ha', ho⟩
      have g1 := hr.c1
      have f1 := Blk.free hr 1
      have HR := Lib.hid hr; clear hr ha'
      go_wp2_with fail
      refine (fail_any r a s 0 (iC s a m) _ (HR.out.set1 rfl)).mono ?_
      rintro e w2 ⟨rfl, hr2, ho2⟩
      have HR2 := Lib.hid hr2; clear hr2
      go_wp2
      go_ret
      exact ⟨by rw [HV.out, iV_bad HE.out]; rfl, by rw [HC.out, HA.out, iA_bad HE.out]; exact HR2.out, (ho.set _ _).trans ho2⟩
  · have hc' : (c != 0) = true := by simpa using hc
    have HC : Hid (iC' s a m c = c) := Lib.hid (by unfold iC'; rw [if_neg hc])
    have HV : Hid (iV' s a m c = 0) := Lib.hid (by unfold iV'; rw [if_neg hc])
    have HA : Hid (iA' s a m c = a) := Lib.hid (by unfold iA'; rw [if_neg hc])
    have HH := Lib.hid h; clear h hc k0 k1
    go_enter Tryz.func66, Tryz.ntmps66
    go_wp2
    go_ret
    exact ⟨by rw [HV.out]; rfl, by rw [HC.out, HA.out]; exact HH.out, Only.refl _ _⟩

set_option maxHeartbeats 400000 in
theorem rdInt_any (r a : Nat) (s : ByteArray) (m c : Int) (w : World) (h : Rdr w r s a c) (ha : a ≤ s.size) (hs : s.size ≤ 1048576) (hm : -9223372036854775808 ≤ m ∧ m ≤ 9223372036854775807) :
    Calls Tryz.prog 44 #[.pointer (some ⟨r, 0, none⟩), .int .i64 m] w fun e w' =>
      e = .returned (.int .i64 (iV' s a m c)) ∧ Rdr w' r s (iA' s a m c) (iC' s a m c) ∧ Only r w w' := by
  have hlt := Blk.lt h
  have HA := Lib.hid (attemptI_any r a w.heap.size (w.heap.size + 1) s m c ((w.alloc (.cells #[stepN r] 122)).alloc (.cells #[.int .i64 m] 3)) ((Blk.alloc h _).alloc _) ha hs hm (by simp) (by
    have := Blk.new (w.alloc (.cells #[stepN r] 122)) #[.int .i64 m] 3
    simpa using this) (by omega))
  clear h
  go_enter Tryz.func44, Tryz.ntmps44
  go_wp2_with fail
  refine (limited_any r m _).mono ?_
  rintro e w1 ⟨rfl, rfl⟩
  go_wp2_with fail
  refine HA.out.mono ?_
  rintro e w2 ⟨rfl, hr2, ho2⟩
  have HR2 := Lib.hid hr2; clear hr2
  go_wp2
  go_ret
  exact ⟨rfl, HR2.out, (((Only.refl r w).alloc _).alloc _).trans ho2⟩
end Go.Proofs.YthbdjgebpjffgaaGreatDoor

/-
  What Signed and Text of package octet's Reader answer.
  Conditions: the reader lies in a block of its own.
-/

namespace Go.Proofs.YthbdjgebpjffgaaGreatDoor
open Go.RowKit

/-! ### Signed -/

def sC (s : ByteArray) (a : Nat) : Int := nC s a
/-- The number with a sign. -/
def sV (s : ByteArray) (a : Nat) : Int := if nV s a % 2 = 1 then -((nV s a / 2 : Nat) : Int) - 1 else ((nV s a / 2 : Nat) : Int)
def sA (s : ByteArray) (a : Nat) : Nat := nA s a
def sC' (s : ByteArray) (a : Nat) (c : Int) : Int := if c = 0 then sC s a else c
def sV' (s : ByteArray) (a : Nat) (c : Int) : Int := if c = 0 then sV s a else 0
def sA' (s : ByteArray) (a : Nat) (c : Int) : Nat := if c = 0 then sA s a else a
theorem sV_bad {s : ByteArray} {a : Nat} (h : ¬ sC s a = 0) : sV s a = 0 := by unfold sV; rw [nV_bad h]; rfl
theorem sA_bad {s : ByteArray} {a : Nat} (h : ¬ sC s a = 0) : sA s a = a := nA_bad h

theorem and_one (x : Nat) (h : x < 18446744073709551616) : bits .and .u64 (x : Int) 1 = ((x % 2 : Nat) : Int) := by
  have := u64_and_nat x 1 h (by omega)
  rw [nat_mask1] at this
  exact this

/-! ### Text -/

def tC (s : ByteArray) (a : Nat) (m : Int) : Int := if iC s a m = 0 then (if s.size < iA s a m + iV s a m then 1 else 0) else iC s a m
def tV (s : ByteArray) (a : Nat) (m : Int) : ByteArray := if tC s a m = 0 then s.extract (iA s a m) (iA s a m + iV s a m) else ⟨#[]⟩
def tA (s : ByteArray) (a : Nat) (m : Int) : Nat := if tC s a m = 0 then iA s a m + iV s a m else a
def tC' (s : ByteArray) (a : Nat) (m c : Int) : Int := if c = 0 then tC s a m else c
def tV' (s : ByteArray) (a : Nat) (m c : Int) : ByteArray := if c = 0 then tV s a m else ⟨#[]⟩
def tA' (s : ByteArray) (a : Nat) (m c : Int) : Nat := if c = 0 then tA s a m else a
theorem tV_bad {s : ByteArray} {a : Nat} {m : Int} (h : ¬ tC s a m = 0) : tV s a m = ⟨#[]⟩ := by unfold tV; rw [if_neg h]
theorem tA_bad {s : ByteArray} {a : Nat} {m : Int} (h : ¬ tC s a m = 0) : tA s a m = a := by unfold tA; rw [if_neg h]

/-- What a step of the kind of counted leaves. -/
def TxtPost (r : Nat) (s : ByteArray) (a : Nat) (m c : Int) (w w' : World) : Prop := ∃ a', Rdr w' r s a' c ∧ (tC s a m = 0 → a' = tA s a m) ∧ Only r w w'

theorem ret_strC {x y : ByteArray} {e f : Int} (h1 : x = y) (h2 : e = f) : Ending.returned (.tuple #[.string x, .int .i64 e]) = .returned (.tuple #[.string y, .int .i64 f]) := by rw [h1, h2]

theorem ext_le (s : ByteArray) (a b : Nat) : (s.extract a b).size ≤ s.size := by rw [ByteArray.size_extract]; omega

end Go.Proofs.YthbdjgebpjffgaaGreatDoor
