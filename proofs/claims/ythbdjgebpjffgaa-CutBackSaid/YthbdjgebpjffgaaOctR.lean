/-
  What the methods of package octet's Reader answer, whatever bytes they read.
  Conditions: the reader lies in a block of its own.
-/
import Derived.Test.YthbdjgebpjffgaaOctB
import Derived.Test.YthbdjgebpjffgaaOctK
import Derived.Outline
import Derived.Lib.RabinKarpLaws
import Derived.Laws.BitsAllLaws
import Derived.Shelf.LaysM
import Derived.Shelf.Strconv.Clone
import Derived.Test.YthbdjgebpjffgaaProg
set_option linter.unusedVariables false
set_option linter.unusedSimpArgs false
namespace Go.Proofs.Ythbdjgebpjffgaa
open Go.RowKit

/-- A reader of package octet at block r: its bytes, its place, its error's number. -/
def Rdr (w : World) (r : Nat) (s : ByteArray) (a : Nat) (c : Int) : Prop := Blk w r #[.string s, .int .i64 (a : Int), .int .i64 c] 82

theorem Rdr.c0 {w : World} {r a : Nat} {s : ByteArray} {c : Int} (h : Rdr w r s a c) : w.cell? ⟨r, 0, none⟩ = some (.string s) := by rw [Blk.cell h]; rfl
theorem Rdr.c1 {w : World} {r a : Nat} {s : ByteArray} {c : Int} (h : Rdr w r s a c) : w.cell? ⟨r, 1, none⟩ = some (.int .i64 a) := by rw [Blk.cell h]; rfl
theorem Rdr.c2 {w : World} {r a : Nat} {s : ByteArray} {c : Int} (h : Rdr w r s a c) : w.cell? ⟨r, 2, none⟩ = some (.int .i64 c) := by rw [Blk.cell h]; rfl

theorem new_any (s : ByteArray) (w : World) :
    Calls Try.prog 28 #[.string s] w fun e w' => e = .returned (.pointer (some ⟨w.heap.size, 0, none⟩)) ∧ w' = w.alloc (.cells #[.string s, .int .i64 0, .int .i64 0] 82) := by
  go_enter Try.func28, Try.ntmps28
  go_wp2
  go_ret
  exact ⟨rfl, rfl⟩

set_option maxHeartbeats 400000 in
theorem left_any (r a : Nat) (s : ByteArray) (c : Int) (w : World) (h : Rdr w r s a c) (ha : a ≤ s.size) (hs : s.size ≤ 1048576) :
    Calls Try.prog 30 #[.pointer (some ⟨r, 0, none⟩)] w fun e w' => e = .returned (.int .i64 ((s.size : Int) - a)) ∧ ∃ n, w' = w.drewN n := by
  have h0 := h.c0
  have h1 := h.c1
  go_enter Try.func30, Try.ntmps30
  go_wp2
  go_quiet (fail)
  go_wp2
  go_ret
  exact ⟨rfl, _, rfl⟩

theorem Rdr.drewN {w : World} {r a : Nat} {s : ByteArray} {c : Int} (h : Rdr w r s a c) (n : Nat) : Rdr (w.drewN n) r s a c := h
theorem Rdr.set1 {w : World} {r a : Nat} {s : ByteArray} {c : Int} (h : Rdr w r s a c) {x : Int} {b : Nat} (hx : x = b) : Rdr (w.setCell ⟨r, 1, none⟩ (.int .i64 x)) r s b c := by
  subst hx
  have := Blk.set h 1 (.int .i64 (b : Int))
  exact this
theorem Rdr.set2 {w : World} {r a : Nat} {s : ByteArray} {c : Int} (h : Rdr w r s a c) (x : Int) : Rdr (w.setCell ⟨r, 2, none⟩ (.int .i64 x)) r s a x := by
  have := Blk.set h 2 (.int .i64 x)
  exact this

set_option maxHeartbeats 400000 in
theorem take_ok (r a n : Nat) (s : ByteArray) (c : Int) (w : World) (h : Rdr w r s a c) (ha : a + n ≤ s.size) (hs : s.size ≤ 1048576) :
    Calls Try.prog 104 #[.pointer (some ⟨r, 0, none⟩), .int .i64 (n : Int)] w fun e w' => e = .returned (.tuple #[.string (s.extract a (a + n)), .int .i64 0]) ∧ Rdr w' r s (a + n) c ∧ Only r w w' := by
  have h0 := h.c0
  have h1 := h.c1
  have f1 := Blk.free h 1
  have HL := Lib.hid (left_any r a s c w h (by omega) hs)
  have HH := Lib.hid h; clear h
  go_enter Try.func104, Try.ntmps104
  go_wp2_with fail
  refine HL.out.mono ?_
  rintro e w1 ⟨rfl, m, rfl⟩
  go_wp2
  go_quiet (fail)
  go_wp2
  go_ret2
  exact ⟨rfl, (HH.out.drewN _).set1 (by omega), ((Only.refl r w).drewN _).set _ _⟩

set_option maxHeartbeats 400000 in
theorem take_short (r a n : Nat) (s : ByteArray) (c : Int) (w : World) (h : Rdr w r s a c) (ha : s.size < a + n) (ha' : a ≤ s.size) (hs : s.size ≤ 1048576) :
    Calls Try.prog 104 #[.pointer (some ⟨r, 0, none⟩), .int .i64 (n : Int)] w fun e w' => e = .returned (.tuple #[.string ⟨#[]⟩, .int .i64 1]) ∧ Rdr w' r s a c ∧ Only r w w' := by
  have HL := Lib.hid (left_any r a s c w h (by omega) hs)
  have HH := Lib.hid h; clear h
  go_enter Try.func104, Try.ntmps104
  go_wp2_with fail
  refine HL.out.mono ?_
  rintro e w1 ⟨rfl, m, rfl⟩
  go_wp2
  go_ret2
  exact ⟨rfl, HH.out.drewN _, (Only.refl r w).drewN _⟩

/-! ### The bytes of a text -/

/-- Byte i. -/
def bt (s : ByteArray) (i : Nat) : Nat := (s.data.toList.getD i 0).toNat
/-- k bytes from byte a on. -/
def win (s : ByteArray) (a k : Nat) : List UInt8 := (s.data.toList.drop a).take k

theorem bt_lt (s : ByteArray) (i : Nat) : bt s i < 256 := UInt8.toNat_lt _
theorem bt_at (s : ByteArray) (i : Nat) (h : i < s.size) : (s[i]).toNat = bt s i := by
  unfold bt
  have h' : i < s.data.toList.length := by simpa using h
  simp only [List.getD, List.getElem?_eq_getElem h', Option.getD_some]
  rw [byte_at' s i h h']

theorem run_idx (s : ByteArray) (i : Nat) (h : i < s.size) (W : World) : (Instr.index 9 (.string s) (.int .i64 (i : Int))).run Try.prog W = .ok (.int .u8 (bt s i : Int)) W := by
  rw [run_index_string W 9 s .i64 i (by kernel_rfl), dif_pos (by omega)]
  simp only [Int.toNat_natCast, bt_at s i h]

theorem ext_size (s : ByteArray) (a n : Nat) (h : a + n ≤ s.size) : (s.extract a (a + n)).size = n := by
  rw [ByteArray.size_extract]; omega

theorem ext_win (s : ByteArray) (a n : Nat) : (s.extract a (a + n)).data.toList = win s a n := by
  rw [Lib.extract_data, show a + n - a = n by omega, win]

theorem ext_bt (s : ByteArray) (a n i : Nat) (hi : i < n) : bt (s.extract a (a + n)) i = bt s (a + i) := by
  unfold bt
  rw [ext_win, win]
  simp only [List.getD, List.getElem?_take_of_lt hi, List.getElem?_drop]

theorem run_idx0 (s : ByteArray) (a n : Nat) (h : a + n ≤ s.size) (hn : 0 < n) (W : World) : (Instr.index 9 (.string (s.extract a (a + n))) (.int .i64 0)).run Try.prog W = .ok (.int .u8 (bt s a : Int)) W := by
  have := run_idx (s.extract a (a + n)) 0 (by rw [ext_size s a n h]; exact hn) W
  rw [ext_bt s a n 0 hn] at this
  exact this

/-- What is wrong with the encoding of a number at byte a: nothing is 0. -/
def nC (s : ByteArray) (a : Nat) : Int :=
  if s.size ≤ a then 1 else if 8 < bt s a then 3 else if s.size < a + 1 + bt s a then 1 else if 0 < bt s a ∧ bt s (a + 1) = 0 then 3 else 0
/-- The number. -/
def nV (s : ByteArray) (a : Nat) : Nat := if nC s a = 0 then valB (win s (a + 1) (bt s a)) else 0
/-- The place behind it. -/
def nA (s : ByteArray) (a : Nat) : Nat := if nC s a = 0 then a + 1 + bt s a else a

theorem empty_list {B : ByteArray} (h : B.size = 0) : B.toList = [] := by
  have : B = ⟨#[]⟩ := by
    apply ByteArray.ext
    exact Array.eq_empty_of_size_eq_zero h
  subst this
  rw [ByteArray.toList_eq]

theorem some_list {B : ByteArray} (h : 0 < B.size) : ¬ B.toList = [] ∧ (!B.toList.isEmpty) = true := by
  have : ¬ B.toList = [] := by
    intro e
    rw [ByteArray.toList_eq] at e
    have : B.data.toList.length = 0 := by rw [e]; rfl
    have h2 : B.size = B.data.toList.length := Lib.size_eq _
    omega
  exact ⟨this, by simpa using this⟩

theorem shl_or {x b : Nat} (hx : x ≤ 72057594037927935) (hb : b < 256) : bits .or .u64 ((x : Int) * 256) (b : Int) = ((x * 256 + b : Nat) : Int) := by
  have e : ((x : Int) * 256) = ((x * 256 : Nat) : Int) := by omega
  have h1 : x * 256 < 18446744073709551616 := by omega
  have h2 : b < 18446744073709551616 := by omega
  have h3 : x * 256 % 2 ^ 8 = 0 := Nat.mul_mod_left _ _
  have h4 : b < 2 ^ 8 := hb
  rw [e, u64_or_nat _ _ h1 h2, nat_join 8 _ _ h3 h4]

theorem win_len (s : ByteArray) (a k : Nat) (h : a + k ≤ s.size) : (win s a k).length = k := by
  have h2 : s.size = s.data.toList.length := Lib.size_eq _
  simp only [win, List.length_take, List.length_drop]
  omega

theorem win_next (s : ByteArray) (a k i : Nat) (h : a + k ≤ s.size) (hi : i < k) : valB ((win s a k).take (i + 1)) = valB ((win s a k).take i) * 256 + bt s (a + i) := by
  have hl := win_len s a k h
  rw [List.take_succ_eq_append_getElem (by omega), valB_snoc]
  congr 1
  have e1 : (win s a k)[i]? = s.data.toList[a + i]? := by rw [win, List.getElem?_take_of_lt hi, List.getElem?_drop]
  unfold bt
  rw [List.getD, ← e1, List.getElem?_eq_getElem (by omega), Option.getD_some]

theorem win_bound (s : ByteArray) (a k i : Nat) (h : a + k ≤ s.size) (hk : k ≤ 8) (hi : i < k) : valB ((win s a k).take i) ≤ 72057594037927935 := by
  have hl := win_len s a k h
  have h1 : valB ((win s a k).take i) < 256 ^ i := valB_lt i _ (by rw [List.length_take, hl]; omega)
  have h2 : 256 ^ i ≤ 256 ^ 7 := Nat.pow_le_pow_right (by decide) (by omega)
  have h3 : 256 ^ 7 = 72057594037927936 := by decide
  omega

/-- What number leaves. -/
def NumPost (r : Nat) (s : ByteArray) (a : Nat) (c : Int) (w w' : World) : Prop := ∃ a', Rdr w' r s a' c ∧ (nC s a = 0 → a' = nA s a) ∧ Only r w w'

theorem ret_num {s : ByteArray} {a : Nat} {v e : Int} (hv : v = nV s a) (he : e = nC s a) : Ending.returned (.tuple #[.int .u64 v, .int .i64 e]) = .returned (.tuple #[.int .u64 (nV s a : Int), .int .i64 (nC s a)]) := by rw [hv, he]

set_option maxHeartbeats 400000 in
theorem number_any (r a : Nat) (s : ByteArray) (c : Int) (w : World) (h : Rdr w r s a c) (ha : a ≤ s.size) (hs : s.size ≤ 1048576) :
    Calls Try.prog 89 #[.pointer (some ⟨r, 0, none⟩)] w fun e w' => e = .returned (.tuple #[.int .u64 (nV s a : Int), .int .i64 (nC s a)]) ∧ NumPost r s a c w w' := by
  by_cases h1 : s.size ≤ a
  · have hc : nC s a = 1 := by unfold nC; rw [if_pos h1]
    have hv : nV s a = 0 := by unfold nV; rw [hc]; rfl
    have HC := Lib.hid hc; have HV := Lib.hid hv; clear hc hv
    have HT := Lib.hid (take_short r a 1 s c w h (by omega) ha hs)
    clear h
    go_enter Try.func89, Try.ntmps89
    go_wp2_with fail
    refine HT.out.mono ?_
    rintro e w1 ⟨rfl, hr, ho⟩
    have HR := Lib.hid hr; clear hr
    go_wp2
    go_ret2
    exact ⟨ret_num (by rw [HV.out]; rfl) HC.out.symm, a, HR.out, fun h0 => by rw [HC.out] at h0; simp at h0, ho⟩
  · have HT := Lib.hid (take_ok r a 1 s c w h (by omega) hs)
    have hi1 := run_idx0 s a 1 (by omega) (by omega)
    have hb := bt_lt s a
    by_cases h2 : 8 < bt s a
    · have hc : nC s a = 3 := by unfold nC; rw [if_neg h1, if_pos h2]
      have hv : nV s a = 0 := by unfold nV; rw [hc]; rfl
      have HC := Lib.hid hc; have HV := Lib.hid hv; clear hc hv
      clear h
      go_enter Try.func89, Try.ntmps89
      go_wp2_with fail
      refine HT.out.mono ?_
      rintro e w1 ⟨rfl, hr, ho⟩
      have HR := Lib.hid hr; clear hr
      go_wp2
      go_ret2
      exact ⟨ret_num (by rw [HV.out]; rfl) HC.out.symm, a + 1, HR.out, fun h0 => by rw [HC.out] at h0; simp at h0, ho⟩
    · by_cases h3 : s.size < a + 1 + bt s a
      · have hc : nC s a = 1 := by unfold nC; rw [if_neg h1, if_neg h2, if_pos h3]
        have hv : nV s a = 0 := by unfold nV; rw [hc]; rfl
        have HC := Lib.hid hc; have HV := Lib.hid hv; clear hc hv
        clear h
        go_enter Try.func89, Try.ntmps89
        go_wp2_with fail
        refine HT.out.mono ?_
        rintro e w1 ⟨rfl, hr, ho⟩
        have HR := Lib.hid hr; clear hr
        go_wp2_with fail
        refine (take_short r (a + 1) (bt s a) s c w1 HR.out (by omega) (by omega) hs).mono ?_
        rintro e w2 ⟨rfl, hr2, ho2⟩
        have HR2 := Lib.hid hr2; clear hr2
        go_wp2
        go_ret2
        exact ⟨ret_num (by rw [HV.out]; rfl) HC.out.symm, a + 1, HR2.out, fun h0 => by rw [HC.out] at h0; simp at h0, ho.trans ho2⟩
      · have HT2 : ∀ w1, Rdr w1 r s (a + 1) c → ∃ B : ByteArray, B = s.extract (a + 1) (a + 1 + bt s a) ∧ Calls Try.prog 104 #[.pointer (some ⟨r, 0, none⟩), .int .i64 (bt s a : Int)] w1 fun e w' => e = .returned (.tuple #[.string B, .int .i64 0]) ∧ Rdr w' r s (a + 1 + bt s a) c ∧ Only r w1 w' :=
          fun w1 h1 => ⟨_, rfl, take_ok r (a + 1) (bt s a) s c w1 h1 (by omega) hs⟩
        clear h
        go_enter Try.func89, Try.ntmps89
        go_wp2_with fail
        refine HT.out.mono ?_
        rintro e w1 ⟨rfl, hr, ho⟩
        obtain ⟨B, hB, hT2⟩ := HT2 w1 hr
        have HB := Lib.hid hB
        have hsz : B.size = bt s a := by rw [hB]; exact ext_size s (a + 1) (bt s a) (by omega)
        clear hB HT2
        have HR := Lib.hid hr; clear hr
        have HT2 := Lib.hid hT2; clear hT2
        have HS := Lib.hid hsz
        have hs1 : (B.size : Int) ≤ 255 := by omega
        have HI : Hid (∀ j, j < bt s a → ∀ W, (Instr.index 9 (.string B) (.int .i64 (j : Int))).run Try.prog W = .ok (.int .u8 (bt s (a + 1 + j) : Int)) W) := Lib.hid (fun j hj W => by
          have := run_idx B j (by omega) W
          rw [this, HB.out, ext_bt s (a + 1) (bt s a) j hj])
        by_cases h4 : bt s a = 0
        · have hc : nC s a = 0 := by unfold nC; rw [if_neg h1, if_neg h2, if_neg h3, if_neg (by omega)]
          have HC := Lib.hid hc
          have HV := Lib.hid (show nV s a = valB (win s (a + 1) (bt s a)) by unfold nV; rw [if_pos hc])
          have hB0 := empty_list (B := B) (by omega)
          clear hsz hc
          have H4 := Lib.hid h4; clear h4
          go_wp2_with fail
          refine HT2.out.mono ?_
          rintro e w2 ⟨rfl, hr2, ho2⟩
          have HR2 := Lib.hid hr2; clear hr2
          go_wp2
          go_loop [7, 8, 40] (fun v _ i => ∃ j : Nat, j ≤ bt s a ∧ i = .int .i64 (j : Int) ∧ v = .int .u64 (valB ((win s (a + 1) (bt s a)).take j) : Int)) (fun _ _ i => bt s a - (intOf i).toNat)
          case atStart => exact ⟨0, by omega, rfl, rfl⟩
          case round =>
            obtain ⟨j, hj, rfl, rfl⟩ := hrel
            by_cases hlt : j < bt s a
            · have hj1 := hlt
              rw [← HS.out] at hj1
              have hidx := HI.out j hlt
              have hb2 := bt_lt s (a + 1 + j)
              have hub := win_bound s (a + 1) (bt s a) j (by omega) (by omega) hlt
              have HN := Lib.hid (win_next s (a + 1) (bt s a) j (by omega) hlt)
              have hor := shl_or hub hb2
              go_wp2
              go_round
              case rel => exact ⟨j + 1, by omega, by go_num, by rw [HN.out]; go_num⟩
              case measure => simp [intOf]; omega
            · have hjk : j = bt s a := by omega
              have HJ := Lib.hid hjk; clear hjk
              have hj1 : ¬ j < B.size := by rw [HS.out]; exact hlt
              go_wp2
              go_ret2
              exact ⟨ret_num (by rw [HV.out, HJ.out, List.take_of_length_le (by rw [win_len s (a + 1) (bt s a) (by omega)]; exact Nat.le_refl _)]) HC.out.symm, _, HR2.out, fun _ => by unfold nA; rw [if_pos HC.out], ho.trans ho2⟩
        · obtain ⟨hne, hne2⟩ := some_list (B := B) (by omega)
          have hi0 := HI.out 0 (by omega)
          rw [Nat.add_zero] at hi0
          have hi0' : ∀ W, (Instr.index 9 (.string B) (.int .i64 0)).run Try.prog W = .ok (.int .u8 (bt s (a + 1) : Int)) W := hi0
          clear hi0
          by_cases h5 : bt s (a + 1) = 0
          · have hc : nC s a = 3 := by unfold nC; rw [if_neg h1, if_neg h2, if_neg h3, if_pos (by omega)]
            have hv : nV s a = 0 := by unfold nV; rw [hc]; rfl
            have HC := Lib.hid hc; have HV := Lib.hid hv; clear hc hv
            have h5' : ((bt s (a + 1) : Int) == 0) = true := by simpa using h5
            clear hsz h4 h5
            go_wp2_with fail
            refine HT2.out.mono ?_
            rintro e w2 ⟨rfl, hr2, ho2⟩
            have HR2 := Lib.hid hr2; clear hr2
            go_wp2
            go_ret2
            exact ⟨ret_num (by rw [HV.out]; rfl) HC.out.symm, _, HR2.out, fun h0 => by rw [HC.out] at h0; simp at h0, ho.trans ho2⟩
          · have hc : nC s a = 0 := by unfold nC; rw [if_neg h1, if_neg h2, if_neg h3, if_neg (by omega)]
            have HC := Lib.hid hc
            have HV := Lib.hid (show nV s a = valB (win s (a + 1) (bt s a)) by unfold nV; rw [if_pos hc])
            have h5' : ((bt s (a + 1) : Int) == 0) = false := by simpa using h5
            clear hsz hc h4 h5
            go_wp2_with fail
            refine HT2.out.mono ?_
            rintro e w2 ⟨rfl, hr2, ho2⟩
            have HR2 := Lib.hid hr2; clear hr2
            go_wp2
            go_loop [7, 8, 40] (fun v _ i => ∃ j : Nat, j ≤ bt s a ∧ i = .int .i64 (j : Int) ∧ v = .int .u64 (valB ((win s (a + 1) (bt s a)).take j) : Int)) (fun _ _ i => bt s a - (intOf i).toNat)
            case atStart => exact ⟨0, by omega, rfl, rfl⟩
            case round =>
              obtain ⟨j, hj, rfl, rfl⟩ := hrel
              by_cases hlt : j < bt s a
              · have hj1 := hlt
                rw [← HS.out] at hj1
                have hidx := HI.out j hlt
                have hb2 := bt_lt s (a + 1 + j)
                have hub := win_bound s (a + 1) (bt s a) j (by omega) (by omega) hlt
                have HN := Lib.hid (win_next s (a + 1) (bt s a) j (by omega) hlt)
                have hor := shl_or hub hb2
                go_wp2
                go_round
                case rel => exact ⟨j + 1, by omega, by go_num, by rw [HN.out]; go_num⟩
                case measure => simp [intOf]; omega
              · have hjk : j = bt s a := by omega
                have HJ := Lib.hid hjk; clear hjk
                have hj1 : ¬ j < B.size := by rw [HS.out]; exact hlt
                go_wp2
                go_ret2
                exact ⟨ret_num (by rw [HV.out, HJ.out, List.take_of_length_le (by rw [win_len s (a + 1) (bt s a) (by omega)]; exact Nat.le_refl _)]) HC.out.symm, _, HR2.out, fun _ => by unfold nA; rw [if_pos HC.out], ho.trans ho2⟩
end Go.Proofs.Ythbdjgebpjffgaa
