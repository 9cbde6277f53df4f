/-
  A vector in writing: what Text of package vec, and the document's own Text, answer.
  Conditions: the elements are uint32 numbers; the library's own table of powers of ten holds what its text says.
-/
import Derived.Test.YtfmdmifpgmkohaaDoorVecU
import Derived.Test.YtfmdmifpgmkohaaDoorVecT
import Derived.Test.YtfmdmifpgmkohaaDoorIdM
import Derived.Laws.MakeOwn
import Derived.Outline
namespace Go.Proofs.YtfmdmifpgmkohaaDoor
open Go.RowKit

/-- The first k elements in decimal, commas between them. -/
def catT (v : Nat → Int) : Nat → List UInt8
  | 0 => []
  | k + 1 => catT v k ++ ((if k = 0 then [] else [44]) ++ Lib.decDigits (v k).toNat)
def textV (v : Nat → Int) : ByteArray := if lngV v 8 = 0 then ⟨#[45]⟩ else ⟨(catT v (lngV v 8)).toArray⟩

theorem join_snoc (l : List (List UInt8)) (x sep : List UInt8) (h : l ≠ []) : Lib.join (l ++ [x]) sep = Lib.join l sep ++ (sep ++ x) := by
  cases l with
  | nil => exact absurd rfl h
  | cons y r => rw [List.cons_append, Lib.join_cons, Lib.join_cons]; simp [Lib.joinTail]
theorem join_cat (v : Nat → Int) : ∀ k, Lib.join ((List.range k).map fun j => Lib.decDigits (v j).toNat) [44] = catT v k
  | 0 => rfl
  | 1 => by simp [catT, Lib.join_one, List.range_succ]
  | k + 2 => by
    rw [List.range_succ, List.map_append, List.map_singleton, join_snoc _ _ _ (by simp), join_cat v (k + 1), catT.eq_def v (k + 2)]
    simp
theorem dec_len10 {n : Nat} (h : n < 4294967296) : (Lib.decDigits n).length ≤ 10 := digS_size (k := 9) (q := n) (by omega)
theorem catT_len {v : Nat → Int} (hv : ∀ i, i < 8 → 0 ≤ v i ∧ v i ≤ 4294967295) : ∀ k, k ≤ 8 → (catT v k).length ≤ 11 * k
  | 0, _ => by simp [catT]
  | k + 1, hk => by
    have h1 := catT_len hv k (by omega)
    have h2 := dec_len10 (n := (v k).toNat) (by have := hv k (by omega); omega)
    rw [catT, List.length_append, List.length_append]
    have h3 : (if k = 0 then ([] : List UInt8) else [44]).length ≤ 1 := by split <;> simp
    omega

theorem trimmed_val (v : Nat → Int) (n : Nat) (w : World) (hn : lngV v 8 = n) :
    Calls Tryd.prog 26 #[.agg #[.int .u32 (v 0), .int .u32 (v 1), .int .u32 (v 2), .int .u32 (v 3), .int .u32 (v 4), .int .u32 (v 5), .int .u32 (v 6), .int .u32 (v 7)]] w fun e w' => e = .returned (.slice (some ⟨w.heap.size, 0, none⟩) n 8) ∧ Blk w' w.heap.size #[.int .u32 (v 0), .int .u32 (v 1), .int .u32 (v 2), .int .u32 (v 3), .int .u32 (v 4), .int .u32 (v 5), .int .u32 (v 6), .int .u32 (v 7)] 24 ∧ Below w.heap.size w w' := by
  subst hn; exact trimmed_any v w

/-- The row of numerals: the first k are there. -/
def numRow (v : Nat → Int) (n k : Nat) : Array Value := ((List.range n).map fun j => Value.string (if j < k then digS (v j).toNat else ByteArray.empty)).toArray
theorem numRow_none (v : Nat → Int) (n : Nat) : numRow v n 0 = Array.replicate n (.string ByteArray.empty) := by
  apply Array.ext'
  simp only [numRow, Array.toList_replicate]
  apply List.ext_getElem
  · simp
  · intro i h1 h2; simp
theorem numRow_at {v : Nat → Int} {n k j : Nat} (hj : j < n) : (numRow v n k)[j]? = some (.string (if j < k then digS (v j).toNat else ByteArray.empty)) := by
  simp [numRow, hj]
theorem numRow_set {v : Nat → Int} {n k : Nat} (hk : k < n) : (numRow v n k).setIfInBounds k (.string (digS (v k).toNat)) = numRow v n (k + 1) := by
  apply Array.ext_getElem?
  intro j
  rw [Array.getElem?_setIfInBounds]
  by_cases h : k = j
  · subst h
    rw [if_pos rfl, if_pos (by simp [numRow]; exact hk), numRow_at hk, if_pos (by omega)]
  · rw [if_neg h]
    by_cases hj : j < n
    · rw [numRow_at hj, numRow_at hj]
      by_cases h2 : j < k
      · rw [if_pos h2, if_pos (by omega)]
      · rw [if_neg h2, if_neg (by omega)]
    · rw [Array.getElem?_eq_none (by simp [numRow]; omega), Array.getElem?_eq_none (by simp [numRow]; omega)]

theorem made_one (x : Value) (n : Nat) : madeCells #[x] n = Array.replicate n x := by
  apply Array.ext_getElem?
  intro j
  rw [Array.getElem?_replicate]
  by_cases h : j < n
  · simp [madeCells, h, Nat.mod_one]
  · simp [madeCells, h]
theorem make_row (v : Nat → Int) (n : Nat) (hn : n ≤ 8) (w : World) :
    (Instr.makeSlice 59 (.int .i64 (n : Int)) (.int .i64 (n : Int))).run Tryd.prog w = .ok (.slice (some ⟨w.heap.size, 0, none⟩) n n) (w.alloc (.cells (numRow v n 0) 9)) := by
  have hinfo : (Tryd.prog.info? 9).map (fun i => (i.zero, i.size, i.bytes)) = some (some (.string ByteArray.empty), 1, 16) := by kernel_rfl
  obtain ⟨i, hi, hz, hs, hb⟩ : ∃ i, Tryd.prog.info? 9 = some i ∧ i.zero = some (.string ByteArray.empty) ∧ i.size = 1 ∧ i.bytes = 16 := by
    cases h : Tryd.prog.info? 9 with
    | none => rw [h] at hinfo; cases hinfo
    | some i => rw [h] at hinfo; simp at hinfo; exact ⟨i, rfl, hinfo.1, hinfo.2.1, hinfo.2.2⟩
  rw [run_make w 59 9 i (.string ByteArray.empty) Tryd.underlying59 hi hz .i64 .i64 (n : Int) (n : Int) (by omega) (by omega) (by rw [hb]; omega) (by omega), hs, Int.toNat_natCast]
  rw [numRow_none, Nat.mul_one, show (Value.string ByteArray.empty).cells = #[Value.string ByteArray.empty] from rfl, made_one]

theorem fmt_val (x : Int) (h0 : 0 ≤ x) (h1 : x ≤ 4294967295) (w : World) (ht : Tab w) :
    Calls Tryd.prog 27 #[.int .u64 x, .int .i64 10] w fun e w' => e = .returned (.string (digS x.toNat)) ∧ Below w.heap.size w w' := by
  obtain ⟨n, rfl⟩ : ∃ n : Nat, x = n := ⟨x.toNat, by omega⟩
  exact fmt_any n (by omega) w ht

theorem joinNum_any (v : Nat → Int) (g n : Nat) (w : World) (hv : ∀ i, i < 8 → 0 ≤ v i ∧ v i ≤ 4294967295) (hn : n ≤ 8) (h : Blk w g (numRow v n n) 9) :
    Calls Tryd.prog 28 #[.slice (some ⟨g, 0, none⟩) n n, .string ⟨#[44]⟩] w fun e w' => e = .returned (.string ⟨(catT v n).toArray⟩) ∧ Below w.heap.size w w' := by
  have hl : ((List.range n).map fun j => digS (v j).toNat).length = n := by simp
  have hm : (((List.range n).map fun j => digS (v j).toNat).map (·.data.toList)) = (List.range n).map fun j => Lib.decDigits (v j).toNat := by
    rw [List.map_map]; rfl
  have hc := catT_len hv n hn
  have hj := Any.strings_Join Tryd.lays_Lays_n156 Tryd.builderExtra g 0 n ((List.range n).map fun j => digS (v j).toNat) ⟨#[44]⟩ w
    (fun j x hx => by
      have hjn : j < n := by
        rcases Nat.lt_or_ge j n with h1 | h1
        · exact h1
        · rw [List.getElem?_eq_none (by simpa using h1)] at hx; cases hx
      rw [Nat.zero_add, Blk.cell h, numRow_at hjn, if_pos hjn]
      rw [List.getElem?_map, List.getElem?_range hjn] at hx
      simp only [Option.map_some, Option.some.injEq] at hx
      rw [hx])
    h.lt (by rw [hl]; omega) (by rw [hl]; exact Nat.le_refl _) (by rw [hm, show (ByteArray.mk #[44]).data.toList = [44] from rfl, join_cat]; omega)
  rw [hl, hm, show (ByteArray.mk #[44]).data.toList = [44] from rfl, join_cat] at hj
  exact hj

set_option maxRecDepth 100000 in
set_option maxHeartbeats 400000 in
theorem text_any (v : Nat → Int) (w : World) (hv : ∀ i, i < 8 → 0 ≤ v i ∧ v i ≤ 4294967295) (ht : Tab w) :
    Calls Tryd.prog 7 #[.agg #[.int .u32 (v 0), .int .u32 (v 1), .int .u32 (v 2), .int .u32 (v 3), .int .u32 (v 4), .int .u32 (v 5), .int .u32 (v 6), .int .u32 (v 7)]] w fun e w' => e = .returned (.string (textV v)) ∧ Below w.heap.size w w' := by
  have hb := (Below.refl w.heap.size w).alloc (Nat.le_refl _) (.cells #[.int .u32 (v 0), .int .u32 (v 1), .int .u32 (v 2), .int .u32 (v 3), .int .u32 (v 4), .int .u32 (v 5), .int .u32 (v 6), .int .u32 (v 7)] 24)
  have hz1 : (w.alloc (.cells #[.int .u32 (v 0), .int .u32 (v 1), .int .u32 (v 2), .int .u32 (v 3), .int .u32 (v 4), .int .u32 (v 5), .int .u32 (v 6), .int .u32 (v 7)] 24)).heap.size = w.heap.size + 1 := by simp
  have HT := Lib.hid ht; clear ht
  have HV := Lib.hid hv; clear hv
  by_cases h0 : lngV v 8 = 0
  · have HR : Hid (textV v = ⟨#[45]⟩) := Lib.hid (by unfold textV; rw [if_pos h0])
    have H0 := Lib.hid h0; clear h0
    go_enter Tryd.func7, Tryd.ntmps7
    go_wp2_with fail
    refine (trimmed_val v 0 _ H0.out).mono ?_
    rintro e w1 ⟨rfl, hb1, bl1⟩
    have b := below_then hb bl1
    clear hb1 bl1 hz1
    go_wp2
    go_ret
    exact ⟨by rw [HR.out]; rfl, b⟩
  · obtain ⟨n, hn⟩ : ∃ n, lngV v 8 = n := ⟨_, rfl⟩
    have hn0 : 0 < n := by omega
    have hn8 : n ≤ 8 := by have := lngV_le v 8; omega
    have HR : Hid (textV v = ⟨(catT v n).toArray⟩) := Lib.hid (by unfold textV; rw [if_neg h0, hn])
    have HN := Lib.hid hn; clear hn h0
    have t0 : ((n : Int) == 0) = false := by simp; omega
    go_enter Tryd.func7, Tryd.ntmps7
    go_wp2_with fail
    refine (trimmed_val v n _ HN.out).mono ?_
    rintro e w1 ⟨rfl, hb1, bl1⟩
    have b := below_then hb bl1
    rw [hz1] at hb1
    have HB1 := Lib.hid hb1
    clear hb1 bl1 hz1
    have hmk := make_row v n hn8 w1
    have hn63 : (n : Int) ≤ 8 := by omega
    have hl1 := Blk.lt HB1.out
    have HL := Lib.hid ((HB1.out.alloc (.cells (numRow v n 0) 9)))
    have HG := Lib.hid (Blk.new w1 (numRow v n 0) 9)
    have hbA := below_new b (.cells (numRow v n 0) 9)
    clear HB1
    go_wp2
    go_loopw [17] (fun i wr => ∃ k : Nat, k ≤ n ∧ i = .int .i64 k ∧ Below w.heap.size w wr ∧ Blk wr (w.heap.size + 1) #[.int .u32 (v 0), .int .u32 (v 1), .int .u32 (v 2), .int .u32 (v 3), .int .u32 (v 4), .int .u32 (v 5), .int .u32 (v 6), .int .u32 (v 7)] 24 ∧ Blk wr w1.heap.size (numRow v n k) 9) (fun i _ => n - (intOf i).toNat)
    case atStart => exact ⟨0, Nat.zero_le _, rfl, hbA, HL.out, HG.out⟩
    case round =>
      obtain ⟨k, hk, rfl, hbel, hB1, hG1⟩ := hrel
      clear HL HG hbA b hmk
      have HB := Lib.hid hB1; clear hB1
      have HG := Lib.hid hG1; clear hG1
      by_cases hlt : k < n
      · have hi := vec_cell HB.out k (by omega)
        have hvk := HV.out k (by omega)
        have HTk := Lib.hid (HT.out.below hbel (Nat.le_refl _))
        go_wp2_with fail
        refine (fmt_val (v k) hvk.1 hvk.2 _ HTk.out).mono ?_
        rintro e w2 ⟨rfl, b2⟩
        have HB2 := Lib.hid (HB.out.below b2)
        have HG2 := Lib.hid (HG.out.below b2)
        have hbel2 := below_then hbel b2
        have g1 : w2.cell? ⟨w1.heap.size, k, none⟩ = some (.string ByteArray.empty) := by rw [Blk.cell HG2.out, numRow_at hlt, if_neg (by omega)]
        have g2 := Blk.free HG2.out k
        have HG3 := Lib.hid (HG2.out.set k (.string (digS (v k).toNat)))
        have HB3 := Lib.hid (HB2.out.far (show w.heap.size + 1 ≠ w1.heap.size by omega) k (.string (digS (v k).toNat)))
        have HS : Hid ((numRow v n k).setIfInBounds k (.string (digS (v k).toNat)) = numRow v n (k + 1)) := Lib.hid (numRow_set hlt)
        have HBe := Lib.hid (hbel2.setCell (p := ⟨w1.heap.size, k, none⟩) (by simp; omega) (.string (digS (v k).toNat)))
        clear hbel b2 hbel2 hi HB2 HG2
        go_wp2
        go_roundw
        case rel => exact ⟨k + 1, by omega, by go_num, HBe.out, HB3.out, by rw [← HS.out]; exact HG3.out⟩
        case measure => simp [intOf]; omega
      · obtain rfl : k = n := by omega
        go_wp2_with fail
        refine (joinNum_any v w1.heap.size k _ HV.out hn8 HG.out).mono ?_
        rintro e w2 ⟨rfl, b2⟩
        have hbel2 := below_then hbel b2
        clear hbel b2
        go_wp2
        go_ret
        exact ⟨by rw [HR.out]; rfl, hbel2⟩
end Go.Proofs.YtfmdmifpgmkohaaDoor
