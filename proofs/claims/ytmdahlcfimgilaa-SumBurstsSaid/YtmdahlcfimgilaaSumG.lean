/-
  The walk of the law SumBursts: four bytes that follow one another, laid over with others that are not all 0, have another sum.
  Conditions: the numbers fit their kinds; a text is no longer than Go allows.
-/
import Derived.Test.YtmdahlcfimgilaaSumF
namespace Go.Proofs.Ytmdahlcfimgilaa
open Go.RowKit

/-- The bytes behind so many rounds. -/
def lay (p q : List UInt8) (x0 x1 x2 x3 : UInt8) (o : Nat) : Nat → List UInt8
  | 0 => mid p q x0 x1 x2 x3
  | 1 => mid p q (x0 ^^^ UInt8.ofNat o) x1 x2 x3
  | 2 => mid p q (x0 ^^^ UInt8.ofNat o) (x1 ^^^ UInt8.ofNat (o / 256)) x2 x3
  | 3 => mid p q (x0 ^^^ UInt8.ofNat o) (x1 ^^^ UInt8.ofNat (o / 256)) (x2 ^^^ UInt8.ofNat (o / 65536)) x3
  | _ => mid p q (x0 ^^^ UInt8.ofNat o) (x1 ^^^ UInt8.ofNat (o / 256)) (x2 ^^^ UInt8.ofNat (o / 65536)) (x3 ^^^ UInt8.ofNat (o / 16777216))

theorem xor_u8' (b : UInt8) {v : Nat} (h : v < 256) : bits .xor .u8 (b.toNat : Int) (v : Int) = ((b ^^^ UInt8.ofNat v).toNat : Int) := by
  have := xor_u8 b v
  rwa [show (v : Int) % 256 = v by omega] at this

theorem marked_cell (w : World) (C : Array Value) (T : TypeId) (M : Nat × Nat) (j : Nat) : (w.alloc (.cells C T M)).cell? ⟨w.heap.size, j, none⟩ = C[j]? :=
  cell_of_row _ _ j C T M (heap_alloc_new w _)
theorem marked_free (w : World) (C : Array Value) (T : TypeId) (M j : Nat) (h : j < M) : (w.alloc (.cells C T (M, M + 1))).frozen? ⟨w.heap.size, j, none⟩ = false := by
  unfold World.frozen?
  rw [show (w.alloc (.cells C T (M, M + 1))).heap[(⟨w.heap.size, j, none⟩ : Addr).block]? = some (.cells C T (M, M + 1)) from heap_alloc_new w _]
  simp
  omega
theorem marked_set (w : World) (C : Array Value) (T : TypeId) (M : Nat × Nat) (j : Nat) (v : Value) : (w.alloc (.cells C T M)).setCell ⟨w.heap.size, j, none⟩ v = w.alloc (.cells (C.setIfInBounds j v) T M) := by
  unfold World.setCell
  have e : ∀ (f : Obj → Obj), (w.alloc (.cells C T M)).heap.modify w.heap.size f = w.heap.push (f (.cells C T M)) := by
    intro f
    show (w.heap.push (.cells C T M)).modify w.heap.size f = _
    apply Array.ext
    · simp
    · intro i h1 h2
      simp only [Array.getElem_modify, Array.getElem_push]
      by_cases h : w.heap.size = i
      · subst h
        simp
      · have hi : i < w.heap.size := by simp at h1; omega
        simp [h, hi]
  simp only [e]
  rfl

theorem xo0 (b : UInt8) (o : Nat) : bits .xor .u8 (b.toNat : Int) ((o : Int) % 256) = ((b ^^^ UInt8.ofNat o).toNat : Int) := xor_u8 b o
theorem xo1 (b : UInt8) (o : Nat) : bits .xor .u8 (b.toNat : Int) ((o : Int) / 256 % 256) = ((b ^^^ UInt8.ofNat (o / 256)).toNat : Int) := xor_u8 b (o / 256)
theorem xo2 (b : UInt8) (o : Nat) : bits .xor .u8 (b.toNat : Int) ((o : Int) / 65536 % 256) = ((b ^^^ UInt8.ofNat (o / 65536)).toNat : Int) := xor_u8 b (o / 65536)
theorem xo3 (b : UInt8) {o : Nat} (h : o < 4294967296) : bits .xor .u8 (b.toNat : Int) ((o : Int) / 16777216) = ((b ^^^ UInt8.ofNat (o / 16777216)).toNat : Int) := xor_u8' b (v := o / 16777216) (by omega)

section
variable (w : World) {p q : List UInt8} {x0 x1 x2 x3 : UInt8} {o k : Nat} (n M : Nat) (h : p.length = k)
include h
theorem lay_at0 : (w.alloc (.cells (row (lay p q x0 x1 x2 x3 o 0) n) 5 (M, M + 1))).cell? ⟨w.heap.size, k, none⟩ = some (.int .u8 (x0.toNat : Int)) := by subst h; rw [marked_cell]; exact row_at (mid_at0 ..)
theorem lay_set0 : (w.alloc (.cells (row (lay p q x0 x1 x2 x3 o 0) n) 5 (M, M + 1))).setCell ⟨w.heap.size, k, none⟩ (.int .u8 ((x0 ^^^ UInt8.ofNat o).toNat : Int)) = w.alloc (.cells (row (lay p q x0 x1 x2 x3 o 1) n) 5 (M, M + 1)) := by
  subst h
  rw [marked_set, row_set (by simp only [lay, mid_len]; omega)]
  simp only [lay, mid_set0]
theorem lay_at1 : (w.alloc (.cells (row (lay p q x0 x1 x2 x3 o 1) n) 5 (M, M + 1))).cell? ⟨w.heap.size, k + 1, none⟩ = some (.int .u8 (x1.toNat : Int)) := by subst h; rw [marked_cell]; exact row_at (mid_at1 ..)
theorem lay_set1 : (w.alloc (.cells (row (lay p q x0 x1 x2 x3 o 1) n) 5 (M, M + 1))).setCell ⟨w.heap.size, k + 1, none⟩ (.int .u8 ((x1 ^^^ UInt8.ofNat (o / 256)).toNat : Int)) = w.alloc (.cells (row (lay p q x0 x1 x2 x3 o 2) n) 5 (M, M + 1)) := by
  subst h
  rw [marked_set, row_set (by simp only [lay, mid_len]; omega)]
  simp only [lay, mid_set1]
theorem lay_at2 : (w.alloc (.cells (row (lay p q x0 x1 x2 x3 o 2) n) 5 (M, M + 1))).cell? ⟨w.heap.size, k + 2, none⟩ = some (.int .u8 (x2.toNat : Int)) := by subst h; rw [marked_cell]; exact row_at (mid_at2 ..)
theorem lay_set2 : (w.alloc (.cells (row (lay p q x0 x1 x2 x3 o 2) n) 5 (M, M + 1))).setCell ⟨w.heap.size, k + 2, none⟩ (.int .u8 ((x2 ^^^ UInt8.ofNat (o / 65536)).toNat : Int)) = w.alloc (.cells (row (lay p q x0 x1 x2 x3 o 3) n) 5 (M, M + 1)) := by
  subst h
  rw [marked_set, row_set (by simp only [lay, mid_len]; omega)]
  simp only [lay, mid_set2]
theorem lay_at3 : (w.alloc (.cells (row (lay p q x0 x1 x2 x3 o 3) n) 5 (M, M + 1))).cell? ⟨w.heap.size, k + 3, none⟩ = some (.int .u8 (x3.toNat : Int)) := by subst h; rw [marked_cell]; exact row_at (mid_at3 ..)
theorem lay_set3 : (w.alloc (.cells (row (lay p q x0 x1 x2 x3 o 3) n) 5 (M, M + 1))).setCell ⟨w.heap.size, k + 3, none⟩ (.int .u8 ((x3 ^^^ UInt8.ofNat (o / 16777216)).toNat : Int)) = w.alloc (.cells (row (lay p q x0 x1 x2 x3 o 4) n) 5 (M, M + 1)) := by
  subst h
  rw [marked_set, row_set (by simp only [lay, mid_len]; omega)]
  simp only [lay, mid_set3]
end

set_option maxHeartbeats 1000000 in
theorem sumBursts_walk0 (s : ByteArray) (a : Int) (o : Nat) (w : World) (h0 : s.size ≤ maxLen) (h2 : o < 4294967296) (h3 : s.size ≤ 3000) (h4 : 4 ≤ s.size) (h5 : 0 < o) :
    Calls Try.prog 5 #[.string s, .int .i64 a, .int .u32 o] w fun e w' => e = .returned (.bool true) ∧ Below w.heap.size w w' := by
  have h0' := h0
  unfold maxLen at h0
  obtain ⟨x, hx⟩ : ∃ x : Nat, IntKind.u64.wrap a = x := ⟨(IntKind.u64.wrap a).toNat, by rw [IntKind.wrap_u64]; omega⟩
  have m1 := Int.emod_nonneg (x : Int) (show (s.size : Int) - 3 ≠ 0 by omega)
  have m2 := Int.emod_lt_of_pos (x : Int) (show (0 : Int) < (s.size : Int) - 3 by omega)
  obtain ⟨k, hk⟩ : ∃ k : Nat, (x : Int) % (s.size - 3) = k := ⟨((x : Int) % (s.size - 3)).toNat, by omega⟩
  have hks : k + 4 ≤ s.size := by omega
  clear m1 m2
  obtain ⟨p, q, x0, x1, x2, x3, hp, hl⟩ := mid_of s.data.toList k (by simpa using hks)
  have HP := Lib.hid hp
  have HL := Lib.hid hl
  have HT := Lib.hid (mid_sum p q x0 x1 x2 x3 (by omega) h2)
  clear hp hl
  have hk0 : (0 : Int) ≤ k := by omega
  have hk1 : (k : Int) + 4 ≤ s.size := by omega
  have hxb : (x : Int) ≤ 18446744073709551615 := by rw [← hx, IntKind.wrap_u64]; omega
  have ho0 : (0 : Int) < o := by omega
  have ho1 : (o : Int) ≤ 4294967295 := by omega
  have hsz : (4 : Int) ≤ s.size := by omega
  have t1 : decide ((3000 : Int) < s.size) = false := by simp; omega
  have t2 : decide ((s.size : Int) < 4) = false := by simp; omega
  have t3 : ((o : Int) == 0) = false := by simp; omega
  have kc := fun (W : World) => run_bytes_of_string (P := Try.prog) W 9 32 5 s (by kernel_rfl) (by kernel_rfl) (by kernel_rfl)
  simp only [bytesRow_eq] at kc
  go_enter Try.func5, Try.ntmps5
  go_wp2_with fail
  refine (works_any _).mono ?_
  rintro e w1 ⟨rfl, b1⟩
  go_wp2
  clear kc t1 t2 t3 hx hk
  obtain ⟨c, hc⟩ : ∃ c : Nat, grownCap w1 s.size 0 5 = c := ⟨_, rfl⟩
  obtain ⟨n, hn⟩ : ∃ n : Nat, c - s.size = n := ⟨_, rfl⟩
  obtain ⟨M, hM⟩ : ∃ M : Nat, (row s.data.toList n).size = M := ⟨_, rfl⟩
  rw [hc, hn, hM, HL.out]
  have hMk : k + 4 ≤ M := by rw [← hM]; simp [row]; omega
  clear hc hn hM
  go_loopw [9] (fun i wr => ∃ (j : Nat), i = .int .i64 j ∧ j ≤ 4 ∧ wr = (w1.alloc (.cells (row (lay p q x0 x1 x2 x3 o j) n) 5 (M, M + 1))).drew) (fun i _ => 4 - (intOf i).toNat)
  case atStart => exact ⟨0, rfl, by omega, rfl⟩
  case round =>
    obtain ⟨j, rfl, hj, rfl⟩ := hrel
    by_cases hj4 : j < 4
    · have hj' : j = 0 ∨ j = 1 ∨ j = 2 ∨ j = 3 := by omega
      rcases hj' with rfl | rfl | rfl | rfl
      · have hat := lay_at0 w1 (q := q) (x0 := x0) (x1 := x1) (x2 := x2) (x3 := x3) (o := o) n M HP.out
        have hfr := marked_free w1 (row (lay p q x0 x1 x2 x3 o 0) n) 5 M (k) (by omega)
        have HS := Lib.hid (lay_set0 w1 (q := q) (x0 := x0) (x1 := x1) (x2 := x2) (x3 := x3) (o := o) n M HP.out)
        have HX := Lib.hid (xo0 x0 o)
        go_wp2
        go_roundw
        case rel => exact ⟨1, rfl, by omega, by rw [HX.out, HS.out]⟩
        case measure => simp [intOf]
      · have hat := lay_at1 w1 (q := q) (x0 := x0) (x1 := x1) (x2 := x2) (x3 := x3) (o := o) n M HP.out
        have hfr := marked_free w1 (row (lay p q x0 x1 x2 x3 o 1) n) 5 M (k + 1) (by omega)
        have HS := Lib.hid (lay_set1 w1 (q := q) (x0 := x0) (x1 := x1) (x2 := x2) (x3 := x3) (o := o) n M HP.out)
        have HX := Lib.hid (xo1 x1 o)
        go_wp2
        go_roundw
        case rel => exact ⟨2, rfl, by omega, by rw [HX.out, HS.out]⟩
        case measure => simp [intOf]
      · have hat := lay_at2 w1 (q := q) (x0 := x0) (x1 := x1) (x2 := x2) (x3 := x3) (o := o) n M HP.out
        have hfr := marked_free w1 (row (lay p q x0 x1 x2 x3 o 2) n) 5 M (k + 2) (by omega)
        have HS := Lib.hid (lay_set2 w1 (q := q) (x0 := x0) (x1 := x1) (x2 := x2) (x3 := x3) (o := o) n M HP.out)
        have HX := Lib.hid (xo2 x2 o)
        go_wp2
        go_roundw
        case rel => exact ⟨3, rfl, by omega, by rw [HX.out, HS.out]⟩
        case measure => simp [intOf]
      · have hat := lay_at3 w1 (q := q) (x0 := x0) (x1 := x1) (x2 := x2) (x3 := x3) (o := o) n M HP.out
        have hfr := marked_free w1 (row (lay p q x0 x1 x2 x3 o 3) n) 5 M (k + 3) (by omega)
        have HS := Lib.hid (lay_set3 w1 (q := q) (x0 := x0) (x1 := x1) (x2 := x2) (x3 := x3) (o := o) n M HP.out)
        have HX := Lib.hid (xo3 x3 h2)
        go_wp2
        go_roundw
        case rel => exact ⟨4, rfl, by omega, by rw [HX.out, HS.out]⟩
        case measure => simp [intOf]
    · obtain rfl : j = 4 := by omega
      have hcv := conv_row w1 (lay p q x0 x1 x2 x3 o 4) n c w1.heap.size s.size (M, M + 1) rfl (by simp only [lay, mid_len]; have := congrArg List.length HL.out; simp only [mid_len] at this; simpa using this.symm)
      obtain ⟨t, ht⟩ : ∃ t : ByteArray, t = ⟨(lay p q x0 x1 x2 x3 o 4).toArray⟩ := ⟨_, rfl⟩
      have htd : t.data.toList = lay p q x0 x1 x2 x3 o 4 := by rw [ht]
      rw [← ht] at hcv
      have hts : t.size = s.size := by
        have e1 : t.size = t.data.toList.length := by simp
        have e2 : s.size = s.data.toList.length := by simp
        rw [e1, e2, htd, HL.out]
        simp only [lay, mid_len]
      have hne : ofC t.data.toList ≠ ofC s.data.toList := by rw [htd, HL.out]; exact HT.out
      clear htd ht
      have hnb : (((ofC t.data.toList : Nat) : Int) != (ofC s.data.toList : Nat)) = true := by simp; omega
      have hna : ¬ (((ofC t.data.toList : Nat) : Int) = (ofC s.data.toList : Nat)) := by omega
      have HE := Lib.hid (other_ends (ofC_lt s.data.toList) hne)
      clear hne
      have hts2 : t.size ≤ maxLen := by rw [hts]; exact h0'
      have hadd : ∀ W, (Op.stringOp .add t (foursS (ofC s.data.toList))).run Try.prog W = .ok (.string (t ++ foursS (ofC s.data.toList))) W := fun W => run_string_add_sum W _ _ (by rw [foursS_size]; omega)
      have hte : (t ++ foursS (ofC s.data.toList)).size ≤ 1048576 := by rw [ByteArray.size_append, foursS_size]; omega
      have g1 : Below w.heap.size w (w1.alloc (.cells (row (lay p q x0 x1 x2 x3 o 4) n) 5 (M, M + 1))).drew := (b1.alloc b1.size _).drew
      go_wp2_with fail
      refine (of_any _ _ hts2).mono ?_
      rintro e w2 ⟨rfl, rfl⟩
      go_wp2_with fail
      refine (of_any _ _ h0').mono ?_
      rintro e w2 ⟨rfl, rfl⟩
      go_wp2_with fail
      refine (of_any _ _ h0').mono ?_
      rintro e w2 ⟨rfl, rfl⟩
      go_wp2_with fail
      refine (bytes_any _ _ (ofC_lt _)).mono ?_
      rintro e w3 ⟨rfl, b3⟩
      have g3 := below_then g1 b3
      clear b3 g1
      go_wp2_with fail
      refine (ends_any _ _ hte).mono ?_
      rw [HE.out]
      rintro e w4 ⟨rfl, b4⟩
      have g4 := below_then g3 b4
      clear b4 g3
      go_wp2
      go_ret
      exact ⟨rfl, g4⟩

theorem sumBursts_walk (s : ByteArray) (a o : Int) (w : World) (h0 : s.size ≤ maxLen) (_h1 : (Lit.int .i64 a).wf = true) (h2 : (Lit.int .u32 o).wf = true) :
    Calls Try.prog 5 #[.string s, .int .i64 a, .int .u32 o] w fun e w' => e = .returned (.bool true) ∧ Below w.heap.size w w' := by
  have hb := bounds_u32 h2
  obtain ⟨m, rfl⟩ : ∃ m : Nat, o = m := ⟨o.toNat, by omega⟩
  have h0' := h0
  unfold maxLen at h0
  by_cases h3 : s.size ≤ 3000
  · by_cases h4 : 4 ≤ s.size
    · by_cases h5 : 0 < m
      · exact sumBursts_walk0 s a m w h0' (by omega) h3 h4 h5
      · obtain rfl : m = 0 := by omega
        go_enter Try.func5, Try.ntmps5
        go_wp2_with fail
        refine (works_any _).mono ?_
        rintro e w1 ⟨rfl, b1⟩
        go_wp2
        go_ret
        exact ⟨rfl, b1⟩
    · go_enter Try.func5, Try.ntmps5
      go_wp2_with fail
      refine (works_any _).mono ?_
      rintro e w1 ⟨rfl, b1⟩
      go_wp2
      go_ret
      exact ⟨rfl, b1⟩
  · go_enter Try.func5, Try.ntmps5
    go_wp2_with fail
    refine (works_any _).mono ?_
    rintro e w1 ⟨rfl, b1⟩
    go_wp2
    go_ret
    exact ⟨rfl, b1⟩
end Go.Proofs.Ytmdahlcfimgilaa
