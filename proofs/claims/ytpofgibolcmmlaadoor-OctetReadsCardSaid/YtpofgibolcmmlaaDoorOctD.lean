/-
  The walk of the law OctetReads: any bytes, read as whatever is wanted: both readers answer the same.
  Conditions: the list is nil, or lies in memory as the reader of the arguments says; package errors' own variable holds the handle of the type error.
-/
import Derived.Test.YtpofgibolcmmlaaDoorOctI
import Derived.Deep.RegionHeld3
import Derived.Deep.RegionWith
namespace Go.Proofs.YtpofgibolcmmlaaDoor
open Go.RowKit

section
variable {W : World} {r q : Nat} {s : ByteArray} {a : Nat} {c : Int} {b : Nat} {d : Int} {w : World}
/-- What a world with both readers gives a statement that reads the document's one: no error. -/
theorem S2.all0 (h : S2 W r q s a c b 0 w) :
    w.cell? ⟨q, 1, none⟩ = some (.int .i64 b) ∧ w.cell? ⟨q, 2, none⟩ = some (.int .i64 0) ∧ w.cell? ⟨q, 3, none⟩ = some (.int .i64 0) ∧ S2 W r q s a c b 0 w := ⟨h.rr.c1, h.rr.c2, h.rr.c3, h⟩
/-- An error. -/
theorem S2.all1 (hd : ¬ d = 0) (h : S2 W r q s a c b d w) :
    w.cell? ⟨q, 1, none⟩ = some (.int .i64 b) ∧ w.cell? ⟨q, 2, none⟩ = some (.int .i64 b) ∧ w.cell? ⟨q, 3, none⟩ = some (.int .i64 d) ∧ S2 W r q s a c b d w := by
  have e : fA b d = b := by unfold fA; rw [if_neg hd]
  have h2 := h.rr.c2
  rw [e] at h2
  exact ⟨h.rr.c1, h2, h.rr.c3, h⟩
theorem S2.held {A B C : Prop} (h : A ∧ B ∧ C ∧ S2 W r q s a c b d w) : S2 W r q s a c b d w := h.2.2.2
end

/-- What holds at the head of each round. -/
def ReadsAt (W : World) (s : ByteArray) (len : Nat) (i : Value) (w : World) : Prop :=
  ∃ (k a : Nat) (c : Int), k ≤ len ∧ k ≤ 40 ∧ i = .int .i64 (k : Int) ∧ a ≤ s.size ∧ S2 W W.heap.size (W.heap.size + 1) s a c a c w

theorem reads_start (W : World) (s : ByteArray) : S2 W W.heap.size (W.heap.size + 1) s 0 0 0 0 ((W.alloc (.cells #[.string s, .int .i64 0, .int .i64 0] 54)).alloc (.cells #[.string s, .int .i64 0, .int .i64 0, .int .i64 0] 30)) := by
  have h := Blk.new (W.alloc (.cells #[.string s, .int .i64 0, .int .i64 0] 54)) #[.string s, .int .i64 0, .int .i64 0, .int .i64 0] 30
  exact ⟨Blk.alloc (Blk.new W _ _) _, by simpa [RR, fA] using h, below_new (below_new (Below.refl _ _) _) _, Nat.le_refl _, Nat.le_succ _, by omega⟩

set_option maxRecDepth 100000 in
set_option maxHeartbeats 16000000 in
theorem reads_short (s : ByteArray) (al : Option Addr) (len cap : Nat) (W : World) (hg : Handle W) (hs : s.size ≤ 5000) (hlen : len ≤ 9223372036854775807)
    (hc : ∀ i, i < len → WantAt W al i) :
    Calls Tryd.prog 3 #[.string s, .slice al len cap] W fun e w' => e = .returned (.bool true) ∧ Below W.heap.size W w' := by
  have HC := Lib.hid hc; clear hc
  have HG := Lib.hid hg; clear hg
  go_enter Tryd.func3, Tryd.ntmps3
  go_wp2_with fail
  refine (new_any _ _).mono ?_
  rintro e w1 ⟨rfl, rfl⟩
  go_wp2
  go_loopw [7] (fun i wr => ReadsAt W s len i wr) (fun i _ => (40 - intOf i).toNat)
  case atStart => exact ⟨0, 0, 0, Nat.zero_le _, by omega, rfl, Nat.zero_le _, reads_start W s⟩
  case round =>
    obtain ⟨k, a, c, hk1, hk2, rfl, ha, hS⟩ := hrel
    have hs1 : s.size ≤ 1048576 := by omega
    by_cases hk : k < len ∧ k < 40
    · obtain ⟨hkl, hk40⟩ := hk
      obtain ⟨lb, lo, ki, n, rfl, c0, c1, hn⟩ := HC.out k hkl
      have hlb : lb < W.heap.size := block_lt_of_cell c0
      have d0 : wr.cell? ⟨lb, lo + k * 2, none⟩ = some (.int .i64 ki) := (hS.bel.cell (p := ⟨lb, lo + k * 2, none⟩) hlb).trans c0
      have d1 : wr.cell? ⟨lb, lo + k * 2 + 1, none⟩ = some (.int .i64 n) := (hS.bel.cell (p := ⟨lb, lo + k * 2 + 1, none⟩) hlb).trans c1
      clear c0 c1
      have HN := Lib.hid hn; clear hn
      have HS := Lib.hid (S3.new hS ki n)
      clear hS
      by_cases q0 : ki = 0
      · subst q0
        go_wp2_with fail
        refine (numL_S2 HS.out.s2 ha hs1).mono ?_
        rintro e w1 ⟨rfl, hS1⟩
        have HS1 := Lib.hid hS1; clear hS1 HS
        go_wp2_with fail
        refine (numR_S2 HS1.out ha hs1).mono ?_
        rintro e w2 ⟨rfl, hS2⟩
        clear HS1
        have hb2 : nA' s a c ≤ s.size := nA'_le ha
        go_wp2
        by_cases hc : nC' s a c = 0
        · rw [hc] at hS2
          go_region_held3 (fun w' => w'.cell? ⟨W.heap.size + 1, 1, none⟩ = some (.int .i64 (nA' s a c : Int)) ∧ w'.cell? ⟨W.heap.size + 1, 2, none⟩ = some (.int .i64 0) ∧ w'.cell? ⟨W.heap.size + 1, 3, none⟩ = some (.int .i64 (0)) ∧ S2 W W.heap.size (W.heap.size + 1) s (nA' s a c) (0) (nA' s a c) (0) w') (first | exact S2.all0 (by assumption) | exact S2.all0 (S2.drew (by assumption)) | exact S2.all0 (S2F.s2 (by assumption))) (first | (go_at_call 19; refine (leftL_S2 (W := W) (q := W.heap.size + 1) (s := s) (a := nA' s a c) (c := 0) (b := nA' s a c) (d := 0) (by first | assumption | exact (S2.held (by assumption))) hb2 hs1).mono ?_; rintro e w5 ⟨rfl, hs5⟩) | (go_at_call 20; refine (leftR_S2 (W := W) (q := W.heap.size + 1) (s := s) (a := nA' s a c) (c := 0) (b := nA' s a c) (d := 0) (by first | assumption | exact (S2.held (by assumption))) hb2 hs1).mono ?_; rintro e w6 ⟨rfl, hs6⟩) | (go_at_call 22; refine (errL_none (W := W) (q := W.heap.size + 1) (s := s) (a := nA' s a c) (b := nA' s a c) (d := 0) (by first | assumption | exact (S2.held (by assumption)))).mono ?_; rintro e w7 ⟨rfl, hs7⟩) | (go_at_call 21; refine (seenN_S2 (W := W) (q := W.heap.size + 1) (s := s) (a := nA' s a c) (c := 0) (b := nA' s a c) (d := 0) (r := W.heap.size) (by first | assumption | exact (S2.held (by assumption)))).mono ?_; rintro e w8 ⟨rfl, hs8⟩) | (go_at_call 18; refine (atL_S2 (W := W) (q := W.heap.size + 1) (s := s) (a := nA' s a c) (c := 0) (b := nA' s a c) (d := 0) (by first | assumption | exact (S2.held (by assumption)))).mono ?_; rintro e w4 ⟨rfl, hs4⟩))
          all_goals
            go_wp2
            go_roundw
            case rel => exact ⟨k + 1, nA' s a c, 0, by omega, by omega, by go_num, hb2, by assumption⟩
            case measure => simp [intOf]; omega
        · have HE := Lib.hid hc
          have hb1 : nA' s a c ≤ 1048576 := by omega
          have hc1 : (nC' s a c == 0) = false := by simpa using hc
          clear hc
          go_region_held3 (fun w' => w'.cell? ⟨W.heap.size + 1, 1, none⟩ = some (.int .i64 (nA' s a c : Int)) ∧ w'.cell? ⟨W.heap.size + 1, 2, none⟩ = some (.int .i64 (nA' s a c : Int)) ∧ w'.cell? ⟨W.heap.size + 1, 3, none⟩ = some (.int .i64 (nC' s a c)) ∧ S2 W W.heap.size (W.heap.size + 1) s (nA' s a c) (nC' s a c) (nA' s a c) (nC' s a c) w') (first | exact S2.all1 HE.out (by assumption) | exact S2.all1 HE.out (S2.drew (by assumption)) | exact S2.all1 HE.out (S2F.s2 (by assumption))) (first | (go_at_call 19; refine (leftL_S2 (W := W) (q := W.heap.size + 1) (s := s) (a := nA' s a c) (c := nC' s a c) (b := nA' s a c) (d := nC' s a c) (by first | assumption | exact (S2.held (by assumption))) hb2 hs1).mono ?_; rintro e w5 ⟨rfl, hs5⟩) | (go_at_call 20; refine (leftR_S2 (W := W) (q := W.heap.size + 1) (s := s) (a := nA' s a c) (c := nC' s a c) (b := nA' s a c) (d := nC' s a c) (by first | assumption | exact (S2.held (by assumption))) hb2 hs1).mono ?_; rintro e w6 ⟨rfl, hs6⟩) | (go_at_call 22; refine (errL_some (W := W) (q := W.heap.size + 1) (s := s) (a := nA' s a c) (c := nC' s a c) (b := nA' s a c) (d := nC' s a c) (by first | assumption | exact (S2.held (by assumption))) HE.out).mono ?_; rintro e w7 ⟨f, rfl, hs7⟩) | (go_at_call 21; refine (seenF_S2 (W := W) (q := W.heap.size + 1) (s := s) (a := nA' s a c) (c := nC' s a c) (b := nA' s a c) (d := nC' s a c) (r := W.heap.size) HG.out (by assumption) hb1 HE.out).mono ?_; rintro e w8 ⟨rfl, hs8⟩) | (go_at_call 18; refine (atL_S2 (W := W) (q := W.heap.size + 1) (s := s) (a := nA' s a c) (c := nC' s a c) (b := nA' s a c) (d := nC' s a c) (by first | assumption | exact (S2.held (by assumption)))).mono ?_; rintro e w4 ⟨rfl, hs4⟩))
          all_goals
            go_wp2
            go_roundw
            case rel => exact ⟨k + 1, nA' s a c, nC' s a c, by omega, by omega, by go_num, hb2, by assumption⟩
            case measure => simp [intOf]; omega
      · have b0 : (ki == 0) = false := by simpa using q0
        clear q0
        by_cases q1 : ki = 1
        · subst q1
          have hb2 : iA' s a n c ≤ s.size := iA'_le ha
          have hS3 := HS.out
          go_wp2
          go_region_held3 (fun w' => w'.cell? ⟨wr.heap.size, 1, none⟩ = some (.int .i64 n)) (first | exact S3.c1 (by assumption) | exact S3.c1 (S3.drew (by assumption))) (first | (go_at_call 10; refine (intL_S3 (W := W) (r := W.heap.size) (q := W.heap.size + 1) (s := s) (a := a) (c := c) (b := a) (d := c) (g := wr.heap.size) (x := 1) (y := n) (by first | assumption | exact S3.drew (by assumption)) ha hs1 HN.out).mono ?_; rintro e w1 ⟨rfl, hS1⟩) | (go_at_call 11; refine (intR_S3 (W := W) (r := W.heap.size) (q := W.heap.size + 1) (s := s) (a := iA' s a n c) (c := iC' s a n c) (b := a) (d := c) (g := wr.heap.size) (x := 1) (y := n) (by first | assumption | exact S3.drew (by assumption)) ha hs1 HN.out).mono ?_; rintro e w2 ⟨rfl, hT2⟩))
          have hS2 : S2 W W.heap.size (W.heap.size + 1) s (iA' s a n c) (iC' s a n c) (iA' s a n c) (iC' s a n c) w2 := S3.s2 (g := wr.heap.size) (x := 1) (y := n) (by assumption)
          clear hS3
          go_wp2
          by_cases hc : iC' s a n c = 0
          · rw [hc] at hS2
            go_region_held3 (fun w' => w'.cell? ⟨W.heap.size + 1, 1, none⟩ = some (.int .i64 (iA' s a n c : Int)) ∧ w'.cell? ⟨W.heap.size + 1, 2, none⟩ = some (.int .i64 0) ∧ w'.cell? ⟨W.heap.size + 1, 3, none⟩ = some (.int .i64 (0)) ∧ S2 W W.heap.size (W.heap.size + 1) s (iA' s a n c) (0) (iA' s a n c) (0) w') (first | exact S2.all0 (by assumption) | exact S2.all0 (S2.drew (by assumption)) | exact S2.all0 (S2F.s2 (by assumption))) (first | (go_at_call 19; refine (leftL_S2 (W := W) (q := W.heap.size + 1) (s := s) (a := iA' s a n c) (c := 0) (b := iA' s a n c) (d := 0) (by first | assumption | exact (S2.held (by assumption))) hb2 hs1).mono ?_; rintro e w5 ⟨rfl, hs5⟩) | (go_at_call 20; refine (leftR_S2 (W := W) (q := W.heap.size + 1) (s := s) (a := iA' s a n c) (c := 0) (b := iA' s a n c) (d := 0) (by first | assumption | exact (S2.held (by assumption))) hb2 hs1).mono ?_; rintro e w6 ⟨rfl, hs6⟩) | (go_at_call 22; refine (errL_none (W := W) (q := W.heap.size + 1) (s := s) (a := iA' s a n c) (b := iA' s a n c) (d := 0) (by first | assumption | exact (S2.held (by assumption)))).mono ?_; rintro e w7 ⟨rfl, hs7⟩) | (go_at_call 21; refine (seenN_S2 (W := W) (q := W.heap.size + 1) (s := s) (a := iA' s a n c) (c := 0) (b := iA' s a n c) (d := 0) (r := W.heap.size) (by first | assumption | exact (S2.held (by assumption)))).mono ?_; rintro e w8 ⟨rfl, hs8⟩) | (go_at_call 18; refine (atL_S2 (W := W) (q := W.heap.size + 1) (s := s) (a := iA' s a n c) (c := 0) (b := iA' s a n c) (d := 0) (by first | assumption | exact (S2.held (by assumption)))).mono ?_; rintro e w4 ⟨rfl, hs4⟩))
            all_goals
              go_wp2
              go_roundw
              case rel => exact ⟨k + 1, iA' s a n c, 0, by omega, by omega, by go_num, hb2, by assumption⟩
              case measure => simp [intOf]; omega
          · have HE := Lib.hid hc
            have hb1 : iA' s a n c ≤ 1048576 := by omega
            have hc1 : (iC' s a n c == 0) = false := by simpa using hc
            clear hc
            go_region_held3 (fun w' => w'.cell? ⟨W.heap.size + 1, 1, none⟩ = some (.int .i64 (iA' s a n c : Int)) ∧ w'.cell? ⟨W.heap.size + 1, 2, none⟩ = some (.int .i64 (iA' s a n c : Int)) ∧ w'.cell? ⟨W.heap.size + 1, 3, none⟩ = some (.int .i64 (iC' s a n c)) ∧ S2 W W.heap.size (W.heap.size + 1) s (iA' s a n c) (iC' s a n c) (iA' s a n c) (iC' s a n c) w') (first | exact S2.all1 HE.out (by assumption) | exact S2.all1 HE.out (S2.drew (by assumption)) | exact S2.all1 HE.out (S2F.s2 (by assumption))) (first | (go_at_call 19; refine (leftL_S2 (W := W) (q := W.heap.size + 1) (s := s) (a := iA' s a n c) (c := iC' s a n c) (b := iA' s a n c) (d := iC' s a n c) (by first | assumption | exact (S2.held (by assumption))) hb2 hs1).mono ?_; rintro e w5 ⟨rfl, hs5⟩) | (go_at_call 20; refine (leftR_S2 (W := W) (q := W.heap.size + 1) (s := s) (a := iA' s a n c) (c := iC' s a n c) (b := iA' s a n c) (d := iC' s a n c) (by first | assumption | exact (S2.held (by assumption))) hb2 hs1).mono ?_; rintro e w6 ⟨rfl, hs6⟩) | (go_at_call 22; refine (errL_some (W := W) (q := W.heap.size + 1) (s := s) (a := iA' s a n c) (c := iC' s a n c) (b := iA' s a n c) (d := iC' s a n c) (by first | assumption | exact (S2.held (by assumption))) HE.out).mono ?_; rintro e w7 ⟨f, rfl, hs7⟩) | (go_at_call 21; refine (seenF_S2 (W := W) (q := W.heap.size + 1) (s := s) (a := iA' s a n c) (c := iC' s a n c) (b := iA' s a n c) (d := iC' s a n c) (r := W.heap.size) HG.out (by assumption) hb1 HE.out).mono ?_; rintro e w8 ⟨rfl, hs8⟩) | (go_at_call 18; refine (atL_S2 (W := W) (q := W.heap.size + 1) (s := s) (a := iA' s a n c) (c := iC' s a n c) (b := iA' s a n c) (d := iC' s a n c) (by first | assumption | exact (S2.held (by assumption)))).mono ?_; rintro e w4 ⟨rfl, hs4⟩))
            all_goals
              go_wp2
              go_roundw
              case rel => exact ⟨k + 1, iA' s a n c, iC' s a n c, by omega, by omega, by go_num, hb2, by assumption⟩
              case measure => simp [intOf]; omega
        · have b1 : (ki == 1) = false := by simpa using q1
          clear q1
          by_cases q2 : ki = 2
          · subst q2
            go_wp2_with fail
            refine (sgnL_S2 HS.out.s2 ha hs1).mono ?_
            rintro e w1 ⟨rfl, hS1⟩
            have HS1 := Lib.hid hS1; clear hS1 HS
            go_wp2_with fail
            refine (sgnR_S2 HS1.out ha hs1).mono ?_
            rintro e w2 ⟨rfl, hS2⟩
            clear HS1
            have hb2 : sA' s a c ≤ s.size := nA'_le ha
            go_wp2
            by_cases hc : sC' s a c = 0
            · rw [hc] at hS2
              go_region_held3 (fun w' => w'.cell? ⟨W.heap.size + 1, 1, none⟩ = some (.int .i64 (sA' s a c : Int)) ∧ w'.cell? ⟨W.heap.size + 1, 2, none⟩ = some (.int .i64 0) ∧ w'.cell? ⟨W.heap.size + 1, 3, none⟩ = some (.int .i64 (0)) ∧ S2 W W.heap.size (W.heap.size + 1) s (sA' s a c) (0) (sA' s a c) (0) w') (first | exact S2.all0 (by assumption) | exact S2.all0 (S2.drew (by assumption)) | exact S2.all0 (S2F.s2 (by assumption))) (first | (go_at_call 19; refine (leftL_S2 (W := W) (q := W.heap.size + 1) (s := s) (a := sA' s a c) (c := 0) (b := sA' s a c) (d := 0) (by first | assumption | exact (S2.held (by assumption))) hb2 hs1).mono ?_; rintro e w5 ⟨rfl, hs5⟩) | (go_at_call 20; refine (leftR_S2 (W := W) (q := W.heap.size + 1) (s := s) (a := sA' s a c) (c := 0) (b := sA' s a c) (d := 0) (by first | assumption | exact (S2.held (by assumption))) hb2 hs1).mono ?_; rintro e w6 ⟨rfl, hs6⟩) | (go_at_call 22; refine (errL_none (W := W) (q := W.heap.size + 1) (s := s) (a := sA' s a c) (b := sA' s a c) (d := 0) (by first | assumption | exact (S2.held (by assumption)))).mono ?_; rintro e w7 ⟨rfl, hs7⟩) | (go_at_call 21; refine (seenN_S2 (W := W) (q := W.heap.size + 1) (s := s) (a := sA' s a c) (c := 0) (b := sA' s a c) (d := 0) (r := W.heap.size) (by first | assumption | exact (S2.held (by assumption)))).mono ?_; rintro e w8 ⟨rfl, hs8⟩) | (go_at_call 18; refine (atL_S2 (W := W) (q := W.heap.size + 1) (s := s) (a := sA' s a c) (c := 0) (b := sA' s a c) (d := 0) (by first | assumption | exact (S2.held (by assumption)))).mono ?_; rintro e w4 ⟨rfl, hs4⟩))
              all_goals
                go_wp2
                go_roundw
                case rel => exact ⟨k + 1, sA' s a c, 0, by omega, by omega, by go_num, hb2, by assumption⟩
                case measure => simp [intOf]; omega
            · have HE := Lib.hid hc
              have hb1 : sA' s a c ≤ 1048576 := by omega
              have hc1 : (sC' s a c == 0) = false := by simpa using hc
              clear hc
              go_region_held3 (fun w' => w'.cell? ⟨W.heap.size + 1, 1, none⟩ = some (.int .i64 (sA' s a c : Int)) ∧ w'.cell? ⟨W.heap.size + 1, 2, none⟩ = some (.int .i64 (sA' s a c : Int)) ∧ w'.cell? ⟨W.heap.size + 1, 3, none⟩ = some (.int .i64 (sC' s a c)) ∧ S2 W W.heap.size (W.heap.size + 1) s (sA' s a c) (sC' s a c) (sA' s a c) (sC' s a c) w') (first | exact S2.all1 HE.out (by assumption) | exact S2.all1 HE.out (S2.drew (by assumption)) | exact S2.all1 HE.out (S2F.s2 (by assumption))) (first | (go_at_call 19; refine (leftL_S2 (W := W) (q := W.heap.size + 1) (s := s) (a := sA' s a c) (c := sC' s a c) (b := sA' s a c) (d := sC' s a c) (by first | assumption | exact (S2.held (by assumption))) hb2 hs1).mono ?_; rintro e w5 ⟨rfl, hs5⟩) | (go_at_call 20; refine (leftR_S2 (W := W) (q := W.heap.size + 1) (s := s) (a := sA' s a c) (c := sC' s a c) (b := sA' s a c) (d := sC' s a c) (by first | assumption | exact (S2.held (by assumption))) hb2 hs1).mono ?_; rintro e w6 ⟨rfl, hs6⟩) | (go_at_call 22; refine (errL_some (W := W) (q := W.heap.size + 1) (s := s) (a := sA' s a c) (c := sC' s a c) (b := sA' s a c) (d := sC' s a c) (by first | assumption | exact (S2.held (by assumption))) HE.out).mono ?_; rintro e w7 ⟨f, rfl, hs7⟩) | (go_at_call 21; refine (seenF_S2 (W := W) (q := W.heap.size + 1) (s := s) (a := sA' s a c) (c := sC' s a c) (b := sA' s a c) (d := sC' s a c) (r := W.heap.size) HG.out (by assumption) hb1 HE.out).mono ?_; rintro e w8 ⟨rfl, hs8⟩) | (go_at_call 18; refine (atL_S2 (W := W) (q := W.heap.size + 1) (s := s) (a := sA' s a c) (c := sC' s a c) (b := sA' s a c) (d := sC' s a c) (by first | assumption | exact (S2.held (by assumption)))).mono ?_; rintro e w4 ⟨rfl, hs4⟩))
              all_goals
                go_wp2
                go_roundw
                case rel => exact ⟨k + 1, sA' s a c, sC' s a c, by omega, by omega, by go_num, hb2, by assumption⟩
                case measure => simp [intOf]; omega
          · have b2 : (ki == 2) = false := by simpa using q2
            clear q2
            by_cases q3 : ki = 3
            · subst q3
              have hb2 : tA' s a n c ≤ s.size := tA'_le ha
              have hS3 := HS.out
              go_wp2
              go_region_held3 (fun w' => w'.cell? ⟨wr.heap.size, 1, none⟩ = some (.int .i64 n)) (first | exact S3.c1 (by assumption) | exact S3.c1 (S3.drew (by assumption))) (first | (go_at_call 14; refine (txtL_S3 (W := W) (r := W.heap.size) (q := W.heap.size + 1) (s := s) (a := a) (c := c) (b := a) (d := c) (g := wr.heap.size) (x := 3) (y := n) (by first | assumption | exact S3.drew (by assumption)) ha hs1 HN.out).mono ?_; rintro e w1 ⟨rfl, hS1⟩) | (go_at_call 15; refine (txtR_S3 (W := W) (r := W.heap.size) (q := W.heap.size + 1) (s := s) (a := tA' s a n c) (c := tC' s a n c) (b := a) (d := c) (g := wr.heap.size) (x := 3) (y := n) (by first | assumption | exact S3.drew (by assumption)) ha hs1 HN.out).mono ?_; rintro e w2 ⟨rfl, hT2⟩))
              have hS2 : S2 W W.heap.size (W.heap.size + 1) s (tA' s a n c) (tC' s a n c) (tA' s a n c) (tC' s a n c) w2 := S3.s2 (g := wr.heap.size) (x := 3) (y := n) (by assumption)
              clear hS3
              go_wp2
              by_cases hc : tC' s a n c = 0
              · rw [hc] at hS2
                go_region_held3 (fun w' => w'.cell? ⟨W.heap.size + 1, 1, none⟩ = some (.int .i64 (tA' s a n c : Int)) ∧ w'.cell? ⟨W.heap.size + 1, 2, none⟩ = some (.int .i64 0) ∧ w'.cell? ⟨W.heap.size + 1, 3, none⟩ = some (.int .i64 (0)) ∧ S2 W W.heap.size (W.heap.size + 1) s (tA' s a n c) (0) (tA' s a n c) (0) w') (first | exact S2.all0 (by assumption) | exact S2.all0 (S2.drew (by assumption)) | exact S2.all0 (S2F.s2 (by assumption))) (first | (go_at_call 19; refine (leftL_S2 (W := W) (q := W.heap.size + 1) (s := s) (a := tA' s a n c) (c := 0) (b := tA' s a n c) (d := 0) (by first | assumption | exact (S2.held (by assumption))) hb2 hs1).mono ?_; rintro e w5 ⟨rfl, hs5⟩) | (go_at_call 20; refine (leftR_S2 (W := W) (q := W.heap.size + 1) (s := s) (a := tA' s a n c) (c := 0) (b := tA' s a n c) (d := 0) (by first | assumption | exact (S2.held (by assumption))) hb2 hs1).mono ?_; rintro e w6 ⟨rfl, hs6⟩) | (go_at_call 22; refine (errL_none (W := W) (q := W.heap.size + 1) (s := s) (a := tA' s a n c) (b := tA' s a n c) (d := 0) (by first | assumption | exact (S2.held (by assumption)))).mono ?_; rintro e w7 ⟨rfl, hs7⟩) | (go_at_call 21; refine (seenN_S2 (W := W) (q := W.heap.size + 1) (s := s) (a := tA' s a n c) (c := 0) (b := tA' s a n c) (d := 0) (r := W.heap.size) (by first | assumption | exact (S2.held (by assumption)))).mono ?_; rintro e w8 ⟨rfl, hs8⟩) | (go_at_call 18; refine (atL_S2 (W := W) (q := W.heap.size + 1) (s := s) (a := tA' s a n c) (c := 0) (b := tA' s a n c) (d := 0) (by first | assumption | exact (S2.held (by assumption)))).mono ?_; rintro e w4 ⟨rfl, hs4⟩))
                all_goals
                  go_wp2
                  go_roundw
                  case rel => exact ⟨k + 1, tA' s a n c, 0, by omega, by omega, by go_num, hb2, by assumption⟩
                  case measure => simp [intOf]; omega
              · have HE := Lib.hid hc
                have hb1 : tA' s a n c ≤ 1048576 := by omega
                have hc1 : (tC' s a n c == 0) = false := by simpa using hc
                clear hc
                go_region_held3 (fun w' => w'.cell? ⟨W.heap.size + 1, 1, none⟩ = some (.int .i64 (tA' s a n c : Int)) ∧ w'.cell? ⟨W.heap.size + 1, 2, none⟩ = some (.int .i64 (tA' s a n c : Int)) ∧ w'.cell? ⟨W.heap.size + 1, 3, none⟩ = some (.int .i64 (tC' s a n c)) ∧ S2 W W.heap.size (W.heap.size + 1) s (tA' s a n c) (tC' s a n c) (tA' s a n c) (tC' s a n c) w') (first | exact S2.all1 HE.out (by assumption) | exact S2.all1 HE.out (S2.drew (by assumption)) | exact S2.all1 HE.out (S2F.s2 (by assumption))) (first | (go_at_call 19; refine (leftL_S2 (W := W) (q := W.heap.size + 1) (s := s) (a := tA' s a n c) (c := tC' s a n c) (b := tA' s a n c) (d := tC' s a n c) (by first | assumption | exact (S2.held (by assumption))) hb2 hs1).mono ?_; rintro e w5 ⟨rfl, hs5⟩) | (go_at_call 20; refine (leftR_S2 (W := W) (q := W.heap.size + 1) (s := s) (a := tA' s a n c) (c := tC' s a n c) (b := tA' s a n c) (d := tC' s a n c) (by first | assumption | exact (S2.held (by assumption))) hb2 hs1).mono ?_; rintro e w6 ⟨rfl, hs6⟩) | (go_at_call 22; refine (errL_some (W := W) (q := W.heap.size + 1) (s := s) (a := tA' s a n c) (c := tC' s a n c) (b := tA' s a n c) (d := tC' s a n c) (by first | assumption | exact (S2.held (by assumption))) HE.out).mono ?_; rintro e w7 ⟨f, rfl, hs7⟩) | (go_at_call 21; refine (seenF_S2 (W := W) (q := W.heap.size + 1) (s := s) (a := tA' s a n c) (c := tC' s a n c) (b := tA' s a n c) (d := tC' s a n c) (r := W.heap.size) HG.out (by assumption) hb1 HE.out).mono ?_; rintro e w8 ⟨rfl, hs8⟩) | (go_at_call 18; refine (atL_S2 (W := W) (q := W.heap.size + 1) (s := s) (a := tA' s a n c) (c := tC' s a n c) (b := tA' s a n c) (d := tC' s a n c) (by first | assumption | exact (S2.held (by assumption)))).mono ?_; rintro e w4 ⟨rfl, hs4⟩))
                all_goals
                  go_wp2
                  go_roundw
                  case rel => exact ⟨k + 1, tA' s a n c, tC' s a n c, by omega, by omega, by go_num, hb2, by assumption⟩
                  case measure => simp [intOf]; omega
            · have b3 : (ki == 3) = false := by simpa using q3
              clear q3
              go_wp2_with fail
              refine (failL_S3 HS.out).mono ?_
              rintro e w1 ⟨rfl, hS1⟩
              have e1 := hS1.c1
              have HS1 := Lib.hid hS1; clear hS1 HS
              go_wp2_with fail
              refine (failR_S3 HS1.out).mono ?_
              rintro e w2 ⟨rfl, hT2⟩
              have hS2 := hT2.s2
              clear HS1 e1 hT2
              have hb2 : a ≤ s.size := ha
              go_wp2
              by_cases hc : failC c n = 0
              · rw [hc] at hS2
                go_region_held3 (fun w' => w'.cell? ⟨W.heap.size + 1, 1, none⟩ = some (.int .i64 (a : Int)) ∧ w'.cell? ⟨W.heap.size + 1, 2, none⟩ = some (.int .i64 0) ∧ w'.cell? ⟨W.heap.size + 1, 3, none⟩ = some (.int .i64 (0)) ∧ S2 W W.heap.size (W.heap.size + 1) s (a) (0) (a) (0) w') (first | exact S2.all0 (by assumption) | exact S2.all0 (S2.drew (by assumption)) | exact S2.all0 (S2F.s2 (by assumption))) (first | (go_at_call 19; refine (leftL_S2 (W := W) (q := W.heap.size + 1) (s := s) (a := a) (c := 0) (b := a) (d := 0) (by first | assumption | exact (S2.held (by assumption))) hb2 hs1).mono ?_; rintro e w5 ⟨rfl, hs5⟩) | (go_at_call 20; refine (leftR_S2 (W := W) (q := W.heap.size + 1) (s := s) (a := a) (c := 0) (b := a) (d := 0) (by first | assumption | exact (S2.held (by assumption))) hb2 hs1).mono ?_; rintro e w6 ⟨rfl, hs6⟩) | (go_at_call 22; refine (errL_none (W := W) (q := W.heap.size + 1) (s := s) (a := a) (b := a) (d := 0) (by first | assumption | exact (S2.held (by assumption)))).mono ?_; rintro e w7 ⟨rfl, hs7⟩) | (go_at_call 21; refine (seenN_S2 (W := W) (q := W.heap.size + 1) (s := s) (a := a) (c := 0) (b := a) (d := 0) (r := W.heap.size) (by first | assumption | exact (S2.held (by assumption)))).mono ?_; rintro e w8 ⟨rfl, hs8⟩) | (go_at_call 18; refine (atL_S2 (W := W) (q := W.heap.size + 1) (s := s) (a := a) (c := 0) (b := a) (d := 0) (by first | assumption | exact (S2.held (by assumption)))).mono ?_; rintro e w4 ⟨rfl, hs4⟩))
                all_goals
                  go_wp2
                  go_roundw
                  case rel => exact ⟨k + 1, a, 0, by omega, by omega, by go_num, hb2, by assumption⟩
                  case measure => simp [intOf]; omega
              · have HE := Lib.hid hc
                have hb1 : a ≤ 1048576 := by omega
                have hc1 : (failC c n == 0) = false := by simpa using hc
                clear hc
                go_region_held3 (fun w' => w'.cell? ⟨W.heap.size + 1, 1, none⟩ = some (.int .i64 (a : Int)) ∧ w'.cell? ⟨W.heap.size + 1, 2, none⟩ = some (.int .i64 (a : Int)) ∧ w'.cell? ⟨W.heap.size + 1, 3, none⟩ = some (.int .i64 (failC c n)) ∧ S2 W W.heap.size (W.heap.size + 1) s (a) (failC c n) (a) (failC c n) w') (first | exact S2.all1 HE.out (by assumption) | exact S2.all1 HE.out (S2.drew (by assumption)) | exact S2.all1 HE.out (S2F.s2 (by assumption))) (first | (go_at_call 19; refine (leftL_S2 (W := W) (q := W.heap.size + 1) (s := s) (a := a) (c := failC c n) (b := a) (d := failC c n) (by first | assumption | exact (S2.held (by assumption))) hb2 hs1).mono ?_; rintro e w5 ⟨rfl, hs5⟩) | (go_at_call 20; refine (leftR_S2 (W := W) (q := W.heap.size + 1) (s := s) (a := a) (c := failC c n) (b := a) (d := failC c n) (by first | assumption | exact (S2.held (by assumption))) hb2 hs1).mono ?_; rintro e w6 ⟨rfl, hs6⟩) | (go_at_call 22; refine (errL_some (W := W) (q := W.heap.size + 1) (s := s) (a := a) (c := failC c n) (b := a) (d := failC c n) (by first | assumption | exact (S2.held (by assumption))) HE.out).mono ?_; rintro e w7 ⟨f, rfl, hs7⟩) | (go_at_call 21; refine (seenF_S2 (W := W) (q := W.heap.size + 1) (s := s) (a := a) (c := failC c n) (b := a) (d := failC c n) (r := W.heap.size) HG.out (by assumption) hb1 HE.out).mono ?_; rintro e w8 ⟨rfl, hs8⟩) | (go_at_call 18; refine (atL_S2 (W := W) (q := W.heap.size + 1) (s := s) (a := a) (c := failC c n) (b := a) (d := failC c n) (by first | assumption | exact (S2.held (by assumption)))).mono ?_; rintro e w4 ⟨rfl, hs4⟩))
                all_goals
                  go_wp2
                  go_roundw
                  case rel => exact ⟨k + 1, a, failC c n, by omega, by omega, by go_num, hb2, by assumption⟩
                  case measure => simp [intOf]; omega
    · have hk' : (k < len ∧ k = 40) ∨ ¬ k < len := by omega
      clear hk
      rcases hk' with ⟨hkl, rfl⟩ | hkl
      all_goals
        by_cases hc : c = 0
        · subst hc
          by_cases hz : a < s.size
          · have six : ¬ (6 : Int) = 0 := by decide
            have ha2 : a ≤ 1048576 := by omega
            have HX := Lib.hid hz; clear hz
            have SX := Lib.hid six; clear six
            go_wp2
            go_region_with (first | (go_at_call 23; refine (endL6 (W := W) (r := W.heap.size) (q := W.heap.size + 1) (s := s) (a := a) (b := a) (d := 0) (by first | assumption | exact S2.drew (by assumption)) HX.out hs1).mono ?_; rintro e w4 ⟨f, rfl, hs4⟩) | (go_at_call 21; refine (seenF_S2 (W := W) (r := W.heap.size) (q := W.heap.size + 1) (s := s) (a := a) (c := 6) (b := a) (d := 6) HG.out (by assumption) ha2 SX.out).mono ?_; rintro e w8 ⟨rfl, hs8⟩; have x8 := (S2.all1 SX.out hs8).2.1; have y8 := (S2.all1 SX.out hs8).2.2.1) | (go_at_call 21; refine (seenF_S2 (W := W) (r := W.heap.size) (q := W.heap.size + 1) (s := s) (a := a) (c := 6) (b := a) (d := 0) HG.out (by assumption) ha2 SX.out).mono ?_; rintro e w5 ⟨rfl, hs5⟩) | (go_at_call 24; refine (endR6 (W := W) (r := W.heap.size) (q := W.heap.size + 1) (s := s) (a := a) (c := 6) (b := a) (by first | assumption | exact S2.drew (by assumption)) HX.out hs1).mono ?_; rintro e w6 ⟨rfl, hs6⟩; have x6 := (S2.all1 SX.out hs6).2.1; have y6 := (S2.all1 SX.out hs6).2.2.1) | (go_at_call 22; refine (errL_some (W := W) (r := W.heap.size) (q := W.heap.size + 1) (s := s) (a := a) (c := 6) (b := a) (d := 6) (by first | assumption | exact S2.drew (by assumption)) SX.out).mono ?_; rintro e w7 ⟨f, rfl, hs7⟩; have x7 := (S2.all1 SX.out hs7.s2).2.1; have y7 := (S2.all1 SX.out hs7.s2).2.2.1))
            all_goals
              go_wp2
              go_ret
              exact ⟨rfl, S2.bel (r := W.heap.size) (q := W.heap.size + 1) (s := s) (a := a) (c := 6) (b := a) (d := 6) (by assumption)⟩
          · have HZ : Hid (endC s a 0 = 0) := Lib.hid (by unfold endC; rw [if_neg hz])
            clear hz
            go_wp2
            go_region_held3 (fun w' => w'.cell? ⟨W.heap.size + 1, 1, none⟩ = some (.int .i64 (a : Int)) ∧ w'.cell? ⟨W.heap.size + 1, 2, none⟩ = some (.int .i64 0) ∧ w'.cell? ⟨W.heap.size + 1, 3, none⟩ = some (.int .i64 (0)) ∧ S2 W W.heap.size (W.heap.size + 1) s (a) (0) (a) (0) w') (first | exact S2.all0 (by assumption) | exact S2.all0 (S2.drew (by assumption)) | exact S2.all0 (S2F.s2 (by assumption))) (first | (go_at_call 23; refine (endL_keep0 (W := W) (q := W.heap.size + 1) (s := s) (a := a) (b := a) (d := 0) (by first | assumption | exact (S2.held (by assumption))) ha hs1 HZ.out).mono ?_; rintro e w4 ⟨rfl, hs4⟩) | (go_at_call 24; refine (endR_keep0 (W := W) (r := W.heap.size) (s := s) (a := a) (c := 0) (b := a) (by first | assumption | exact (S2.held (by assumption))) ha hs1 HZ.out).mono ?_; rintro e w5 ⟨rfl, hs5⟩) | (go_at_call 22; refine (errL_none (W := W) (q := W.heap.size + 1) (s := s) (a := a) (b := a) (d := 0) (by first | assumption | exact (S2.held (by assumption)))).mono ?_; rintro e w7 ⟨rfl, hs7⟩) | (go_at_call 21; refine (seenN_S2 (W := W) (q := W.heap.size + 1) (s := s) (a := a) (c := 0) (b := a) (d := 0) (r := W.heap.size) (by first | assumption | exact (S2.held (by assumption)))).mono ?_; rintro e w8 ⟨rfl, hs8⟩))
            all_goals
              go_wp2
              go_ret
              exact ⟨rfl, S2.bel (r := W.heap.size) (q := W.heap.size + 1) (s := s) (a := a) (c := 0) (b := a) (d := 0) (by assumption)⟩
        · have HE := Lib.hid hc
          have hb1 : a ≤ 1048576 := by omega
          have hc1 : (c == 0) = false := by simpa using hc
          clear hc
          go_wp2
          go_region_held3 (fun w' => w'.cell? ⟨W.heap.size + 1, 1, none⟩ = some (.int .i64 (a : Int)) ∧ w'.cell? ⟨W.heap.size + 1, 2, none⟩ = some (.int .i64 (a : Int)) ∧ w'.cell? ⟨W.heap.size + 1, 3, none⟩ = some (.int .i64 (c)) ∧ S2 W W.heap.size (W.heap.size + 1) s (a) (c) (a) (c) w') (first | exact S2.all1 HE.out (by assumption) | exact S2.all1 HE.out (S2.drew (by assumption)) | exact S2.all1 HE.out (S2F.s2 (by assumption))) (first | (go_at_call 23; refine (endL_keep1 (W := W) (q := W.heap.size + 1) (s := s) (a := a) (c := c) (b := a) (d := c) (by first | assumption | exact (S2.held (by assumption))) ha hs1 HE.out).mono ?_; rintro e w4 ⟨f, rfl, hs4⟩) | (go_at_call 24; refine (endR_keep1 (W := W) (r := W.heap.size) (s := s) (a := a) (c := c) (b := a) (d := c) (by first | assumption | exact (S2.held (by assumption))) ha hs1 HE.out).mono ?_; rintro e w5 ⟨rfl, hs5⟩) | (go_at_call 22; refine (errL_some (W := W) (q := W.heap.size + 1) (s := s) (a := a) (c := c) (b := a) (d := c) (by first | assumption | exact (S2.held (by assumption))) HE.out).mono ?_; rintro e w7 ⟨f, rfl, hs7⟩) | (go_at_call 21; refine (seenF_S2 (W := W) (q := W.heap.size + 1) (s := s) (a := a) (c := c) (b := a) (d := c) (r := W.heap.size) HG.out (by assumption) hb1 HE.out).mono ?_; rintro e w8 ⟨rfl, hs8⟩))
          all_goals
            go_wp2
            go_ret
            exact ⟨rfl, S2.bel (r := W.heap.size) (q := W.heap.size + 1) (s := s) (a := a) (c := c) (b := a) (d := c) (by assumption)⟩

theorem octetReads_walk (s : ByteArray) (al : Option Addr) (len cap : Nat) (W : World) (hg : Handle W) (hs : s.size ≤ maxLen) (hw : WantsAt W al len) :
    Calls Tryd.prog 3 #[.string s, .slice al len cap] W fun e w' => e = .returned (.bool true) ∧ Below W.heap.size W w' := by
  obtain ⟨hlen, hc⟩ := hw
  unfold maxLen at hs
  by_cases h : 5000 < s.size
  · clear hg hc
    go_enter Tryd.func3, Tryd.ntmps3
    go_wp2
    go_ret
    exact ⟨rfl, Below.refl _ _⟩
  · exact reads_short s al len cap W hg (by omega) hlen hc
end Go.Proofs.YtpofgibolcmmlaaDoor
