/-
  The examples that the laws of frame check first come out as the document says; the walk of the law FrameAnew.
  Conditions: package errors' own variable holds the handle of the type error.
-/
import Derived.Test.YtcmdemblegdelaaDoorFraP
import Derived.Test.YtcmdemblegdelaaDoorOctX
namespace Go.Proofs.YtcmdemblegdelaaDoor
open Go.RowKit

def exAB : ByteArray := ⟨#[97, 98]⟩
/-- The first example's bytes; the same with another last byte. -/
def exE : ByteArray := ⟨#[1, 1, 1, 2, 97, 98, 47, 178, 156, 35]⟩
def exX : ByteArray := ⟨#[1, 1, 1, 2, 97, 98, 47, 178, 156, 120]⟩
theorem exE_sum : ofC [1, 1, 1, 2, 97, 98] = 597471791 := by kernel_rfl
theorem exE_enc : encS 1 exAB = exE := by
  have e1 : numS 1 = ⟨#[1, 1]⟩ := by unfold numS numL; rw [d1]; rfl
  have e2 : txtS exAB = ⟨#[1, 2, 97, 98]⟩ := tab
  have e3 : (⟨#[1, 1]⟩ : ByteArray) ++ ⟨#[1, 2, 97, 98]⟩ = ⟨#[1, 1, 1, 2, 97, 98]⟩ := by decide
  unfold encS sealS
  rw [e1, e2, e3]
  have e4 : (⟨#[1, 1, 1, 2, 97, 98]⟩ : ByteArray).data.toList = [1, 1, 1, 2, 97, 98] := rfl
  rw [e4, exE_sum]
  decide
theorem exE_C : xC exE = 0 := by kernel_rfl
theorem exE_K : xK exE = 1 := by kernel_rfl
theorem exE_L : xL exE = exAB := by kernel_rfl
theorem exE_N : xN exE = 10 := by kernel_rfl
theorem exX_C : xC exX = 13 := by kernel_rfl
theorem exX_At : xAt exX = 6 := by kernel_rfl

set_option maxRecDepth 100000 in
set_option maxHeartbeats 2000000 in
theorem fworks_any (w : World) (hg : Handle w) :
    Calls Tryd.prog 18 #[] w fun e w' => e = .returned (.bool true) ∧ Below w.heap.size w w' := by
  have HG := Lib.hid hg; clear hg
  have h10 : (exE.size : Int) = 10 := rfl
  have hab : exAB.toList = [97, 98] := by rw [ByteArray.toList_eq]; rfl
  have hfd : ∀ W, (Instr.field 34 (.agg #[.int .i64 6, .int .i64 13]) 1).run Tryd.prog W = .ok (.int .i64 13) W := fun _ => by kernel_rfl
  have h6 : exE.extract 0 6 = ⟨#[1, 1, 1, 2, 97, 98]⟩ := by decide
  have h9 : exE.extract 0 9 = ⟨#[1, 1, 1, 2, 97, 98, 47, 178, 156]⟩ := by decide
  have h9x : (⟨#[1, 1, 1, 2, 97, 98, 47, 178, 156]⟩ : ByteArray) ++ ⟨#[120]⟩ = exX := by decide
  go_enter Tryd.func18, Tryd.ntmps18
  go_wp2_with fail
  refine (write_good 1 exAB _ (by decide) (by decide) (by decide)).mono ?_
  rw [exE_enc]
  rintro e w1 ⟨rfl, b1⟩
  go_wp2_with fail
  refine (read_good exE _ (by decide) exE_C (by rw [exE_N]; decide)).mono ?_
  rw [exE_K, exE_L]
  rintro e w2 ⟨rfl, b2⟩
  have g2 := below_then b1 b2
  clear b1 b2
  go_wp2_with fail
  refine (write_kind 0 ⟨#[]⟩ _ (by decide)).mono ?_
  rintro e w3 ⟨rfl, b3⟩
  have hf3 : Blk w3 w2.heap.size (fcs 1 exAB) 28 := Blk.below (Blk.new w2 _ _) b3
  have g3 : Below w.heap.size w w3 := below_then (below_new g2 _) b3
  clear b3 g2
  have HF3 := Lib.hid hf3; clear hf3
  go_wp2_with fail
  refine (next_bad exX _ (by decide) (by rw [exX_C]; decide)).mono ?_
  rw [exX_C, exX_At]
  rintro e w4 ⟨f, rfl, _, hf, b4⟩
  have hf4 := Blk.alloc (Blk.below HF3.out b4) (.cells #[.int .i64 0, .string ⟨#[]⟩] 28)
  have hx4 := Blk.alloc hf (.cells #[.int .i64 0, .string ⟨#[]⟩] 28)
  have g4 := below_new (below_then g3 b4) (.cells #[.int .i64 0, .string ⟨#[]⟩] 28)
  have c0 := fcs0 hf4
  have c1 := fcs1 hf4
  have HX4 := Lib.hid hx4; clear hx4 hf b4 g3 HF3 hf4
  go_wp2_with fail
  refine (from_any 1 exAB _).mono ?_
  rintro e w5 ⟨rfl, b5⟩
  have g5 := below_then g4 b5
  have HX5 := Lib.hid (Blk.below HX4.out b5)
  clear b5 g4 HX4
  go_wp2_with fail
  refine (seen_errno 5 _ (by decide)).mono ?_
  rintro e w6 ⟨rfl, b6⟩
  have g6 := below_then g5 b6
  have HX6 := Lib.hid (Blk.below HX5.out b6)
  clear b6 g5 HX5
  go_wp2_with fail
  refine (seen_some _ 6 13 _ (HG.out.below g6 HG.out.lt) HX6.out (by decide) (by decide)).mono ?_
  rintro e w7 ⟨rfl, b7⟩
  have g7 := below_then g6 b7
  clear b7 g6
  go_wp2
  go_ret
  exact ⟨rfl, g7⟩

set_option maxRecDepth 100000 in
set_option maxHeartbeats 2000000 in
theorem anew_core (s : ByteArray) (w : World) (hg : Handle w) (hs : s.size ≤ 9000) :
    Calls Tryd.prog 6 #[.string s] w fun e w' => e = .returned (.bool true) ∧ Below w.heap.size w w' := by
  have HS : Hid (s.size ≤ 1048576) := Lib.hid (by omega)
  have HW := Lib.hid (fworks_any w hg); clear hg
  have hfe := FE_le s
  have hcat := FL_cats s
  have hcsz : (cats (FL s)).size ≤ 9000 := by rw [hcat, ext_size2 s hfe]; omega
  have hlen := FL_le HS.out
  have HC := Lib.hid hcat; clear hcat
  have HZ := Lib.hid hcsz; clear hcsz
  by_cases hend : FE s < s.size
  · have hbad := Lib.hid (FE_bad hend)
    have h1 : (FE s : Int) < s.size := by omega
    have hn1 : (FE s : Int) ≤ s.size := by omega
    have hn0 : (0 : Int) ≤ FE s := by omega
    have hn2 : ¬ s.size < FE s := by omega
    have h2 : ((FE s : Int) == s.size) = false := by simp; omega
    go_enter Tryd.func6, Tryd.ntmps6
    go_wp2_with fail
    refine HW.out.mono ?_
    rintro e w1 ⟨rfl, b1⟩
    go_wp2_with fail
    refine (all_any s _ HS.out).mono ?_
    rintro e w2 ⟨lv, v, rfl, o2, he, b2⟩
    obtain ⟨f, rfl⟩ : ∃ f, v = .iface 56 (.pointer (some ⟨f, 0, none⟩)) := by
      rcases he with ⟨h, _⟩ | ⟨_, f, h, _⟩ | ⟨_, f, _, _, _, _, h, _⟩
      · exact absurd h hbad.out
      · exact ⟨f, h⟩
      · exact ⟨f, h⟩
    obtain ⟨al, cap, rfl, hal⟩ := own_all o2
    have g2 := below_then b1 b2
    clear b1 b2 o2 he
    go_wp2
    go_loopw [6, 7] (fun tv i wr => ∃ m : Nat, m ≤ (FL s).length ∧ tv = .string (cats ((FL s).take m)) ∧ i = .int .i64 (m : Int) ∧ FrAll wr al (FL s) ∧ Below w.heap.size w wr) (fun _ i _ => ((FL s).length - intOf i).toNat)
    case atStart => exact ⟨0, Nat.zero_le _, rfl, rfl, hal, g2⟩
    case round =>
      obtain ⟨m, hm, rfl, rfl, hfa, hb⟩ := hrel
      by_cases hml : m < (FL s).length
      · have hml1 : (m : Int) < (FL s).length := by omega
        obtain ⟨g, rfl, c0, c1⟩ := hfa m hml
        have HFA := Lib.hid hfa; clear hfa hal
        have hw : IntKind.i64.wrap ((m : Int) + 1) = (m : Int) + 1 := by rw [IntKind.wrap_i64]; omega
        have HGD := Lib.hid (FL_good hml)
        have hadd : ∀ W, (Op.stringOp .add (cats ((FL s).take m)) (encS (FL s)[m].1 (FL s)[m].2)).run Tryd.prog W = .ok (.string (cats ((FL s).take (m + 1)))) W := fun W => by
          rw [cats_take hml]
          exact run_string_add_sum W _ _ (by have h5 := cats_size (L := FL s) (m + 1); rw [cats_take hml, ByteArray.size_append] at h5; have := HZ.out; omega)
        go_wp2_with fail
        refine (write_good (FL s)[m].1 (FL s)[m].2 _ HGD.out.1 HGD.out.2.1 HGD.out.2.2).mono ?_
        rintro e w3 ⟨rfl, b3⟩
        have HF3 := Lib.hid (HFA.out.below b3)
        have HB3 := Lib.hid (below_then hb b3); clear hb b3 HFA
        go_wp2
        go_roundw
        case rel => exact ⟨m + 1, by omega, rfl, by go_num, HF3.out, HB3.out⟩
        case measure => simp [intOf]; omega
      · have hml1 : ((FL s).length : Int) ≤ m := by omega
        have hmm : m = (FL s).length := by omega
        subst hmm
        have heq : ((cats (FL s)).toList == (s.extract 0 (FE s)).toList) = true := by rw [HC.out]; simp
        have heq2 : FE s = s.size → ((cats (FL s)).toList == s.toList) = true := fun hh => by rw [HC.out, hh]; simp
        go_wp2
        go_ret
        exact ⟨rfl, hb⟩
  · obtain ⟨hfs, hec⟩ := FE_end hend
    have HE := Lib.hid hec; clear hec hend
    have h2 : ((FE s : Int) == s.size) = true := by simp; omega
    go_enter Tryd.func6, Tryd.ntmps6
    go_wp2_with fail
    refine HW.out.mono ?_
    rintro e w1 ⟨rfl, b1⟩
    go_wp2_with fail
    refine (all_any s _ HS.out).mono ?_
    rintro e w2 ⟨lv, v, rfl, o2, he, b2⟩
    obtain rfl : v = .nilIface := by
      rcases he with ⟨_, _, h⟩ | ⟨h, _⟩ | ⟨h, _⟩
      · exact h
      · exact absurd HE.out h
      · exact absurd HE.out h
    obtain ⟨al, cap, rfl, hal⟩ := own_all o2
    have g2 := below_then b1 b2
    clear b1 b2 o2 he
    go_wp2
    go_loopw [6, 7] (fun tv i wr => ∃ m : Nat, m ≤ (FL s).length ∧ tv = .string (cats ((FL s).take m)) ∧ i = .int .i64 (m : Int) ∧ FrAll wr al (FL s) ∧ Below w.heap.size w wr) (fun _ i _ => ((FL s).length - intOf i).toNat)
    case atStart => exact ⟨0, Nat.zero_le _, rfl, rfl, hal, g2⟩
    case round =>
      obtain ⟨m, hm, rfl, rfl, hfa, hb⟩ := hrel
      by_cases hml : m < (FL s).length
      · have hml1 : (m : Int) < (FL s).length := by omega
        obtain ⟨g, rfl, c0, c1⟩ := hfa m hml
        have HFA := Lib.hid hfa; clear hfa hal
        have hw : IntKind.i64.wrap ((m : Int) + 1) = (m : Int) + 1 := by rw [IntKind.wrap_i64]; omega
        have HGD := Lib.hid (FL_good hml)
        have hadd : ∀ W, (Op.stringOp .add (cats ((FL s).take m)) (encS (FL s)[m].1 (FL s)[m].2)).run Tryd.prog W = .ok (.string (cats ((FL s).take (m + 1)))) W := fun W => by
          rw [cats_take hml]
          exact run_string_add_sum W _ _ (by have h5 := cats_size (L := FL s) (m + 1); rw [cats_take hml, ByteArray.size_append] at h5; have := HZ.out; omega)
        go_wp2_with fail
        refine (write_good (FL s)[m].1 (FL s)[m].2 _ HGD.out.1 HGD.out.2.1 HGD.out.2.2).mono ?_
        rintro e w3 ⟨rfl, b3⟩
        have HF3 := Lib.hid (HFA.out.below b3)
        have HB3 := Lib.hid (below_then hb b3); clear hb b3 HFA
        go_wp2
        go_roundw
        case rel => exact ⟨m + 1, by omega, rfl, by go_num, HF3.out, HB3.out⟩
        case measure => simp [intOf]; omega
      · have hml1 : ((FL s).length : Int) ≤ m := by omega
        have hmm : m = (FL s).length := by omega
        subst hmm
        have heq : ((cats (FL s)).toList == (s.extract 0 (FE s)).toList) = true := by rw [HC.out]; simp
        have heq2 : FE s = s.size → ((cats (FL s)).toList == s.toList) = true := fun hh => by rw [HC.out, hh]; simp
        have heq3 := heq2 hfs
        go_wp2
        go_ret
        exact ⟨rfl, hb⟩

theorem frameAnew_walk (s : ByteArray) (w : World) (hg : Handle w) (hs : s.size ≤ maxLen) :
    Calls Tryd.prog 6 #[.string s] w fun e w' => e = .returned (.bool true) ∧ Below w.heap.size w w' := by
  unfold maxLen at hs
  by_cases h : 9000 < s.size
  · have HW := Lib.hid (fworks_any w hg)
    go_enter Tryd.func6, Tryd.ntmps6
    go_wp2_with fail
    refine HW.out.mono ?_
    rintro e w1 ⟨rfl, b1⟩
    go_wp2
    go_ret
    exact ⟨rfl, b1⟩
  · exact anew_core s w hg (by omega)
end Go.Proofs.YtcmdemblegdelaaDoor
