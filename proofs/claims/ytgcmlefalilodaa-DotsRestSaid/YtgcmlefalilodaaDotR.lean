/-
  The document's Union and Minus; and Beyond, package dots' and the document's.
  Conditions: none.
-/
import Derived.Test.YtgcmlefalilodaaDotQ
import Derived.Test.YtgcmlefalilodaaVecK
namespace Go.Proofs.Ytgcmlefalilodaa
open Go.RowKit Go.Shelf Go.Lib Go.Sort

/-- append of a list into a row of the call's own that is not nil. -/
theorem wpList_append_ids {w : World} {ops : Array Oper} {rest : List Oper} {o : Oper} {a : Act} {Q : Exit → Act → World → Prop} (hgd : o.guard = none) (s x : Operand)
    (ho : o.op = .call { callee := .builtin .append, args := #[s, x], argTypes := #[22, 22] })
    (base : Nat) (i : TypeInfo) (hi : Try.prog.info? 25 = some i) (hz : i.zero = some (.agg #[.int .i64 0, .int .u32 0])) (hsize : i.size = 2) (hby : i.bytes = 16)
    (v : Value) (n : Nat) (N : List (Int × Int)) (hs : a.eval s = v) (hown : w.ownsRow base 25 2 v n (idCs N)) (hv : ¬ v = .slice none 0 0)
    (ad : Option Addr) (m c : Nat) (L : List (Int × Int)) (hx : a.eval x = .slice ad m c) (hsrc : Ids w ad m c L)
    (hl : n + m ≤ 1048576) (hbase : base ≤ w.heap.size)
    (h : ∀ g c' w', w'.ownsRow base 25 2 (.slice (some ⟨g, 0, none⟩) (n + m) c') (n + m) (idCs (N ++ L)) → base ≤ g → w.grownBy w' v.ownBlock → wpList Try.prog ops Q rest (a.put o.dst (.slice (some ⟨g, 0, none⟩) (n + m) c')) w') : wpList Try.prog ops Q (o :: rest) a w := by
  cases ad with
  | none =>
    obtain rfl : m = 0 := by
      rcases Nat.eq_zero_or_pos m with e | e
      · exact e
      · obtain ⟨_, _, _, _, k, _⟩ := hsrc.nth 0 e; cases k
    obtain rfl : c = 0 := hsrc.nn rfl
    obtain rfl : L = [] := List.length_eq_zero_iff.1 hsrc.ln.symm
    obtain ⟨g, c', hg, hgb⟩ := own_shape hown hv
    subst hg
    refine wpList_append_own_none hgd s x 22 ho base 25 i 2 Try.underlying22 hi _ n (idCs N) hs hown hx ?_
    exact h g c' w (by simpa using hown) hgb ⟨rfl, rfl, rfl, Nat.le_refl _, fun _ _ _ => rfl⟩
  | some ad =>
    refine wpList_append_own w hgd s x 22 ho base 25 i (.agg #[.int .i64 0, .int .u32 0]) 2 16 Try.underlying22 hi hz hsize hby rfl (by decide) v n (idCs N) hs hown ad m c (idCs L) hx (by rw [idCs_len, hsrc.ln]) hsrc.src (idCs_one L) (by unfold maxLen; omega) (by omega) hbase ?_
    intro v' w' hown' hgrow hnil
    have hne : ¬ v' = .slice none 0 0 := fun e => hv (hnil.1 e).1
    obtain ⟨g, c', rfl, hgb⟩ := own_shape hown' hne
    exact h g c' w' (by rw [idCs_app]; exact hown') hgb hgrow

/-! ### The document's -/
set_option maxHeartbeats 400000 in
theorem both_any (al al' : Option Addr) (len cap len' cap' : Nat) (L M : List (Int × Int)) (w : World) (hL : Ids w al len cap L) (hM : Ids w al' len' cap' M) :
    Calls Try.prog 44 #[.slice al len cap, .slice al' len' cap'] w fun e w' => e = .returned (.int .i64 (twoC L M)) ∧ Below w.heap.size w w' := by
  have HL := Lib.hid hL; clear hL
  have HM := Lib.hid hM; clear hM
  by_cases hc : chkS L = 0
  · have HC := Lib.hid hc
    have HT : Hid (twoC L M = chkS M) := Lib.hid (by unfold twoC orZ; rw [if_pos hc])
    clear hc
    go_enter Try.func44, Try.ntmps44
    go_wp2_with fail
    refine (rdCheck_any al len cap L _ HL.out).mono ?_
    rw [HC.out]
    rintro e w1 ⟨rfl, b1⟩
    have HB1 := Lib.hid b1; clear b1
    go_wp2_with fail
    refine (rdCheck_any al' len' cap' M _ (HM.out.below HB1.out)).mono ?_
    rintro e w2 ⟨rfl, b2⟩
    have HB2 := Lib.hid (below_then HB1.out b2); clear b2
    go_wp2
    go_ret
    exact ⟨by rw [HT.out]; rfl, HB2.out⟩
  · have HT : Hid (twoC L M = chkS L) := Lib.hid (by unfold twoC orZ; rw [if_neg hc])
    obtain ⟨c, hcc⟩ : ∃ c, chkS L = c := ⟨_, rfl⟩
    rw [hcc] at hc
    have hn : (c != 0) = true := by simpa using hc
    have HCC := Lib.hid hcc; clear hc hcc
    go_enter Try.func44, Try.ntmps44
    go_wp2_with fail
    refine (rdCheck_any al len cap L _ HL.out).mono ?_
    rw [HCC.out]
    rintro e w1 ⟨rfl, b1⟩
    go_wp2
    go_ret
    exact ⟨by rw [HT.out, HCC.out]; rfl, b1⟩

set_option maxHeartbeats 1000000 in
theorem rUnion_any (al al' : Option Addr) (len cap len' cap' : Nat) (L M : List (Int × Int)) (w : World) (hL : Ids w al len cap L) (hM : Ids w al' len' cap' M) :
    Calls Try.prog 18 #[.slice al len cap, .slice al' len' cap'] w fun e w' => ∃ al2 cap2, e = .returned (.tuple #[.slice al2 (unS L M).length cap2, .int .i64 (unC L M)]) ∧ Ids w' al2 (unS L M).length cap2 (unS L M) ∧ Below w.heap.size w w' := by
  obtain ⟨ti, hi, hz0, hz1, hz2⟩ := info_parts Try.infoId
  have HL := Lib.hid hL
  have HM := Lib.hid hM
  by_cases hc : twoC L M = 0
  · have HT := Lib.hid hc
    have HUN := Lib.hid (un_ok hc)
    have hlen : len ≤ 64 ∧ len' ≤ 64 := by
      obtain ⟨c1, c2⟩ := two_zero hc
      have := (chkS_zero c1).1; have := (chkS_zero c2).1
      have := hL.ln; have := hM.ln
      omega
    clear hL hM hc
    go_enter Try.func18, Try.ntmps18
    go_wp2_with fail
    refine (both_any al al' len cap len' cap' L M _ HL.out HM.out).mono ?_
    rw [HT.out]
    rintro e w1 ⟨rfl, b1⟩
    have HB1 := Lib.hid b1; clear b1
    have hb2 := below_new HB1.out (.cells #[] 25)
    have HB2 := Lib.hid hb2
    have HO := Lib.hid (lit_own w1)
    have HL2 := Lib.hid (HL.out.below hb2)
    clear hb2
    go_wp2_with (at_builtin; refine wpList_append_ids rfl (.tmp 13) (.tmp 14) rfl w1.heap.size ti hi hz0 hz1 hz2 _ _ [] rfl HO.out nofun al len cap L rfl HL2.out (by omega) (by simp) ?_)
    intro g c3 w3 hown3 hgb hgrow
    have HB3 : Hid (Below w.heap.size w w3) := Lib.hid (HB2.out.grown hgrow (by have := HB1.out.size; simp; omega) (fun k hk => by have := own_base HO.out k hk; have := HB1.out.size; omega))
    have hz3 : w1.heap.size ≤ w3.heap.size := by have := hgrow.size; simp at this; omega
    have HO3 := Lib.hid hown3
    clear hown3 hgrow
    go_wp2_with (at_builtin; refine wpList_append_ids rfl (.tmp 15) (.tmp 16) rfl w1.heap.size ti hi hz0 hz1 hz2 _ _ L rfl HO3.out nofun al' len' cap' M rfl (HM.out.below HB3.out) (by omega) hz3 ?_)
    intro g2 c4 w4 hown4 hgb4 hgrow
    have HB4 : Hid (Below w.heap.size w w4) := Lib.hid (HB3.out.grown hgrow HB3.out.size (fun k hk => by have := own_base HO3.out k hk; have := HB1.out.size; omega))
    obtain ⟨hl4, al5, cap5, e5, hI5, _⟩ := own_ids hown4
    rw [← hl4] at e5 hI5
    cases e5
    have HI5 := Lib.hid hI5
    clear hgrow hown4 hI5 hl4
    go_wp2_with fail
    refine (rMake_any _ _ _ (L ++ M) w4 HI5.out).mono ?_
    rintro e w6 ⟨al6, cap6, rfl, hI6, b6⟩
    have HI6 := Lib.hid hI6; clear hI6
    have HB6 := Lib.hid (HB4.out.trans (b6.mono HB4.out.size)); clear b6
    go_wp2
    go_ret2
    exact ⟨al6, cap6, by rw [HUN.out.1, HUN.out.2]; rfl, by rw [HUN.out.2]; exact HI6.out, HB6.out⟩
  · have HUN := Lib.hid (un_bad hc)
    obtain ⟨c, hcc⟩ : ∃ c, twoC L M = c := ⟨_, rfl⟩
    rw [hcc] at hc
    have hn : (c != 0) = true := by simpa using hc
    have HCC := Lib.hid hcc; clear hc hcc hL hM
    go_enter Try.func18, Try.ntmps18
    go_wp2_with fail
    refine (both_any al al' len cap len' cap' L M _ HL.out HM.out).mono ?_
    rw [HCC.out]
    rintro e w1 ⟨rfl, b1⟩
    go_wp2
    go_ret2
    exact ⟨none, 0, by rw [HUN.out.1, HUN.out.2, HCC.out]; rfl, by rw [HUN.out.2]; exact Ids.nil _, b1⟩
end Go.Proofs.Ytgcmlefalilodaa
