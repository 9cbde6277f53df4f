/-
  The document's Minus; and Beyond, package dots' and the document's.
  Conditions: none.
-/
import Derived.Test.YtgcmlefalilodaaDotR
namespace Go.Proofs.Ytgcmlefalilodaa
open Go.RowKit Go.Shelf Go.Lib Go.Sort

theorem take_filter {L : List (Int × Int)} {k : Nat} {x : Int × Int} (hx : L[k]? = some x) (p : Int × Int → Bool) : (L.take (k + 1)).filter p = (L.take k).filter p ++ (if p x then [x] else []) := by
  have hk := (List.getElem?_eq_some_iff.1 hx).1
  have e := (List.getElem?_eq_some_iff.1 hx).2
  rw [List.take_succ_eq_append_getElem hk, e, List.filter_append]
  congr 1
  by_cases h : p x <;> simp [h]
theorem filter_le (L : List (Int × Int)) (k : Nat) (p : Int × Int → Bool) : ((L.take k).filter p).length ≤ k := by
  have := List.length_filter_le p (L.take k)
  have : (L.take k).length ≤ k := List.length_take_le k L
  omega

set_option maxRecDepth 100000 in
set_option maxHeartbeats 2000000 in
theorem rMinus_any (al al' : Option Addr) (len cap len' cap' : Nat) (L M : List (Int × Int)) (w : World) (hL : Ids w al len cap L) (hM : Ids w al' len' cap' M) :
    Calls Try.prog 20 #[.slice al len cap, .slice al' len' cap'] w fun e w' => ∃ al2 cap2, e = .returned (.tuple #[.slice al2 (miS L M).length cap2, .int .i64 (twoC L M)]) ∧ Ids w' al2 (miS L M).length cap2 (miS L M) ∧ Below w.heap.size w w' := by
  obtain ⟨ti, hi, hz0, hz1, hz2⟩ := info_parts Try.infoId
  have HL := Lib.hid hL
  have HM := Lib.hid hM
  by_cases hc : twoC L M = 0
  · have HT := Lib.hid hc
    have HUN := Lib.hid (mi_ok hc)
    have hlen : len ≤ 64 := by
      obtain ⟨c1, c2⟩ := two_zero hc
      have := (chkS_zero c1).1
      have := hL.ln
      omega
    have hcap := hL.bd
    have hfit := hL.fit
    have HLL := Lib.hid hL.ln
    clear hL hM hc
    go_enter Try.func20, Try.ntmps20
    go_wp2_with fail
    refine (both_any al al' len cap len' cap' L M _ HL.out HM.out).mono ?_
    rw [HT.out]
    rintro e w1 ⟨rfl, b1⟩
    have HB1 := Lib.hid b1; clear b1
    go_wp2
    go_loopw [7, 8] (fun v s8 wr => ∃ k : Nat, s8 = .int .i64 k ∧ k ≤ len ∧ wr.ownsRow w.heap.size 25 2 v ((L.take k).filter fun x => decide (x ∉ M)).length (idCs ((L.take k).filter fun x => decide (x ∉ M))) ∧ Below w.heap.size w wr) (fun _ s8 _ => len - (intOf s8).toNat)
    case atStart => exact ⟨0, rfl, by omega, World.ownsRow_nil _ _ _ _, HB1.out⟩
    case round =>
      obtain ⟨k, rfl, hk, hown, hb⟩ := hrel
      have HB := Lib.hid hb; clear hb
      by_cases hkl : k < len
      · obtain ⟨b, off, o, q, rfl, hx, i0, i1⟩ := (HL.out.below HB.out).nth k hkl
        have htf := take_filter hx fun x => decide (x ∉ M)
        have hfl := filter_le L k fun x => decide (x ∉ M)
        clear hx
        generalize (L.take k).filter (fun x => decide (x ∉ M)) = F at hown htf hfl
        have HO := Lib.hid hown; clear hown
        cases hh : hasS M (o, q) with
        | true =>
          have hm : (o, q) ∈ M := by unfold hasS at hh; rwa [decide_eq_true_iff] at hh
          rw [decide_eq_false (by simpa using hm)] at htf
          simp only [Bool.false_eq_true, if_false, List.append_nil] at htf
          have HTF := Lib.hid htf; clear htf
          have HH := Lib.hid hh; clear hh hm
          go_wp2_with fail
          refine (rHas_any al' len' cap' M o q _ (HM.out.below HB.out)).mono ?_
          rw [HH.out]
          rintro e w2 ⟨rfl, b2⟩
          have HO2 := Lib.hid (own_below HO.out b2)
          have HB2 := Lib.hid (HB.out.trans (b2.mono HB.out.size)); clear b2
          go_wp2
          go_roundw
          case rel => exact ⟨k + 1, by go_num, by omega, by rw [HTF.out]; exact HO2.out, HB2.out⟩
          case measure => simp [intOf]; omega
        | false =>
          have hm : (o, q) ∉ M := by unfold hasS at hh; rwa [decide_eq_false_iff_not] at hh
          rw [decide_eq_true hm, if_pos rfl] at htf
          have HTF := Lib.hid htf; clear htf
          have HH := Lib.hid hh; clear hh hm
          go_wp2_with fail
          refine (rHas_any al' len' cap' M o q _ (HM.out.below HB.out)).mono ?_
          rw [HH.out]
          rintro e w2 ⟨rfl, b2⟩
          have j0 := (b2.cell (p := ⟨b, off + k * 2, none⟩) (cellLt i0)).trans i0
          have j1 := (b2.cell (p := ⟨b, off + k * 2 + 1, none⟩) (cellLt i1)).trans i1
          have HO2 := Lib.hid (own_below HO.out b2)
          have HB2 := Lib.hid (HB.out.trans (b2.mono HB.out.size)); clear b2
          go_wp2_with (at_builtin; refine wpList_append_own _ rfl (.tmp 28) (.tmp 33) 22 rfl w.heap.size 25 ti (.agg #[.int .i64 0, .int .u32 0]) 2 16 Try.underlying22 hi hz0 hz1 hz2 rfl (by decide) _ _ _ rfl (HO2.out.alloc _) ⟨w2.heap.size, 0, none⟩ 1 1 [.int .i64 o, .int .u32 q] rfl rfl ?c1 ?c2 ?c3 ?c4 ?c5 ?_)
          case c1 => exact newId_at _ _ _ _ rfl
          case c2 => intro u hu; simp at hu; rcases hu with rfl | rfl <;> rfl
          case c3 => unfold maxLen; omega
          case c4 => omega
          case c5 => have := HB2.out.size; simp; omega
          intro v' w3 hown' hgrow hn'
          have HB3 : Hid (Below w.heap.size w w3) := Lib.hid ((HB2.out.alloc HB2.out.size _).grown hgrow (by have := HB2.out.size; simp; omega) (fun k hk => own_base HO2.out k hk))
          have HO3 := Lib.hid hown'
          clear hown' hgrow hn'
          go_wp2
          go_roundw
          case rel => exact ⟨k + 1, by go_num, by omega, by rw [HTF.out, idCs_app, List.length_append]; exact HO3.out, HB3.out⟩
          case measure => simp [intOf]; omega
      · have hkk : (len : Int) ≤ k := by omega
        have e : (L.take k).filter (fun x => decide (x ∉ M)) = miS L M := by
          rw [HUN.out, List.take_of_length_le (by have := HLL.out; omega)]
        rw [e] at hown
        obtain ⟨_, al4, cap4, rfl, hI4, hF4⟩ := own_ids hown
        have HI4 := Lib.hid hI4; clear hI4 hF4 hown e
        generalize hn : (miS L M).length = n at HI4 ⊢
        have HN := Lib.hid hn; clear hn
        go_wp2
        go_ret2
        exact ⟨al4, cap4, by rw [HN.out, HT.out]; rfl, by rw [HN.out]; exact HI4.out, HB.out⟩
  · have HUN := Lib.hid (mi_bad hc)
    obtain ⟨c, hcc⟩ : ∃ c, twoC L M = c := ⟨_, rfl⟩
    rw [hcc] at hc
    have hn : (c != 0) = true := by simpa using hc
    have HCC := Lib.hid hcc; clear hc hcc hL hM
    go_enter Try.func20, Try.ntmps20
    go_wp2_with fail
    refine (both_any al al' len cap len' cap' L M _ HL.out HM.out).mono ?_
    rw [HCC.out]
    rintro e w1 ⟨rfl, b1⟩
    go_wp2
    go_ret2
    exact ⟨none, 0, by rw [HUN.out, HCC.out]; rfl, by rw [HUN.out]; exact Ids.nil _, b1⟩
end Go.Proofs.Ytgcmlefalilodaa
