/-
  The document's Minus; and Beyond, package dots' and the document's.
  Conditions: none.
-/
import Derived.Test.YthbdjgebpjffgaaGreatDoorDotP
import Derived.Test.YthbdjgebpjffgaaGreatDoorVecK
set_option linter.unusedVariables false
set_option linter.unusedSimpArgs false
namespace Go.Proofs.YthbdjgebpjffgaaGreatDoor
open Go.RowKit Go.Shelf Go.Lib Go.Sort

theorem take_filter {L : List (Int × Int)} {k : Nat} {x : Int × Int} (hx : L[k]? = some x) (p : Int × Int → Bool) : (L.take (k + 1)).filter p = (L.take k).filter p ++ (if p x then [x] else []) := by
  have hk := (List.getElem?_eq_some_iff.1 hx).1
  have e := (List.getElem?_eq_some_iff.1 hx).2
  rw [List.take_succ_eq_append_getElem hk, e, List.filter_append]
  congr 1
  by_cases h : p x <;> simp [h]
theorem filter_le (L : List (Int × Int)) (k : Nat) (p : Int × Int → Bool) : ((L.take k).filter p).length ≤ k := by
  have := List.length_filter_le p (L.take k)
  have : (L.take k).length ≤ k := List.length_take_le k L
  omega

end Go.Proofs.YthbdjgebpjffgaaGreatDoor

/-
  Beyond: package dots' and the document's.
  Conditions: none.
-/

namespace Go.Proofs.YthbdjgebpjffgaaGreatDoor
open Go.RowKit Go.Shelf Go.Lib Go.Sort

/-- What of a list is beyond a vector. -/
def byS (v : Nat → Int) (L : List (Int × Int)) : List (Int × Int) := L.filter fun x => !hasV v x.1 x.2
def byR (v : Nat → Int) (L : List (Int × Int)) : List (Int × Int) := if chkS L = 0 then byS v L else []
/-- A vector's block and a name's cells; nothing that was has turned. -/
structure BY (w1 : World) (g : Nat) (v : Nat → Int) (b p : Nat) (o q : Int) (w : World) : Prop where
  bel : Below w1.heap.size w1 w
  a : Blk w1 g #[.int .u32 (v 0), .int .u32 (v 1), .int .u32 (v 2), .int .u32 (v 3), .int .u32 (v 4), .int .u32 (v 5), .int .u32 (v 6), .int .u32 (v 7)] 24
  i0 : w1.cell? ⟨b, p, none⟩ = some (.int .i64 o)
  i1 : w1.cell? ⟨b, p + 1, none⟩ = some (.int .u32 q)
section
variable {w1 w w' : World} {g : Nat} {v : Nat → Int} {b p : Nat} {o q : Int}
theorem BY.next (h : BY w1 g v b p o q w) (k : Below w.heap.size w w') : BY w1 g v b p o q w' := ⟨below_then h.bel k, h.a, h.i0, h.i1⟩
theorem BY.drew (h : BY w1 g v b p o q w) : BY w1 g v b p o q w.drew := h.next (Below.refl _ _).drew
theorem BY.blk (h : BY w1 g v b p o q w) : Blk w g #[.int .u32 (v 0), .int .u32 (v 1), .int .u32 (v 2), .int .u32 (v 3), .int .u32 (v 4), .int .u32 (v 5), .int .u32 (v 6), .int .u32 (v 7)] 24 := h.a.below h.bel
theorem BY.all (h : BY w1 g v b p o q w) : w.cell? ⟨g, 0, none⟩ = some (.int .u32 (v 0)) ∧ w.cell? ⟨g, 1, none⟩ = some (.int .u32 (v 1)) ∧ w.cell? ⟨g, 2, none⟩ = some (.int .u32 (v 2)) ∧ w.cell? ⟨g, 3, none⟩ = some (.int .u32 (v 3)) ∧ w.cell? ⟨g, 4, none⟩ = some (.int .u32 (v 4)) ∧ w.cell? ⟨g, 5, none⟩ = some (.int .u32 (v 5)) ∧ w.cell? ⟨g, 6, none⟩ = some (.int .u32 (v 6)) ∧ w.cell? ⟨g, 7, none⟩ = some (.int .u32 (v 7)) ∧ w.cell? ⟨b, p, none⟩ = some (.int .i64 o) ∧ w.cell? ⟨b, p + 1, none⟩ = some (.int .u32 q) ∧ BY w1 g v b p o q w :=
  ⟨vec_cell h.blk 0 (by omega), vec_cell h.blk 1 (by omega), vec_cell h.blk 2 (by omega), vec_cell h.blk 3 (by omega), vec_cell h.blk 4 (by omega), vec_cell h.blk 5 (by omega), vec_cell h.blk 6 (by omega), vec_cell h.blk 7 (by omega), (h.bel.cell (p := ⟨b, p, none⟩) (cellLt h.i0)).trans h.i0, (h.bel.cell (p := ⟨b, p + 1, none⟩) (cellLt h.i1)).trans h.i1, h⟩
theorem BY.held {c0 c1 c2 c3 c4 c5 c6 c7 d0 d1 : Prop} (h : c0 ∧ c1 ∧ c2 ∧ c3 ∧ c4 ∧ c5 ∧ c6 ∧ c7 ∧ d0 ∧ d1 ∧ BY w1 g v b p o q w) : BY w1 g v b p o q w := h.2.2.2.2.2.2.2.2.2.2
theorem rhas_BY (x y : Int) (t : Bool) (ht : hasV v x y = t) (h : BY w1 g v b p o q w) :
    Calls Tryz.prog 86 #[.agg #[.int .u32 (v 0), .int .u32 (v 1), .int .u32 (v 2), .int .u32 (v 3), .int .u32 (v 4), .int .u32 (v 5), .int .u32 (v 6), .int .u32 (v 7)], .agg #[.int .i64 x, .int .u32 y]] w fun e w' => e = .returned (.bool t) ∧ BY w1 g v b p o q w' :=
  (rhas_any v x y w).mono fun _ _ ⟨h1, h2⟩ => ⟨ht ▸ h1, h.next h2⟩
end

set_option maxRecDepth 100000 in
set_option maxHeartbeats 2000000 in
theorem beyond_any (al : Option Addr) (len cap : Nat) (L : List (Int × Int)) (v : Nat → Int) (w : World) (hL : Ids w al len cap L) :
    Calls Tryz.prog 55 #[.slice al len cap, .agg #[.int .u32 (v 0), .int .u32 (v 1), .int .u32 (v 2), .int .u32 (v 3), .int .u32 (v 4), .int .u32 (v 5), .int .u32 (v 6), .int .u32 (v 7)]] w fun e w' => ∃ al2 cap2, e = .returned (.tuple #[.slice al2 (byR v L).length cap2, .int .i64 (chkS L)]) ∧ Ids w' al2 (byR v L).length cap2 (byR v L) ∧ Below w.heap.size w w' := by
  obtain ⟨ti, hi, hz0, hz1, hz2⟩ := info_parts Tryz.infoId
  have hb0 := (Below.refl w.heap.size w).alloc (Nat.le_refl _) (.cells #[.int .u32 (v 0), .int .u32 (v 1), .int .u32 (v 2), .int .u32 (v 3), .int .u32 (v 4), .int .u32 (v 5), .int .u32 (v 6), .int .u32 (v 7)] 24)
  have HL0 := Lib.hid hL
  have HL := Lib.hid (hL.below hb0)
  have HV0 := Lib.hid (Blk.new w #[.int .u32 (v 0), .int .u32 (v 1), .int .u32 (v 2), .int .u32 (v 3), .int .u32 (v 4), .int .u32 (v 5), .int .u32 (v 6), .int .u32 (v 7)] 24)
  have HB0 := Lib.hid hb0; clear hb0
  by_cases hc : chkS L = 0
  · have HT := Lib.hid hc
    have HUN : Hid (byR v L = byS v L) := Lib.hid (by unfold byR; rw [if_pos hc])
    have hlen : len ≤ 64 := by
      have := (chkS_zero hc).1
      have := hL.ln
      omega
    have hcap := hL.bd
    have hfit := hL.fit
    have HLL := Lib.hid hL.ln
    clear hL hc
    go_enter Tryz.func55, Tryz.ntmps55
    go_wp2_with fail
    refine (dCheck_any al len cap L _ HL.out).mono ?_
    rw [HT.out]
    rintro e w1 ⟨rfl, b1⟩
    have HV1 := Lib.hid (HV0.out.below b1)
    have HB1 := Lib.hid (below_then HB0.out b1); clear b1
    go_wp2
    go_loopw [7, 17] (fun vv s8 wr => ∃ k : Nat, s8 = .int .i64 k ∧ k ≤ len ∧ wr.ownsRow (w.heap.size + 1) 83 2 vv ((L.take k).filter fun x => !hasV v x.1 x.2).length (idCs ((L.take k).filter fun x => !hasV v x.1 x.2)) ∧ Blk wr w.heap.size #[.int .u32 (v 0), .int .u32 (v 1), .int .u32 (v 2), .int .u32 (v 3), .int .u32 (v 4), .int .u32 (v 5), .int .u32 (v 6), .int .u32 (v 7)] 24 ∧ Below w.heap.size w wr) (fun _ s8 _ => len - (intOf s8).toNat)
    case atStart => exact ⟨0, rfl, by omega, World.ownsRow_nil _ _ _ _, HV1.out, HB1.out⟩
    case round =>
      obtain ⟨k, rfl, hk, hown, hv, hb⟩ := hrel
      have HB := Lib.hid hb; clear hb
      obtain ⟨v0, v1, v2, v3, v4, v5, v6, v7⟩ : wr.cell? ⟨w.heap.size, 0, none⟩ = some (.int .u32 (v 0)) ∧ wr.cell? ⟨w.heap.size, 1, none⟩ = some (.int .u32 (v 1)) ∧ wr.cell? ⟨w.heap.size, 2, none⟩ = some (.int .u32 (v 2)) ∧ wr.cell? ⟨w.heap.size, 3, none⟩ = some (.int .u32 (v 3)) ∧ wr.cell? ⟨w.heap.size, 4, none⟩ = some (.int .u32 (v 4)) ∧ wr.cell? ⟨w.heap.size, 5, none⟩ = some (.int .u32 (v 5)) ∧ wr.cell? ⟨w.heap.size, 6, none⟩ = some (.int .u32 (v 6)) ∧ wr.cell? ⟨w.heap.size, 7, none⟩ = some (.int .u32 (v 7)) := ⟨vec_cell hv 0 (by omega), vec_cell hv 1 (by omega), vec_cell hv 2 (by omega), vec_cell hv 3 (by omega), vec_cell hv 4 (by omega), vec_cell hv 5 (by omega), vec_cell hv 6 (by omega), vec_cell hv 7 (by omega)⟩
      have HV := Lib.hid hv; clear hv
      by_cases hkl : k < len
      · obtain ⟨b, off, o, q, rfl, hx, i0, i1⟩ : IdN wr al L k := (HL0.out.below HB.out).nth k hkl
        have hY : BY wr w.heap.size v b (off + k * 2) o q wr := ⟨Below.refl _ _, HV.out, i0, i1⟩
        have htf := take_filter hx fun x => !hasV v x.1 x.2
        have hfl := filter_le L k fun x => !hasV v x.1 x.2
        clear hx
        generalize (L.take k).filter (fun x => !hasV v x.1 x.2) = F at hown htf hfl
        have HO := Lib.hid hown; clear hown
        cases hh : hasV v o q with
        | true =>
          simp only [hh, Bool.not_true, Bool.false_eq_true, if_false, List.append_nil] at htf
          have HTF := Lib.hid htf; clear htf
          have HH := Lib.hid hh; clear hh
          have HNB := Lib.hid (HB.out.alloc HB.out.size (.cells #[.int .i64 o, .int .u32 q] 83))
          have hbw := (Below.refl wr.heap.size wr).alloc (Nat.le_refl _) (.cells #[.int .i64 o, .int .u32 q] 83)
          have HBW := Lib.hid hbw; clear hbw
          have hwl : w.heap.size < wr.heap.size := HV.out.lt
          have hid := Blk.new wr #[.int .i64 o, .int .u32 q] 83
          have HID := Lib.hid hid; clear hid
          go_wp2_with fail
          refine (has_any v o q _).mono ?_
          rw [HH.out]
          rintro e w2 ⟨rfl, bb2⟩
          have b2 : Below wr.heap.size wr w2 := below_then HBW.out bb2
          have hid2 := HID.out.below bb2
          have k0 : w2.cell? ⟨wr.heap.size, 0, none⟩ = some (.int .i64 o) := by rw [Blk.cell hid2]; rfl
          have k1 : w2.cell? ⟨wr.heap.size, 1, none⟩ = some (.int .u32 q) := by rw [Blk.cell hid2]; rfl
          clear hid2 bb2
          have HO2 := Lib.hid (own_below HO.out b2)
          have HV2 := Lib.hid (HV.out.below b2)
          have HB2 := Lib.hid (HB.out.trans (b2.mono HB.out.size)); clear b2
          go_wp2
          go_roundw
          case rel => exact ⟨k + 1, by go_num, by omega, by rw [HTF.out]; exact HO2.out, HV2.out, HB2.out⟩
          case measure => simp [intOf]; omega
        | false =>
          simp only [hh, Bool.not_false, if_true] at htf
          have HTF := Lib.hid htf; clear htf
          have HH := Lib.hid hh; clear hh
          have HNB := Lib.hid (HB.out.alloc HB.out.size (.cells #[.int .i64 o, .int .u32 q] 83))
          have hbw := (Below.refl wr.heap.size wr).alloc (Nat.le_refl _) (.cells #[.int .i64 o, .int .u32 q] 83)
          have HBW := Lib.hid hbw; clear hbw
          have hwl : w.heap.size < wr.heap.size := HV.out.lt
          have hid := Blk.new wr #[.int .i64 o, .int .u32 q] 83
          have HID := Lib.hid hid; clear hid
          go_wp2_with fail
          refine (has_any v o q _).mono ?_
          rw [HH.out]
          rintro e w2 ⟨rfl, bb2⟩
          have b2 : Below wr.heap.size wr w2 := below_then HBW.out bb2
          have hid2 := HID.out.below bb2
          have k0 : w2.cell? ⟨wr.heap.size, 0, none⟩ = some (.int .i64 o) := by rw [Blk.cell hid2]; rfl
          have k1 : w2.cell? ⟨wr.heap.size, 1, none⟩ = some (.int .u32 q) := by rw [Blk.cell hid2]; rfl
          clear hid2 bb2
          have j0 := (b2.cell (p := ⟨b, off + k * 2, none⟩) (cellLt i0)).trans i0
          have j1 := (b2.cell (p := ⟨b, off + k * 2 + 1, none⟩) (cellLt i1)).trans i1
          have HO2 := Lib.hid (own_below HO.out b2)
          have HV2 := Lib.hid (HV.out.below b2)
          have HB2 := Lib.hid (HB.out.trans (b2.mono HB.out.size)); clear b2
          go_wp2_with (at_builtin; refine wpList_append_own _ rfl (.tmp 25) (.tmp 27) 25 rfl (w.heap.size + 1) 83 ti (.agg #[.int .i64 0, .int .u32 0]) 2 16 Tryz.underlying25 hi hz0 hz1 hz2 rfl (by decide) _ _ _ rfl (HO2.out.alloc _) ⟨w2.heap.size, 0, none⟩ 1 1 [.int .i64 o, .int .u32 q] rfl rfl ?c1 ?c2 ?c3 ?c4 ?c5 ?_)
          case c1 => exact newId_at _ _ _ _ rfl
          case c2 => intro u hu; simp at hu; rcases hu with rfl | rfl <;> rfl
          case c3 => unfold maxLen; omega
          case c4 => omega
          case c5 => have := HV2.out.lt; simp; omega
          intro v' w3 hown' hgrow hn'
          have HB3 : Hid (Below w.heap.size w w3) := Lib.hid ((HB2.out.alloc HB2.out.size _).grown hgrow (by have := HB2.out.size; simp; omega) (fun k hk => by have := own_base HO2.out k hk; omega))
          have HV3 : Hid (Blk w3 w.heap.size #[.int .u32 (v 0), .int .u32 (v 1), .int .u32 (v 2), .int .u32 (v 3), .int .u32 (v 4), .int .u32 (v 5), .int .u32 (v 6), .int .u32 (v 7)] 24) := Lib.hid ((hgrow.block w.heap.size (by have := HV2.out.lt; simp; omega) (fun e => by have := own_base HO2.out _ e.symm; omega)).trans (HV2.out.alloc _))
          have HO3 := Lib.hid hown'
          clear hown' hgrow hn'
          go_wp2
          go_roundw
          case rel => exact ⟨k + 1, by go_num, by omega, by rw [HTF.out, idCs_app, List.length_append]; exact HO3.out, HV3.out, HB3.out⟩
          case measure => simp [intOf]; omega
      · have hkk : (len : Int) ≤ k := by omega
        have e : (L.take k).filter (fun x => !hasV v x.1 x.2) = byR v L := by
          rw [HUN.out, byS, List.take_of_length_le (by have := HLL.out; omega)]
        rw [e] at hown
        obtain ⟨_, al4, cap4, rfl, hI4, hF4⟩ := own_ids hown
        have HI4 := Lib.hid hI4; clear hI4 hF4 hown e
        generalize hn : (byR v L).length = n at HI4 ⊢
        have HN := Lib.hid hn; clear hn
        go_wp2
        go_ret2
        exact ⟨al4, cap4, by rw [HN.out, HT.out]; rfl, by rw [HN.out]; exact HI4.out, HB.out⟩
  · have HUN : Hid (byR v L = []) := Lib.hid (by unfold byR; rw [if_neg hc])
    obtain ⟨c, hcc⟩ : ∃ c, chkS L = c := ⟨_, rfl⟩
    rw [hcc] at hc
    have hn : (c != 0) = true := by simpa using hc
    have HCC := Lib.hid hcc; clear hc hcc hL
    go_enter Tryz.func55, Tryz.ntmps55
    go_wp2_with fail
    refine (dCheck_any al len cap L _ HL.out).mono ?_
    rw [HCC.out]
    rintro e w1 ⟨rfl, b1⟩
    have HB1 := Lib.hid (below_then HB0.out b1); clear b1
    go_wp2
    go_ret2
    exact ⟨none, 0, by rw [HUN.out, HCC.out]; rfl, by rw [HUN.out]; exact Ids.nil _, HB1.out⟩

set_option maxRecDepth 100000 in
set_option maxHeartbeats 2000000 in
theorem rBeyond_any (al : Option Addr) (len cap : Nat) (L : List (Int × Int)) (v : Nat → Int) (w : World) (hL : Ids w al len cap L) :
    Calls Tryz.prog 81 #[.slice al len cap, .agg #[.int .u32 (v 0), .int .u32 (v 1), .int .u32 (v 2), .int .u32 (v 3), .int .u32 (v 4), .int .u32 (v 5), .int .u32 (v 6), .int .u32 (v 7)]] w fun e w' => ∃ al2 cap2, e = .returned (.tuple #[.slice al2 (byR v L).length cap2, .int .i64 (chkS L)]) ∧ Ids w' al2 (byR v L).length cap2 (byR v L) ∧ Below w.heap.size w w' := by
  obtain ⟨ti, hi, hz0, hz1, hz2⟩ := info_parts Tryz.infoId
  have hb0 := (Below.refl w.heap.size w).alloc (Nat.le_refl _) (.cells #[.int .u32 (v 0), .int .u32 (v 1), .int .u32 (v 2), .int .u32 (v 3), .int .u32 (v 4), .int .u32 (v 5), .int .u32 (v 6), .int .u32 (v 7)] 24)
  have HL0 := Lib.hid hL
  have HL := Lib.hid (hL.below hb0)
  have HV0 := Lib.hid (Blk.new w #[.int .u32 (v 0), .int .u32 (v 1), .int .u32 (v 2), .int .u32 (v 3), .int .u32 (v 4), .int .u32 (v 5), .int .u32 (v 6), .int .u32 (v 7)] 24)
  have HB0 := Lib.hid hb0; clear hb0
  by_cases hc : chkS L = 0
  · have HT := Lib.hid hc
    have HUN : Hid (byR v L = byS v L) := Lib.hid (by unfold byR; rw [if_pos hc])
    have hlen : len ≤ 64 := by
      have := (chkS_zero hc).1
      have := hL.ln
      omega
    have hcap := hL.bd
    have hfit := hL.fit
    have HLL := Lib.hid hL.ln
    clear hL hc
    go_enter Tryz.func81, Tryz.ntmps81
    go_wp2_with fail
    refine (rdCheck_any al len cap L _ HL.out).mono ?_
    rw [HT.out]
    rintro e w1 ⟨rfl, b1⟩
    have HV1 := Lib.hid (HV0.out.below b1)
    have HB1 := Lib.hid (below_then HB0.out b1); clear b1
    go_wp2
    go_loopw [7, 8] (fun vv s8 wr => ∃ k : Nat, s8 = .int .i64 k ∧ k ≤ len ∧ wr.ownsRow (w.heap.size + 1) 83 2 vv ((L.take k).filter fun x => !hasV v x.1 x.2).length (idCs ((L.take k).filter fun x => !hasV v x.1 x.2)) ∧ Blk wr w.heap.size #[.int .u32 (v 0), .int .u32 (v 1), .int .u32 (v 2), .int .u32 (v 3), .int .u32 (v 4), .int .u32 (v 5), .int .u32 (v 6), .int .u32 (v 7)] 24 ∧ Below w.heap.size w wr) (fun _ s8 _ => len - (intOf s8).toNat)
    case atStart => exact ⟨0, rfl, by omega, World.ownsRow_nil _ _ _ _, HV1.out, HB1.out⟩
    case round =>
      obtain ⟨k, rfl, hk, hown, hv, hb⟩ := hrel
      have HB := Lib.hid hb; clear hb
      obtain ⟨v0, v1, v2, v3, v4, v5, v6, v7⟩ : wr.cell? ⟨w.heap.size, 0, none⟩ = some (.int .u32 (v 0)) ∧ wr.cell? ⟨w.heap.size, 1, none⟩ = some (.int .u32 (v 1)) ∧ wr.cell? ⟨w.heap.size, 2, none⟩ = some (.int .u32 (v 2)) ∧ wr.cell? ⟨w.heap.size, 3, none⟩ = some (.int .u32 (v 3)) ∧ wr.cell? ⟨w.heap.size, 4, none⟩ = some (.int .u32 (v 4)) ∧ wr.cell? ⟨w.heap.size, 5, none⟩ = some (.int .u32 (v 5)) ∧ wr.cell? ⟨w.heap.size, 6, none⟩ = some (.int .u32 (v 6)) ∧ wr.cell? ⟨w.heap.size, 7, none⟩ = some (.int .u32 (v 7)) := ⟨vec_cell hv 0 (by omega), vec_cell hv 1 (by omega), vec_cell hv 2 (by omega), vec_cell hv 3 (by omega), vec_cell hv 4 (by omega), vec_cell hv 5 (by omega), vec_cell hv 6 (by omega), vec_cell hv 7 (by omega)⟩
      have HV := Lib.hid hv; clear hv
      by_cases hkl : k < len
      · obtain ⟨b, off, o, q, rfl, hx, i0, i1⟩ : IdN wr al L k := (HL0.out.below HB.out).nth k hkl
        have hY : BY wr w.heap.size v b (off + k * 2) o q wr := ⟨Below.refl _ _, HV.out, i0, i1⟩
        have htf := take_filter hx fun x => !hasV v x.1 x.2
        have hfl := filter_le L k fun x => !hasV v x.1 x.2
        clear hx
        generalize (L.take k).filter (fun x => !hasV v x.1 x.2) = F at hown htf hfl
        have HO := Lib.hid hown; clear hown
        cases hh : hasV v o q with
        | true =>
          simp only [hh, Bool.not_true, Bool.false_eq_true, if_false, List.append_nil] at htf
          have HTF := Lib.hid htf; clear htf
          have HH := Lib.hid hh; clear hh
          go_wp2_with fail
          go_region_held3 (fun w' => w'.cell? ⟨w.heap.size, 0, none⟩ = some (.int .u32 (v 0)) ∧ w'.cell? ⟨w.heap.size, 1, none⟩ = some (.int .u32 (v 1)) ∧ w'.cell? ⟨w.heap.size, 2, none⟩ = some (.int .u32 (v 2)) ∧ w'.cell? ⟨w.heap.size, 3, none⟩ = some (.int .u32 (v 3)) ∧ w'.cell? ⟨w.heap.size, 4, none⟩ = some (.int .u32 (v 4)) ∧ w'.cell? ⟨w.heap.size, 5, none⟩ = some (.int .u32 (v 5)) ∧ w'.cell? ⟨w.heap.size, 6, none⟩ = some (.int .u32 (v 6)) ∧ w'.cell? ⟨w.heap.size, 7, none⟩ = some (.int .u32 (v 7)) ∧ w'.cell? ⟨b, off + k * 2, none⟩ = some (.int .i64 o) ∧ w'.cell? ⟨b, off + k * 2 + 1, none⟩ = some (.int .u32 q) ∧ BY wr w.heap.size v b (off + k * 2) o q w') (first | exact BY.all (by assumption) | exact BY.all (BY.drew (by assumption)) | exact BY.all (BY.drew (BY.held (by assumption)))) ((go_at_call 86; refine (rhas_BY (w1 := wr) (g := w.heap.size) (v := v) (b := b) (p := off + k * 2) (o := o) (q := q) _ _ true HH.out (by first | assumption | exact BY.held (by assumption))).mono ?_; rintro e w2 ⟨rfl, hJ⟩))
          all_goals
            have b2 : Below wr.heap.size wr w2 := hJ.bel
            have HO2 := Lib.hid (own_below HO.out b2)
            have HV2 := Lib.hid (HV.out.below b2)
            have HB2 := Lib.hid (HB.out.trans (b2.mono HB.out.size)); clear b2
            go_wp2
            go_roundw
            case rel => exact ⟨k + 1, by go_num, by omega, by rw [HTF.out]; exact HO2.out, HV2.out, HB2.out⟩
            case measure => simp [intOf]; omega
        | false =>
          simp only [hh, Bool.not_false, if_true] at htf
          have HTF := Lib.hid htf; clear htf
          have HH := Lib.hid hh; clear hh
          go_wp2_with fail
          go_region_held3 (fun w' => w'.cell? ⟨w.heap.size, 0, none⟩ = some (.int .u32 (v 0)) ∧ w'.cell? ⟨w.heap.size, 1, none⟩ = some (.int .u32 (v 1)) ∧ w'.cell? ⟨w.heap.size, 2, none⟩ = some (.int .u32 (v 2)) ∧ w'.cell? ⟨w.heap.size, 3, none⟩ = some (.int .u32 (v 3)) ∧ w'.cell? ⟨w.heap.size, 4, none⟩ = some (.int .u32 (v 4)) ∧ w'.cell? ⟨w.heap.size, 5, none⟩ = some (.int .u32 (v 5)) ∧ w'.cell? ⟨w.heap.size, 6, none⟩ = some (.int .u32 (v 6)) ∧ w'.cell? ⟨w.heap.size, 7, none⟩ = some (.int .u32 (v 7)) ∧ w'.cell? ⟨b, off + k * 2, none⟩ = some (.int .i64 o) ∧ w'.cell? ⟨b, off + k * 2 + 1, none⟩ = some (.int .u32 q) ∧ BY wr w.heap.size v b (off + k * 2) o q w') (first | exact BY.all (by assumption) | exact BY.all (BY.drew (by assumption)) | exact BY.all (BY.drew (BY.held (by assumption)))) ((go_at_call 86; refine (rhas_BY (w1 := wr) (g := w.heap.size) (v := v) (b := b) (p := off + k * 2) (o := o) (q := q) _ _ false HH.out (by first | assumption | exact BY.held (by assumption))).mono ?_; rintro e w2 ⟨rfl, hJ⟩))
          all_goals
            have b2 : Below wr.heap.size wr w2 := hJ.bel
            have j0 := (b2.cell (p := ⟨b, off + k * 2, none⟩) (cellLt i0)).trans i0
            have j1 := (b2.cell (p := ⟨b, off + k * 2 + 1, none⟩) (cellLt i1)).trans i1
            have HO2 := Lib.hid (own_below HO.out b2)
            have HV2 := Lib.hid (HV.out.below b2)
            have HB2 := Lib.hid (HB.out.trans (b2.mono HB.out.size)); clear b2
            go_wp2_with (at_builtin; refine wpList_append_own _ rfl (.tmp 27) (.tmp 32) 25 rfl (w.heap.size + 1) 83 ti (.agg #[.int .i64 0, .int .u32 0]) 2 16 Tryz.underlying25 hi hz0 hz1 hz2 rfl (by decide) _ _ _ rfl (HO2.out.alloc _) ⟨w2.heap.size, 0, none⟩ 1 1 [.int .i64 o, .int .u32 q] rfl rfl ?c1 ?c2 ?c3 ?c4 ?c5 ?_)
            case c1 => exact newId_at _ _ _ _ rfl
            case c2 => intro u hu; simp at hu; rcases hu with rfl | rfl <;> rfl
            case c3 => unfold maxLen; omega
            case c4 => omega
            case c5 => have := HV2.out.lt; simp; omega
            intro v' w3 hown' hgrow hn'
            have HB3 : Hid (Below w.heap.size w w3) := Lib.hid ((HB2.out.alloc HB2.out.size _).grown hgrow (by have := HB2.out.size; simp; omega) (fun k hk => by have := own_base HO2.out k hk; omega))
            have HV3 : Hid (Blk w3 w.heap.size #[.int .u32 (v 0), .int .u32 (v 1), .int .u32 (v 2), .int .u32 (v 3), .int .u32 (v 4), .int .u32 (v 5), .int .u32 (v 6), .int .u32 (v 7)] 24) := Lib.hid ((hgrow.block w.heap.size (by have := HV2.out.lt; simp; omega) (fun e => by have := own_base HO2.out _ e.symm; omega)).trans (HV2.out.alloc _))
            have HO3 := Lib.hid hown'
            clear hown' hgrow hn'
            go_wp2
            go_roundw
            case rel => exact ⟨k + 1, by go_num, by omega, by rw [HTF.out, idCs_app, List.length_append]; exact HO3.out, HV3.out, HB3.out⟩
            case measure => simp [intOf]; omega
      · have hkk : (len : Int) ≤ k := by omega
        have e : (L.take k).filter (fun x => !hasV v x.1 x.2) = byR v L := by
          rw [HUN.out, byS, List.take_of_length_le (by have := HLL.out; omega)]
        rw [e] at hown
        obtain ⟨_, al4, cap4, rfl, hI4, hF4⟩ := own_ids hown
        have HI4 := Lib.hid hI4; clear hI4 hF4 hown e
        generalize hn : (byR v L).length = n at HI4 ⊢
        have HN := Lib.hid hn; clear hn
        go_wp2
        go_ret2
        exact ⟨al4, cap4, by rw [HN.out, HT.out]; rfl, by rw [HN.out]; exact HI4.out, HB.out⟩
  · have HUN : Hid (byR v L = []) := Lib.hid (by unfold byR; rw [if_neg hc])
    obtain ⟨c, hcc⟩ : ∃ c, chkS L = c := ⟨_, rfl⟩
    rw [hcc] at hc
    have hn : (c != 0) = true := by simpa using hc
    have HCC := Lib.hid hcc; clear hc hcc hL
    go_enter Tryz.func81, Tryz.ntmps81
    go_wp2_with fail
    refine (rdCheck_any al len cap L _ HL.out).mono ?_
    rw [HCC.out]
    rintro e w1 ⟨rfl, b1⟩
    have HB1 := Lib.hid (below_then HB0.out b1); clear b1
    go_wp2
    go_ret2
    exact ⟨none, 0, by rw [HUN.out, HCC.out]; rfl, by rw [HUN.out]; exact Ids.nil _, HB1.out⟩
end Go.Proofs.YthbdjgebpjffgaaGreatDoor
