/-
  A set in bytes: what Write of package dots answers.
  Conditions: none.
-/
import Derived.Test.YthbdjgebpjffgaaGreatDoorDotE
import Derived.Test.YthbdjgebpjffgaaGreatDoorDotS
import Derived.Test.YthbdjgebpjffgaaGreatDoorDotW
import Derived.Test.YthbdjgebpjffgaaGreatDoorIdG
set_option linter.unusedVariables false
set_option linter.unusedSimpArgs false
namespace Go.Proofs.YthbdjgebpjffgaaGreatDoor
open Go.RowKit

/-- Names in bytes, one after the other. -/
def idsL (L : List (Int × Int)) : List UInt8 := L.flatMap fun x => numL x.1.toNat ++ numL x.2.toNat
def setL (L : List (Int × Int)) : List UInt8 := numL L.length ++ idsL L
/-- What Write tells. -/
def wrS (L : List (Int × Int)) : ByteArray := if chkS L = 0 then ⟨(setL L).toArray⟩ else ⟨#[]⟩
theorem numL_le {n : Nat} (h : n < 18446744073709551616) : (numL n).length ≤ 9 := by
  have := digs_le8 h
  simp only [numL, List.length_cons]; omega
theorem idS_list {o q : Int} (h : chk o q = 0) : (idS o q).data.toList = numL o.toNat ++ numL q.toNat := by
  unfold idS; rw [if_pos h]; simp [numS, ByteArray.data_append]
theorem idsL_snoc (L : List (Int × Int)) (x : Int × Int) : idsL (L ++ [x]) = idsL L ++ (numL x.1.toNat ++ numL x.2.toNat) := by simp [idsL]
theorem idsL_len {L : List (Int × Int)} (h : valS L = true) : (idsL L).length ≤ 18 * L.length := by
  induction L with
  | nil => simp [idsL]
  | cons x r ih =>
    have hx := chk_zero (valS_mem h (List.mem_cons_self ..))
    have hr : valS r = true := by unfold valS at *; rw [List.all_cons, Bool.and_eq_true] at h; exact h.2
    have h1 := numL_le (n := x.1.toNat) (by omega)
    have h2 := numL_le (n := x.2.toNat) (by omega)
    have h3 := ih hr
    rw [show idsL (x :: r) = (numL x.1.toNat ++ numL x.2.toNat) ++ idsL r from rfl, List.length_append, List.length_append, List.length_cons]
    omega
theorem take_snoc {L : List (Int × Int)} {k : Nat} {x : Int × Int} (hx : L[k]? = some x) : L.take (k + 1) = L.take k ++ [x] := by
  have hk := (List.getElem?_eq_some_iff.1 hx).1
  have e := (List.getElem?_eq_some_iff.1 hx).2
  rw [List.take_succ_eq_append_getElem hk, e]
theorem valS_take {L : List (Int × Int)} (h : valS L = true) (k : Nat) : valS (L.take k) = true := by
  unfold valS at *; rw [List.all_eq_true] at *
  exact fun x hx => h x (List.mem_of_mem_take hx)

/-- A builder that holds l, in a block of its own, b. -/
def Bld (w : World) (b : Nat) (l : List UInt8) : Prop := Lib.IsBuilderF 77 5 b b (Lib.byteCells l) w
theorem Bld.below {w w' : World} {b : Nat} {l : List UInt8} (h : Bld w b l) (hb : Below w.heap.size w w') : Bld w' b l := by
  have kept : ∀ p, Lib.BuilderAtF 77 5 b b p (Lib.byteCells l) w → Lib.BuilderAtF 77 5 b b p (Lib.byteCells l) w' := by
    intro p hp
    have hlt := hp.lt
    obtain ⟨k1, x, k2, k3, k4⟩ := hp
    exact ⟨k1, x, (hb.block b hlt).trans k2, k3.kept (row := none) ⟨hb.os, hb.tape, hb.output, hb.size, fun k hk _ => hb.block k hk⟩ (Classical.em _), k4⟩
  exact h.elim (fun x => .inl (kept _ x)) (fun x => .inr (kept _ x))
theorem Bld.new (w : World) : Bld (w.alloc (.cells #[.pointer none, .slice none 0 0] 77)) w.heap.size [] := Lib.IsBuilderF.of (Lib.fresh_isBuilder 77 5 w)
theorem wstrS_any (b : Nat) (s : ByteArray) (l : List UInt8) (w : World) (h : Bld w b l) (hl : l.length ≤ 2000) (hs : s.size ≤ 20) (hb : b ≤ w.heap.size) :
    Calls Tryz.prog 33 #[.pointer (some ⟨b, 0, none⟩), .string s] w fun e w' => e = .returned (.tuple #[.int .i64 s.size, .nilIface]) ∧ Bld w' b (l ++ s.data.toList) ∧ Below b w w' := by
  refine (Any.Builder_WriteString_k Tryz.lays_Lays_n166 Tryz.builderExtra b b (Lib.byteCells l) s w h (by rw [Lib.byteCells_length]; omega) hb).mono fun _ _ ⟨h1, h2, h3, _⟩ => ⟨h1, ?_, h3⟩
  rw [Lib.strCells_eq, ← Lib.byteCells_append] at h2
  exact Or.inr h2
theorem bstr_any (b : Nat) (l : List UInt8) (w : World) (h : Bld w b l) (hb : b ≤ w.heap.size) :
    Calls Tryz.prog 36 #[.pointer (some ⟨b, 0, none⟩)] w fun e w' => e = .returned (.string ⟨l.toArray⟩) ∧ Below b w w' :=
  (Any.Builder_String_any_k Tryz.lays_Lays_n169 Tryz.builderExtra b b l w h hb).mono fun _ _ ⟨h1, _, h3, _⟩ => ⟨h1, h3⟩
theorem below_at {w a b : World} {B g : Nat} (h : Below B w a) (k : Below g a b) (hg : B ≤ g) : Below B w b := h.trans (k.mono hg)

set_option maxRecDepth 100000 in
set_option maxHeartbeats 2000000 in
theorem dWrite_any (al : Option Addr) (len cap : Nat) (L : List (Int × Int)) (w : World) (hL : Ids w al len cap L) :
    Calls Tryz.prog 17 #[.slice al len cap] w fun e w' => e = .returned (.tuple #[.string (wrS L), .int .i64 (chkS L)]) ∧ Below w.heap.size w w' := by
  have HL := Lib.hid hL
  by_cases hc : chkS L = 0
  · have HT := Lib.hid hc
    have HW : Hid (wrS L = ⟨(setL L).toArray⟩) := Lib.hid (by unfold wrS; rw [if_pos hc])
    have HVL := Lib.hid (chkS_zero hc).2.1
    have hlen : len ≤ 64 := by
      have := (chkS_zero hc).1
      have := hL.ln
      omega
    have hcap := hL.bd
    have hfit := hL.fit
    have HLL := Lib.hid hL.ln
    clear hL hc
    go_enter Tryz.func17, Tryz.ntmps17
    go_wp2_with fail
    refine (dCheck_any al len cap L _ HL.out).mono ?_
    rw [HT.out]
    rintro e w1 ⟨rfl, b1⟩
    have hsz := b1.size
    have HB1 := Lib.hid (below_new b1 (.cells #[.pointer none, .slice none 0 0] 77)); clear b1
    have HBD := Lib.hid (Bld.new w1)
    go_wp2_with fail
    refine (num_any len _ (by omega)).mono ?_
    rintro e w2 ⟨rfl, b2⟩
    have HBD2 := Lib.hid (HBD.out.below b2)
    have HB2 := Lib.hid (below_then HB1.out b2)
    have hz2 : w1.heap.size < w2.heap.size := by have := b2.size; simp at this; omega
    clear b2
    have hns : (numS len).size ≤ 20 := by have := numS_small (v := len) (by omega); omega
    go_wp2_with fail
    refine (wstrS_any w1.heap.size (numS len) [] w2 HBD2.out (by simp) hns (by omega)).mono ?_
    rintro e w3 ⟨rfl, hbd3, b3⟩
    have hbd3' : Bld w3 w1.heap.size (numL len ++ idsL (L.take 0)) := by simpa [idsL, numS] using hbd3
    have HBD3 := Lib.hid hbd3'
    have HB3 := Lib.hid (below_at HB2.out b3 hsz)
    have hz3 : w1.heap.size < w3.heap.size := by have := b3.size; omega
    clear b3 hbd3 hbd3' hns
    go_wp2
    go_loopw [20] (fun s20 wr => ∃ k : Nat, s20 = .int .i64 k ∧ k ≤ len ∧ Bld wr w1.heap.size (numL len ++ idsL (L.take k)) ∧ Below w.heap.size w wr ∧ w1.heap.size < wr.heap.size) (fun s20 _ => len - (intOf s20).toNat)
    case atStart => exact ⟨0, rfl, by omega, HBD3.out, HB3.out, hz3⟩
    case round =>
      obtain ⟨k, rfl, hk, hbd, hb, hzr⟩ := hrel
      have HBD := Lib.hid hbd; clear hbd
      have HB := Lib.hid hb; clear hb
      by_cases hkl : k < len
      · obtain ⟨b, off, o, q, rfl, hx, i0, i1⟩ := (HL.out.below HB.out).nth k hkl
        have hts := take_snoc hx
        have hok := valS_at HVL.out hx
        have hbl : (numL len ++ idsL (L.take k)).length ≤ 2000 := by
          have h1 := numL_le (n := len) (by omega)
          have h2 := idsL_len (valS_take HVL.out k)
          rw [List.length_take] at h2
          rw [List.length_append]; omega
        have his : (idS o q).size ≤ 20 := by have := idS_size o q; omega
        have HIL := Lib.hid (idS_list hok)
        have HTS := Lib.hid hts
        have HBL := Lib.hid hbl
        have HIS := Lib.hid his
        clear hx hts hok hbl his
        have hba := (Below.refl wr.heap.size wr).alloc (Nat.le_refl _) (.cells #[.int .i64 o, .int .u32 q] 83)
        have HBA := Lib.hid hba; clear hba
        go_wp2_with fail
        refine (idWrite_any o q _).mono ?_
        rintro e w4 ⟨rfl, b4⟩
        have b5 := below_then HBA.out b4
        have HBD5 := Lib.hid (HBD.out.below b5)
        have HB5 := Lib.hid (HB.out.trans (b5.mono HB.out.size))
        have hz5 : w1.heap.size < w4.heap.size := by have := b5.size; omega
        clear b4 b5
        go_wp2_with fail
        refine (wstrS_any w1.heap.size (idS o q) _ w4 HBD5.out HBL.out HIS.out (by omega)).mono ?_
        rintro e w6 ⟨rfl, hbd6, b6⟩
        have HBD6 := Lib.hid hbd6
        have HB6 := Lib.hid (below_at HB5.out b6 hsz)
        have hz6 : w1.heap.size < w6.heap.size := by have := b6.size; omega
        clear b6 hbd6
        go_wp2
        go_roundw
        case rel => exact ⟨k + 1, by go_num, by omega, by rw [HTS.out, idsL_snoc, ← List.append_assoc]; have := HBD6.out; rw [HIL.out] at this; exact this, HB6.out, hz6⟩
        case measure => simp [intOf]; omega
      · have hkk : (len : Int) ≤ k := by omega
        have hbs : Bld wr w1.heap.size (setL L) := by
          have := HBD.out
          rw [List.take_of_length_le (by have := HLL.out; omega)] at this
          unfold setL; rw [← HLL.out]; exact this
        have HBS := Lib.hid hbs; clear hbs
        go_wp2_with fail
        refine (bstr_any w1.heap.size (setL L) wr HBS.out (by omega)).mono ?_
        rintro e w7 ⟨rfl, b7⟩
        have HB7 := Lib.hid (below_at HB.out b7 hsz); clear b7
        go_wp2
        go_ret2
        exact ⟨by rw [HW.out, HT.out]; rfl, HB7.out⟩
  · have HW : Hid (wrS L = ⟨#[]⟩) := Lib.hid (by unfold wrS; rw [if_neg hc])
    obtain ⟨c, hcc⟩ : ∃ c, chkS L = c := ⟨_, rfl⟩
    rw [hcc] at hc
    have hn : (c != 0) = true := by simpa using hc
    have HCC := Lib.hid hcc; clear hc hcc hL
    go_enter Tryz.func17, Tryz.ntmps17
    go_wp2_with fail
    refine (dCheck_any al len cap L _ HL.out).mono ?_
    rw [HCC.out]
    rintro e w1 ⟨rfl, b1⟩
    go_wp2
    go_ret2
    exact ⟨by rw [HW.out, HCC.out]; rfl, b1⟩
end Go.Proofs.YthbdjgebpjffgaaGreatDoor
