/-
  What Read of package vec, and the document's own Read, answer, whatever the reader holds. Plain lemmas.
  Conditions: none.
-/
import Derived.Test.YthbdjgebpjffgaaGreatDoorOctF
import Derived.Test.YthbdjgebpjffgaaGreatDoorOctL
import Derived.Test.YthbdjgebpjffgaaGreatDoorOctN
import Derived.Test.YthbdjgebpjffgaaGreatDoorOctR
import Derived.Test.YthbdjgebpjffgaaGreatDoorVecC
set_option linter.unusedVariables false
set_option linter.unusedSimpArgs false
namespace Go.Proofs.YthbdjgebpjffgaaGreatDoor
open Go.RowKit

theorem iV'_bad {s : ByteArray} {a : Nat} {m c : Int} (h : ¬ iC' s a m c = 0) : iV' s a m c = 0 := by
  unfold iC' at h; unfold iV'
  split
  · rename_i k; rw [if_pos k] at h; exact iV_bad h
  · rfl
theorem iV'_le {s : ByteArray} {a : Nat} {m c : Int} (hm : 0 ≤ m) : (iV' s a m c : Int) ≤ m := by
  unfold iV'
  split
  · unfold iV
    split
    · rename_i h
      unfold iC at h
      split at h
      · split at h
        · exact absurd h (by decide)
        · omega
      · rename_i k; exact absurd h k
    · omega
  · omega
theorem iA'_in {s : ByteArray} {a : Nat} {m c : Int} (ha : a ≤ s.size) : iA' s a m c ≤ s.size := by
  unfold iA'
  split
  · exact iA_le ha
  · exact ha
theorem failC_three (c : Int) : ¬ failC c 3 = 0 := by
  unfold failC
  split
  · decide
  · assumption

theorem rdInt_val (r a : Nat) (s : ByteArray) (m c : Int) (w : World) (v b : Nat) (d : Int) (hv : iV' s a m c = v) (hb : iA' s a m c = b) (hd : iC' s a m c = d) (h : Rdr w r s a c) (ha : a ≤ s.size) (hs : s.size ≤ 1048576) (hm : -9223372036854775808 ≤ m ∧ m ≤ 9223372036854775807) :
    Calls Tryz.prog 44 #[.pointer (some ⟨r, 0, none⟩), .int .i64 m] w fun e w' => e = .returned (.int .i64 (v : Int)) ∧ Rdr w' r s b d ∧ Only r w w' := by
  subst hv; subst hb; subst hd
  exact rdInt_any r a s m c w h ha hs hm
theorem rInt_val (q a : Nat) (s : ByteArray) (m c : Int) (w : World) (v b : Nat) (d : Int) (hv : iV' s a m c = v) (hb : iA' s a m c = b) (hd : iC' s a m c = d) (h : RR w q s a (fA a c) c) (ha : a ≤ s.size) (hs : s.size ≤ 1048576) (hm : -9223372036854775808 ≤ m ∧ m ≤ 9223372036854775807) :
    Calls Tryz.prog 46 #[.pointer (some ⟨q, 0, none⟩), .int .i64 m] w fun e w' => e = .returned (.int .i64 (v : Int)) ∧ RR w' q s b (fA b d) d ∧ Only q w w' := by
  subst hv; subst hb; subst hd
  exact rInt_any q a s m c w h ha hs hm

/-- How many elements are read; where the next one begins behind k of them, what is wrong by then; the next one. -/
def rN (s : ByteArray) (a : Nat) (c : Int) : Nat := iV' s a 8 c
def rS (s : ByteArray) (a : Nat) (c : Int) : Nat → Nat × Int
  | 0 => (iA' s a 8 c, iC' s a 8 c)
  | k + 1 => (iA' s (rS s a c k).1 1048576 (rS s a c k).2, iC' s (rS s a c k).1 1048576 (rS s a c k).2)
def rX (s : ByteArray) (a : Nat) (c : Int) (k : Nat) : Nat := iV' s (rS s a c k).1 1048576 (rS s a c k).2
/-- Behind all of them; what is wrong at the end; the vector. -/
def rA (s : ByteArray) (a : Nat) (c : Int) : Nat := (rS s a c (rN s a c)).1
def rD (s : ByteArray) (a : Nat) (c : Int) : Int := (rS s a c (rN s a c)).2
def rC (s : ByteArray) (a : Nat) (c : Int) : Int := if 0 < rN s a c ∧ rX s a c (rN s a c - 1) = 0 then failC (rD s a c) 3 else rD s a c
def rV (s : ByteArray) (a : Nat) (c : Int) (i : Nat) : Int := if rC s a c = 0 ∧ i < rN s a c then (rX s a c i : Int) else 0
/-- The elements that are read, as the loop lays them. -/
def rY (s : ByteArray) (a : Nat) (c : Int) (i : Nat) : Int := (rX s a c i : Int)
def z0V (_ : Nat) : Int := 0

section
variable {s : ByteArray} {a : Nat} {c : Int}
theorem rN_le : rN s a c ≤ 8 := by have := iV'_le (s := s) (a := a) (c := c) (m := 8) (by omega); unfold rN; omega
theorem rX_le (k : Nat) : (rX s a c k : Int) ≤ 1048576 := iV'_le (by omega)
theorem rS_in (ha : a ≤ s.size) : ∀ k, (rS s a c k).1 ≤ s.size
  | 0 => iA'_in ha
  | k + 1 => iA'_in (rS_in ha k)
theorem rV_at {n : Nat} (hn : rN s a c = n) (h : rC s a c = 0) : (#[.int .u32 (mixV n (rY s a c) z0V 0), .int .u32 (mixV n (rY s a c) z0V 1), .int .u32 (mixV n (rY s a c) z0V 2), .int .u32 (mixV n (rY s a c) z0V 3), .int .u32 (mixV n (rY s a c) z0V 4), .int .u32 (mixV n (rY s a c) z0V 5), .int .u32 (mixV n (rY s a c) z0V 6), .int .u32 (mixV n (rY s a c) z0V 7)] : Array Value) = #[.int .u32 (rV s a c 0), .int .u32 (rV s a c 1), .int .u32 (rV s a c 2), .int .u32 (rV s a c 3), .int .u32 (rV s a c 4), .int .u32 (rV s a c 5), .int .u32 (rV s a c 6), .int .u32 (rV s a c 7)] := by
  subst hn
  refine vec_congr fun i _ => ?_
  unfold mixV rV rY z0V
  by_cases hi : i < rN s a c
  · rw [if_pos hi, if_pos ⟨h, hi⟩]
  · rw [if_neg hi, if_neg (fun k => hi k.2)]
theorem rV_bad (h : ¬ rC s a c = 0) : (#[.int .u32 (rV s a c 0), .int .u32 (rV s a c 1), .int .u32 (rV s a c 2), .int .u32 (rV s a c 3), .int .u32 (rV s a c 4), .int .u32 (rV s a c 5), .int .u32 (rV s a c 6), .int .u32 (rV s a c 7)] : Array Value) = #[.int .u32 (z0V 0), .int .u32 (z0V 1), .int .u32 (z0V 2), .int .u32 (z0V 3), .int .u32 (z0V 4), .int .u32 (z0V 5), .int .u32 (z0V 6), .int .u32 (z0V 7)] :=
  vec_congr fun i _ => by unfold rV z0V; rw [if_neg (fun k => h k.1)]
theorem rC_none (h : rN s a c = 0) : rC s a c = rD s a c := by unfold rC; rw [if_neg (fun k => by omega)]
theorem rC_zero {n : Nat} (hn : rN s a c = n + 1) (h : rX s a c n = 0) : rC s a c = failC (rD s a c) 3 := by
  unfold rC; rw [if_pos ⟨by omega, by rw [hn]; exact h⟩]
theorem rC_some {n : Nat} (hn : rN s a c = n + 1) (h : ¬ rX s a c n = 0) : rC s a c = rD s a c ∧ rD s a c = 0 := by
  have hD : rD s a c = 0 := by
    rcases Decidable.em (rD s a c = 0) with k | k
    · exact k
    · unfold rD at k
      rw [hn] at k
      exact absurd (iV'_bad k) h
  exact ⟨by unfold rC; rw [if_neg (fun k => h (by have := k.2; rw [hn] at this; exact this))], hD⟩
end
end Go.Proofs.YthbdjgebpjffgaaGreatDoor

/-
  What Read of package vec answers, whatever the reader holds.
  Conditions: the reader lies in a block of its own; its text has at most 2^20 bytes.
-/

namespace Go.Proofs.YthbdjgebpjffgaaGreatDoor
open Go.RowKit

theorem Only.row {r g : Nat} {a b : World} (h : Only r a b) (hg : a.heap.size ≤ g) (cs : Array Value) : Only r a (b.setRow g cs) :=
  ⟨h.os, h.tape, h.output, by simpa [World.setRow] using h.size, fun k hk hr => (setRow_other _ _ _ _ (by omega)).trans (h.block k hk hr)⟩
theorem rdr_end {w : World} {r a n : Nat} {s : ByteArray} {c : Int} (hn : rN s a c = n) (h : Rdr w r s (rS s a c n).1 (rS s a c n).2) : Rdr w r s (rA s a c) (rD s a c) := by
  subst hn; exact h
set_option maxRecDepth 100000 in
set_option maxHeartbeats 1000000 in
theorem vecRead_any (r a : Nat) (s : ByteArray) (c : Int) (w : World) (h : Rdr w r s a c) (ha : a ≤ s.size) (hs : s.size ≤ 1048576) :
    Calls Tryz.prog 23 #[.pointer (some ⟨r, 0, none⟩)] w fun e w' =>
      e = .returned (.agg #[.int .u32 (rV s a c 0), .int .u32 (rV s a c 1), .int .u32 (rV s a c 2), .int .u32 (rV s a c 3), .int .u32 (rV s a c 4), .int .u32 (rV s a c 5), .int .u32 (rV s a c 6), .int .u32 (rV s a c 7)]) ∧ Rdr w' r s (rA s a c) (rC s a c) ∧ Only r w w' := by
  have hlt := Blk.lt h
  obtain ⟨n, hn⟩ : ∃ n, rN s a c = n := ⟨_, rfl⟩
  have hn8 : n ≤ 8 := by rw [← hn]; exact rN_le
  have HN := Lib.hid hn; clear hn
  have HH := Lib.hid h; clear h
  go_enter Tryz.func23, Tryz.ntmps23
  go_wp2_with fail
  refine (rdInt_val r a s 8 c _ n _ _ HN.out rfl rfl ((Blk.alloc HH.out _).alloc _) ha hs (by omega)).mono ?_
  rintro e w1 ⟨rfl, hr1, ho1⟩
  have HR1 := Lib.hid (show Rdr w1 r s (rS s a c 0).1 (rS s a c 0).2 from hr1)
  have HG1 := Lib.hid (show Blk w1 (w.heap.size + 1) #[.int .u32 (mixV 0 (rY s a c) z0V 0), .int .u32 (mixV 0 (rY s a c) z0V 1), .int .u32 (mixV 0 (rY s a c) z0V 2), .int .u32 (mixV 0 (rY s a c) z0V 3), .int .u32 (mixV 0 (rY s a c) z0V 4), .int .u32 (mixV 0 (rY s a c) z0V 5), .int .u32 (mixV 0 (rY s a c) z0V 6), .int .u32 (mixV 0 (rY s a c) z0V 7)] 24 from by
    rw [← mix_none]
    have := Blk.only (Blk.new (w.alloc (.cells #[.int .u32 (z0V 0), .int .u32 (z0V 1), .int .u32 (z0V 2), .int .u32 (z0V 3), .int .u32 (z0V 4), .int .u32 (z0V 5), .int .u32 (z0V 6), .int .u32 (z0V 7)] 24)) #[.int .u32 (z0V 0), .int .u32 (z0V 1), .int .u32 (z0V 2), .int .u32 (z0V 3), .int .u32 (z0V 4), .int .u32 (z0V 5), .int .u32 (z0V 6), .int .u32 (z0V 7)] 24) ho1 (by simp; omega)
    simpa using this)
  have HZ1 := Lib.hid (show Blk w1 w.heap.size #[.int .u32 (z0V 0), .int .u32 (z0V 1), .int .u32 (z0V 2), .int .u32 (z0V 3), .int .u32 (z0V 4), .int .u32 (z0V 5), .int .u32 (z0V 6), .int .u32 (z0V 7)] 24 from Blk.only ((Blk.new w #[.int .u32 (z0V 0), .int .u32 (z0V 1), .int .u32 (z0V 2), .int .u32 (z0V 3), .int .u32 (z0V 4), .int .u32 (z0V 5), .int .u32 (z0V 6), .int .u32 (z0V 7)] 24).alloc _) ho1 (by omega))
  have o1 : Only r w w1 := (((Only.refl r w).alloc _).alloc _).trans ho1
  clear hr1 ho1
  go_wp2
  go_loopw [9] (fun i wr => ∃ k : Nat, k ≤ n ∧ i = .int .i64 k ∧ Rdr wr r s (rS s a c k).1 (rS s a c k).2 ∧ Blk wr (w.heap.size + 1) #[.int .u32 (mixV k (rY s a c) z0V 0), .int .u32 (mixV k (rY s a c) z0V 1), .int .u32 (mixV k (rY s a c) z0V 2), .int .u32 (mixV k (rY s a c) z0V 3), .int .u32 (mixV k (rY s a c) z0V 4), .int .u32 (mixV k (rY s a c) z0V 5), .int .u32 (mixV k (rY s a c) z0V 6), .int .u32 (mixV k (rY s a c) z0V 7)] 24 ∧ Blk wr w.heap.size #[.int .u32 (z0V 0), .int .u32 (z0V 1), .int .u32 (z0V 2), .int .u32 (z0V 3), .int .u32 (z0V 4), .int .u32 (z0V 5), .int .u32 (z0V 6), .int .u32 (z0V 7)] 24 ∧ Only r w wr) (fun i _ => n - (intOf i).toNat)
  case atStart => exact ⟨0, Nat.zero_le _, rfl, HR1.out, HG1.out, HZ1.out, o1⟩
  case round =>
    obtain ⟨k, hk, rfl, hr, hg, hz, ho⟩ := hrel
    clear HR1 HG1 HZ1 o1
    have HR := Lib.hid hr; have HG := Lib.hid hg; have HZ := Lib.hid hz; have HO := Lib.hid ho
    clear hr hg hz ho
    by_cases hkn : k < n
    · go_wp2_with fail
      refine (rdInt_val r _ s 1048576 _ _ (rX s a c k) (rS s a c (k + 1)).1 (rS s a c (k + 1)).2 rfl rfl rfl HR.out (rS_in ha k) hs (by omega)).mono ?_
      rintro e w2 ⟨rfl, hr2, ho2⟩
      have wrp : IntKind.u32.wrap (rX s a c k : Int) = (rX s a c k : Int) := by have := rX_le (s := s) (a := a) (c := c) k; rw [IntKind.wrap_u32]; omega
      have HG2 := Lib.hid (Blk.only HG.out ho2 (by omega))
      have h1 := vec_cell HG2.out k (by omega)
      have h2 := Blk.free HG2.out k
      rw [mix_at] at h1
      have HR2 := Lib.hid (Blk.far hr2 (show r ≠ w.heap.size + 1 by omega) k (.int .u32 (rX s a c k : Int)))
      have HZ2 := Lib.hid (Blk.far (Blk.only HZ.out ho2 (by omega)) (show w.heap.size ≠ w.heap.size + 1 by omega) k (.int .u32 (rX s a c k : Int)))
      have HO2 := Lib.hid ((HO.out.trans ho2).fresh (show w.heap.size ≤ w.heap.size + 1 by omega) k (.int .u32 (rX s a c k : Int)))
      have HG3 : Hid (Blk (w2.setCell ⟨w.heap.size + 1, k, none⟩ (.int .u32 (rX s a c k : Int))) (w.heap.size + 1) #[.int .u32 (mixV (k + 1) (rY s a c) z0V 0), .int .u32 (mixV (k + 1) (rY s a c) z0V 1), .int .u32 (mixV (k + 1) (rY s a c) z0V 2), .int .u32 (mixV (k + 1) (rY s a c) z0V 3), .int .u32 (mixV (k + 1) (rY s a c) z0V 4), .int .u32 (mixV (k + 1) (rY s a c) z0V 5), .int .u32 (mixV (k + 1) (rY s a c) z0V 6), .int .u32 (mixV (k + 1) (rY s a c) z0V 7)] 24) := Lib.hid (by
        have := HG2.out.set k (.int .u32 (rY s a c k))
        rw [vec_set _ k (by omega), mix_step (by omega)] at this
        exact this)
      clear hr2 ho2 HR HG HZ HO HG2
      go_wp2
      go_roundw
      case rel => exact ⟨k + 1, by omega, by go_num, HR2.out, HG3.out, HZ2.out, HO2.out⟩
      case measure => simp [intOf]; omega
    · obtain rfl : k = n := by omega
      rcases Nat.eq_zero_or_pos k with rfl | hpos
      · have hC := rC_none HN.out
        by_cases hd : rC s a c = 0
        · have HC0 := Lib.hid hd
          have HRE : Hid (Rdr wr r s (rA s a c) (rC s a c)) := Lib.hid (by rw [hC]; exact rdr_end HN.out HR.out)
          have HGE : Hid (Blk wr (w.heap.size + 1) #[.int .u32 (rV s a c 0), .int .u32 (rV s a c 1), .int .u32 (rV s a c 2), .int .u32 (rV s a c 3), .int .u32 (rV s a c 4), .int .u32 (rV s a c 5), .int .u32 (rV s a c 6), .int .u32 (rV s a c 7)] 24) := Lib.hid (by rw [← rV_at HN.out hd]; exact HG.out)
          clear hC hd HR HG
          go_wp2_with fail
          refine (err_none r _ s _ (show Rdr wr r s (rA s a c) 0 from by rw [← HC0.out]; exact HRE.out)).mono ?_
          rintro e w' ⟨rfl, rfl⟩
          go_wp2_with (first | (refine wpList_load_row rfl 24 _ rfl (w.heap.size + 1) rfl 24 #[.int .u32 (rV s a c 0), .int .u32 (rV s a c 1), .int .u32 (rV s a c 2), .int .u32 (rV s a c 3), .int .u32 (rV s a c 4), .int .u32 (rV s a c 5), .int .u32 (rV s a c 6), .int .u32 (rV s a c 7)] (0, 0) _ HGE.out Tryz.underlying24 rfl (by kernel_rfl) ?_) | (refine wpList_store_row rfl 24 _ _ rfl w.heap.size #[.int .u32 (rV s a c 0), .int .u32 (rV s a c 1), .int .u32 (rV s a c 2), .int .u32 (rV s a c 3), .int .u32 (rV s a c 4), .int .u32 (rV s a c 5), .int .u32 (rV s a c 6), .int .u32 (rV s a c 7)] rfl rfl 24 _ HZ.out (by kernel_rfl) rfl (vec_one _) ?_))
          refine bodyPost_ret (v := .agg #[.int .u32 (rV s a c 0), .int .u32 (rV s a c 1), .int .u32 (rV s a c 2), .int .u32 (rV s a c 3), .int .u32 (rV s a c 4), .int .u32 (rV s a c 5), .int .u32 (rV s a c 6), .int .u32 (rV s a c 7)]) ?_ rfl ⟨rfl, (setRow_other _ _ _ _ (by omega)).trans HRE.out, HO.out.row (Nat.le_refl _) _⟩
          exact results_cell_row rfl _ _ w.heap.size 24 _ (0, 0) _ rfl (setRow_heap _ _ _ _ _ _ HZ.out) Tryz.underlying24 rfl (by kernel_rfl)
        · have HCB := Lib.hid hd
          have HRE : Hid (Rdr wr r s (rA s a c) (rC s a c)) := Lib.hid (by rw [hC]; exact rdr_end HN.out HR.out)
          have HZE := HZ; have HOE := HO
          clear hC hd HR HG HZ HO
          go_wp2_with fail
          refine (err_some r _ s _ _ HRE.out HCB.out).mono ?_
          rintro e w4 ⟨rfl, _, hb4⟩
          have HR4 := Lib.hid (Blk.below HRE.out hb4)
          have HZ4 := Lib.hid (Blk.below HZE.out hb4)
          have HO4 := Lib.hid (HOE.out.trans (only_of hb4))
          clear hb4 HRE HZE HOE
          go_wp2_with (refine wpList_store_row rfl 24 _ _ rfl w.heap.size #[.int .u32 (z0V 0), .int .u32 (z0V 1), .int .u32 (z0V 2), .int .u32 (z0V 3), .int .u32 (z0V 4), .int .u32 (z0V 5), .int .u32 (z0V 6), .int .u32 (z0V 7)] rfl rfl 24 _ HZ4.out (by kernel_rfl) rfl (vec_one _) ?_)
          refine bodyPost_ret (v := .agg #[.int .u32 (rV s a c 0), .int .u32 (rV s a c 1), .int .u32 (rV s a c 2), .int .u32 (rV s a c 3), .int .u32 (rV s a c 4), .int .u32 (rV s a c 5), .int .u32 (rV s a c 6), .int .u32 (rV s a c 7)]) ?_ rfl ⟨rfl, (setRow_other _ _ _ _ (by omega)).trans HR4.out, HO4.out.row (Nat.le_refl _) _⟩
          rw [rV_bad HCB.out]
          exact results_cell_row rfl _ _ w.heap.size 24 _ (0, 0) _ rfl (setRow_heap _ _ _ _ _ _ HZ4.out) Tryz.underlying24 rfl (by kernel_rfl)
      · obtain ⟨m, rfl⟩ : ∃ m, k = m + 1 := ⟨k - 1, by omega⟩
        have h1 := vec_cell HG.out m (by omega)
        rw [show mixV (m + 1) (rY s a c) z0V m = (rX s a c m : Int) from by unfold mixV rY; rw [if_pos (by omega)]] at h1
        by_cases hx : rX s a c m = 0
        · rw [hx] at h1
          have hC := rC_zero HN.out hx
          have HCB : Hid (¬ rC s a c = 0) := Lib.hid (by rw [hC]; exact failC_three _)
          have HRD := Lib.hid (rdr_end HN.out HR.out)
          have HC := Lib.hid hC
          clear hC hx HR HG
          go_wp2_with fail
          refine (fail_any r _ s _ 3 _ HRD.out).mono ?_
          rintro e w3 ⟨rfl, hr3, ho3⟩
          rw [← HC.out] at hr3
          have HRE := Lib.hid hr3
          have HZE := Lib.hid (Blk.only HZ.out ho3 (by omega))
          have HOE := Lib.hid (HO.out.trans ho3)
          clear hr3 ho3 h1 HRD HC HZ HO
          go_wp2_with fail
          refine (err_some r _ s _ _ HRE.out HCB.out).mono ?_
          rintro e w4 ⟨rfl, _, hb4⟩
          have HR4 := Lib.hid (Blk.below HRE.out hb4)
          have HZ4 := Lib.hid (Blk.below HZE.out hb4)
          have HO4 := Lib.hid (HOE.out.trans (only_of hb4))
          clear hb4 HRE HZE HOE
          go_wp2_with (refine wpList_store_row rfl 24 _ _ rfl w.heap.size #[.int .u32 (z0V 0), .int .u32 (z0V 1), .int .u32 (z0V 2), .int .u32 (z0V 3), .int .u32 (z0V 4), .int .u32 (z0V 5), .int .u32 (z0V 6), .int .u32 (z0V 7)] rfl rfl 24 _ HZ4.out (by kernel_rfl) rfl (vec_one _) ?_)
          refine bodyPost_ret (v := .agg #[.int .u32 (rV s a c 0), .int .u32 (rV s a c 1), .int .u32 (rV s a c 2), .int .u32 (rV s a c 3), .int .u32 (rV s a c 4), .int .u32 (rV s a c 5), .int .u32 (rV s a c 6), .int .u32 (rV s a c 7)]) ?_ rfl ⟨rfl, (setRow_other _ _ _ _ (by omega)).trans HR4.out, HO4.out.row (Nat.le_refl _) _⟩
          rw [rV_bad HCB.out]
          exact results_cell_row rfl _ _ w.heap.size 24 _ (0, 0) _ rfl (setRow_heap _ _ _ _ _ _ HZ4.out) Tryz.underlying24 rfl (by kernel_rfl)
        · have t : ((rX s a c m : Int) == 0) = false := by simpa using hx
          obtain ⟨hC, hD⟩ := rC_some HN.out hx
          have HC0 := Lib.hid (hC.trans hD)
          have HRE : Hid (Rdr wr r s (rA s a c) (rC s a c)) := Lib.hid (by rw [hC]; exact rdr_end HN.out HR.out)
          have HGE : Hid (Blk wr (w.heap.size + 1) #[.int .u32 (rV s a c 0), .int .u32 (rV s a c 1), .int .u32 (rV s a c 2), .int .u32 (rV s a c 3), .int .u32 (rV s a c 4), .int .u32 (rV s a c 5), .int .u32 (rV s a c 6), .int .u32 (rV s a c 7)] 24) := Lib.hid (by rw [← rV_at HN.out (hC.trans hD)]; exact HG.out)
          clear hC hD hx HR HG
          go_wp2_with fail
          refine (err_none r _ s _ (show Rdr wr r s (rA s a c) 0 from by rw [← HC0.out]; exact HRE.out)).mono ?_
          rintro e w' ⟨rfl, rfl⟩
          go_wp2_with (first | (refine wpList_load_row rfl 24 _ rfl (w.heap.size + 1) rfl 24 #[.int .u32 (rV s a c 0), .int .u32 (rV s a c 1), .int .u32 (rV s a c 2), .int .u32 (rV s a c 3), .int .u32 (rV s a c 4), .int .u32 (rV s a c 5), .int .u32 (rV s a c 6), .int .u32 (rV s a c 7)] (0, 0) _ HGE.out Tryz.underlying24 rfl (by kernel_rfl) ?_) | (refine wpList_store_row rfl 24 _ _ rfl w.heap.size #[.int .u32 (rV s a c 0), .int .u32 (rV s a c 1), .int .u32 (rV s a c 2), .int .u32 (rV s a c 3), .int .u32 (rV s a c 4), .int .u32 (rV s a c 5), .int .u32 (rV s a c 6), .int .u32 (rV s a c 7)] rfl rfl 24 _ HZ.out (by kernel_rfl) rfl (vec_one _) ?_))
          refine bodyPost_ret (v := .agg #[.int .u32 (rV s a c 0), .int .u32 (rV s a c 1), .int .u32 (rV s a c 2), .int .u32 (rV s a c 3), .int .u32 (rV s a c 4), .int .u32 (rV s a c 5), .int .u32 (rV s a c 6), .int .u32 (rV s a c 7)]) ?_ rfl ⟨rfl, (setRow_other _ _ _ _ (by omega)).trans HRE.out, HO.out.row (Nat.le_refl _) _⟩
          exact results_cell_row rfl _ _ w.heap.size 24 _ (0, 0) _ rfl (setRow_heap _ _ _ _ _ _ HZ.out) Tryz.underlying24 rfl (by kernel_rfl)
end Go.Proofs.YthbdjgebpjffgaaGreatDoor

/-
  What the document's own Read answers, whatever its reader holds.
  Conditions: the reader lies in a block of its own; its text has at most 2^20 bytes.
-/

namespace Go.Proofs.YthbdjgebpjffgaaGreatDoor
open Go.RowKit

theorem rr_end {w : World} {r a n : Nat} {s : ByteArray} {c : Int} (hn : rN s a c = n) (h : RR w r s (rS s a c n).1 (fA (rS s a c n).1 (rS s a c n).2) (rS s a c n).2) : RR w r s (rA s a c) (fA (rA s a c) (rD s a c)) (rD s a c) := by
  subst hn; exact h

set_option maxRecDepth 100000 in
set_option maxHeartbeats 1000000 in
theorem rvecRead_any (r a : Nat) (s : ByteArray) (c : Int) (w : World) (h : RR w r s a (fA a c) c) (ha : a ≤ s.size) (hs : s.size ≤ 1048576) :
    Calls Tryz.prog 26 #[.pointer (some ⟨r, 0, none⟩)] w fun e w' =>
      e = .returned (.agg #[.int .u32 (rV s a c 0), .int .u32 (rV s a c 1), .int .u32 (rV s a c 2), .int .u32 (rV s a c 3), .int .u32 (rV s a c 4), .int .u32 (rV s a c 5), .int .u32 (rV s a c 6), .int .u32 (rV s a c 7)]) ∧ RR w' r s (rA s a c) (fA (rA s a c) (rC s a c)) (rC s a c) ∧ Only r w w' := by
  have hlt := Blk.lt h
  obtain ⟨n, hn⟩ : ∃ n, rN s a c = n := ⟨_, rfl⟩
  have hn8 : n ≤ 8 := by rw [← hn]; exact rN_le
  have HN := Lib.hid hn; clear hn
  have HH := Lib.hid h; clear h
  go_enter Tryz.func26, Tryz.ntmps26
  go_wp2_with fail
  refine (rInt_val r a s 8 c _ n _ _ HN.out rfl rfl ((Blk.alloc HH.out _).alloc _) ha hs (by omega)).mono ?_
  rintro e w1 ⟨rfl, hr1, ho1⟩
  have HR1 := Lib.hid (show RR w1 r s (rS s a c 0).1 (fA (rS s a c 0).1 (rS s a c 0).2) (rS s a c 0).2 from hr1)
  have HG1 := Lib.hid (show Blk w1 (w.heap.size + 1) #[.int .u32 (mixV 0 (rY s a c) z0V 0), .int .u32 (mixV 0 (rY s a c) z0V 1), .int .u32 (mixV 0 (rY s a c) z0V 2), .int .u32 (mixV 0 (rY s a c) z0V 3), .int .u32 (mixV 0 (rY s a c) z0V 4), .int .u32 (mixV 0 (rY s a c) z0V 5), .int .u32 (mixV 0 (rY s a c) z0V 6), .int .u32 (mixV 0 (rY s a c) z0V 7)] 24 from by
    rw [← mix_none]
    have := Blk.only (Blk.new (w.alloc (.cells #[.int .u32 (z0V 0), .int .u32 (z0V 1), .int .u32 (z0V 2), .int .u32 (z0V 3), .int .u32 (z0V 4), .int .u32 (z0V 5), .int .u32 (z0V 6), .int .u32 (z0V 7)] 24)) #[.int .u32 (z0V 0), .int .u32 (z0V 1), .int .u32 (z0V 2), .int .u32 (z0V 3), .int .u32 (z0V 4), .int .u32 (z0V 5), .int .u32 (z0V 6), .int .u32 (z0V 7)] 24) ho1 (by simp; omega)
    simpa using this)
  have HZ1 := Lib.hid (show Blk w1 w.heap.size #[.int .u32 (z0V 0), .int .u32 (z0V 1), .int .u32 (z0V 2), .int .u32 (z0V 3), .int .u32 (z0V 4), .int .u32 (z0V 5), .int .u32 (z0V 6), .int .u32 (z0V 7)] 24 from Blk.only ((Blk.new w #[.int .u32 (z0V 0), .int .u32 (z0V 1), .int .u32 (z0V 2), .int .u32 (z0V 3), .int .u32 (z0V 4), .int .u32 (z0V 5), .int .u32 (z0V 6), .int .u32 (z0V 7)] 24).alloc _) ho1 (by omega))
  have o1 : Only r w w1 := (((Only.refl r w).alloc _).alloc _).trans ho1
  clear hr1 ho1
  go_wp2
  go_loopw [5] (fun i wr => ∃ k : Nat, k ≤ n ∧ i = .int .i64 k ∧ RR wr r s (rS s a c k).1 (fA (rS s a c k).1 (rS s a c k).2) (rS s a c k).2 ∧ Blk wr (w.heap.size + 1) #[.int .u32 (mixV k (rY s a c) z0V 0), .int .u32 (mixV k (rY s a c) z0V 1), .int .u32 (mixV k (rY s a c) z0V 2), .int .u32 (mixV k (rY s a c) z0V 3), .int .u32 (mixV k (rY s a c) z0V 4), .int .u32 (mixV k (rY s a c) z0V 5), .int .u32 (mixV k (rY s a c) z0V 6), .int .u32 (mixV k (rY s a c) z0V 7)] 24 ∧ Blk wr w.heap.size #[.int .u32 (z0V 0), .int .u32 (z0V 1), .int .u32 (z0V 2), .int .u32 (z0V 3), .int .u32 (z0V 4), .int .u32 (z0V 5), .int .u32 (z0V 6), .int .u32 (z0V 7)] 24 ∧ Only r w wr) (fun i _ => n - (intOf i).toNat)
  case atStart => exact ⟨0, Nat.zero_le _, rfl, HR1.out, HG1.out, HZ1.out, o1⟩
  case round =>
    obtain ⟨k, hk, rfl, hr, hg, hz, ho⟩ := hrel
    clear HR1 HG1 HZ1 o1
    have HR := Lib.hid hr; have HG := Lib.hid hg; have HZ := Lib.hid hz; have HO := Lib.hid ho
    clear hr hg hz ho
    by_cases hkn : k < n
    · go_wp2_with fail
      refine (rInt_val r _ s 1048576 _ _ (rX s a c k) (rS s a c (k + 1)).1 (rS s a c (k + 1)).2 rfl rfl rfl HR.out (rS_in ha k) hs (by omega)).mono ?_
      rintro e w2 ⟨rfl, hr2, ho2⟩
      have wrp : IntKind.u32.wrap (rX s a c k : Int) = (rX s a c k : Int) := by have := rX_le (s := s) (a := a) (c := c) k; rw [IntKind.wrap_u32]; omega
      have HG2 := Lib.hid (Blk.only HG.out ho2 (by omega))
      have h1 := vec_cell HG2.out k (by omega)
      have h2 := Blk.free HG2.out k
      rw [mix_at] at h1
      have HR2 := Lib.hid (Blk.far hr2 (show r ≠ w.heap.size + 1 by omega) k (.int .u32 (rX s a c k : Int)))
      have HZ2 := Lib.hid (Blk.far (Blk.only HZ.out ho2 (by omega)) (show w.heap.size ≠ w.heap.size + 1 by omega) k (.int .u32 (rX s a c k : Int)))
      have HO2 := Lib.hid ((HO.out.trans ho2).fresh (show w.heap.size ≤ w.heap.size + 1 by omega) k (.int .u32 (rX s a c k : Int)))
      have HG3 : Hid (Blk (w2.setCell ⟨w.heap.size + 1, k, none⟩ (.int .u32 (rX s a c k : Int))) (w.heap.size + 1) #[.int .u32 (mixV (k + 1) (rY s a c) z0V 0), .int .u32 (mixV (k + 1) (rY s a c) z0V 1), .int .u32 (mixV (k + 1) (rY s a c) z0V 2), .int .u32 (mixV (k + 1) (rY s a c) z0V 3), .int .u32 (mixV (k + 1) (rY s a c) z0V 4), .int .u32 (mixV (k + 1) (rY s a c) z0V 5), .int .u32 (mixV (k + 1) (rY s a c) z0V 6), .int .u32 (mixV (k + 1) (rY s a c) z0V 7)] 24) := Lib.hid (by
        have := HG2.out.set k (.int .u32 (rY s a c k))
        rw [vec_set _ k (by omega), mix_step (by omega)] at this
        exact this)
      clear hr2 ho2 HR HG HZ HO HG2
      go_wp2
      go_roundw
      case rel => exact ⟨k + 1, by omega, by go_num, HR2.out, HG3.out, HZ2.out, HO2.out⟩
      case measure => simp [intOf]; omega
    · obtain rfl : k = n := by omega
      rcases Nat.eq_zero_or_pos k with rfl | hpos
      · have hC := rC_none HN.out
        by_cases hd : rC s a c = 0
        · have HC0 := Lib.hid hd
          have HRE : Hid (RR wr r s (rA s a c) (fA (rA s a c) (rC s a c)) (rC s a c)) := Lib.hid (by rw [hC]; exact rr_end HN.out HR.out)
          have HGE : Hid (Blk wr (w.heap.size + 1) #[.int .u32 (rV s a c 0), .int .u32 (rV s a c 1), .int .u32 (rV s a c 2), .int .u32 (rV s a c 3), .int .u32 (rV s a c 4), .int .u32 (rV s a c 5), .int .u32 (rV s a c 6), .int .u32 (rV s a c 7)] 24) := Lib.hid (by rw [← rV_at HN.out hd]; exact HG.out)
          clear hC hd HR HG
          have x3 := RR.c3 HRE.out
          rw [HC0.out] at x3
          go_wp2_with (first | (refine wpList_load_row rfl 24 _ rfl (w.heap.size + 1) rfl 24 #[.int .u32 (rV s a c 0), .int .u32 (rV s a c 1), .int .u32 (rV s a c 2), .int .u32 (rV s a c 3), .int .u32 (rV s a c 4), .int .u32 (rV s a c 5), .int .u32 (rV s a c 6), .int .u32 (rV s a c 7)] (0, 0) _ HGE.out Tryz.underlying24 rfl (by kernel_rfl) ?_) | (refine wpList_store_row rfl 24 _ _ rfl w.heap.size #[.int .u32 (rV s a c 0), .int .u32 (rV s a c 1), .int .u32 (rV s a c 2), .int .u32 (rV s a c 3), .int .u32 (rV s a c 4), .int .u32 (rV s a c 5), .int .u32 (rV s a c 6), .int .u32 (rV s a c 7)] rfl rfl 24 _ HZ.out (by kernel_rfl) rfl (vec_one _) ?_))
          refine bodyPost_ret (v := .agg #[.int .u32 (rV s a c 0), .int .u32 (rV s a c 1), .int .u32 (rV s a c 2), .int .u32 (rV s a c 3), .int .u32 (rV s a c 4), .int .u32 (rV s a c 5), .int .u32 (rV s a c 6), .int .u32 (rV s a c 7)]) ?_ rfl ⟨rfl, (setRow_other _ _ _ _ (by omega)).trans HRE.out, HO.out.row (Nat.le_refl _) _⟩
          exact results_cell_row rfl _ _ w.heap.size 24 _ (0, 0) _ rfl (setRow_heap _ _ _ _ _ _ HZ.out) Tryz.underlying24 rfl (by kernel_rfl)
        · have HCB := Lib.hid hd
          have HRE : Hid (RR wr r s (rA s a c) (fA (rA s a c) (rC s a c)) (rC s a c)) := Lib.hid (by rw [hC]; exact rr_end HN.out HR.out)
          have HZE := HZ; have HOE := HO
          clear hC hd HR HG HZ HO
          have x3 := RR.c3 HRE.out
          have t3 : (rC s a c == 0) = false := by simpa using HCB.out
          have HR4 := HRE; have HZ4 := HZE; have HO4 := HOE
          clear HRE HZE HOE
          go_wp2_with (refine wpList_store_row rfl 24 _ _ rfl w.heap.size #[.int .u32 (z0V 0), .int .u32 (z0V 1), .int .u32 (z0V 2), .int .u32 (z0V 3), .int .u32 (z0V 4), .int .u32 (z0V 5), .int .u32 (z0V 6), .int .u32 (z0V 7)] rfl rfl 24 _ HZ4.out (by kernel_rfl) rfl (vec_one _) ?_)
          refine bodyPost_ret (v := .agg #[.int .u32 (rV s a c 0), .int .u32 (rV s a c 1), .int .u32 (rV s a c 2), .int .u32 (rV s a c 3), .int .u32 (rV s a c 4), .int .u32 (rV s a c 5), .int .u32 (rV s a c 6), .int .u32 (rV s a c 7)]) ?_ rfl ⟨rfl, (setRow_other _ _ _ _ (by omega)).trans HR4.out, HO4.out.row (Nat.le_refl _) _⟩
          rw [rV_bad HCB.out]
          exact results_cell_row rfl _ _ w.heap.size 24 _ (0, 0) _ rfl (setRow_heap _ _ _ _ _ _ HZ4.out) Tryz.underlying24 rfl (by kernel_rfl)
      · obtain ⟨m, rfl⟩ : ∃ m, k = m + 1 := ⟨k - 1, by omega⟩
        have h1 := vec_cell HG.out m (by omega)
        rw [show mixV (m + 1) (rY s a c) z0V m = (rX s a c m : Int) from by unfold mixV rY; rw [if_pos (by omega)]] at h1
        by_cases hx : rX s a c m = 0
        · rw [hx] at h1
          have hC := rC_zero HN.out hx
          have HCB : Hid (¬ rC s a c = 0) := Lib.hid (by rw [hC]; exact failC_three _)
          have HRD := Lib.hid (rr_end HN.out HR.out)
          have HC := Lib.hid hC
          clear hC hx HR HG
          go_wp2_with fail
          refine (rfail_any r _ s _ 3 _ HRD.out).mono ?_
          rintro e w3 ⟨rfl, hr3, ho3⟩
          rw [← HC.out] at hr3
          have HRE := Lib.hid hr3
          have HZE := Lib.hid (Blk.only HZ.out ho3 (by omega))
          have HOE := Lib.hid (HO.out.trans ho3)
          clear hr3 ho3 h1 HRD HC HZ HO
          have x3 := RR.c3 HRE.out
          have t3 : (rC s a c == 0) = false := by simpa using HCB.out
          have HR4 := HRE; have HZ4 := HZE; have HO4 := HOE
          clear HRE HZE HOE
          go_wp2_with (refine wpList_store_row rfl 24 _ _ rfl w.heap.size #[.int .u32 (z0V 0), .int .u32 (z0V 1), .int .u32 (z0V 2), .int .u32 (z0V 3), .int .u32 (z0V 4), .int .u32 (z0V 5), .int .u32 (z0V 6), .int .u32 (z0V 7)] rfl rfl 24 _ HZ4.out (by kernel_rfl) rfl (vec_one _) ?_)
          refine bodyPost_ret (v := .agg #[.int .u32 (rV s a c 0), .int .u32 (rV s a c 1), .int .u32 (rV s a c 2), .int .u32 (rV s a c 3), .int .u32 (rV s a c 4), .int .u32 (rV s a c 5), .int .u32 (rV s a c 6), .int .u32 (rV s a c 7)]) ?_ rfl ⟨rfl, (setRow_other _ _ _ _ (by omega)).trans HR4.out, HO4.out.row (Nat.le_refl _) _⟩
          rw [rV_bad HCB.out]
          exact results_cell_row rfl _ _ w.heap.size 24 _ (0, 0) _ rfl (setRow_heap _ _ _ _ _ _ HZ4.out) Tryz.underlying24 rfl (by kernel_rfl)
        · have t : ((rX s a c m : Int) == 0) = false := by simpa using hx
          obtain ⟨hC, hD⟩ := rC_some HN.out hx
          have HC0 := Lib.hid (hC.trans hD)
          have HRE : Hid (RR wr r s (rA s a c) (fA (rA s a c) (rC s a c)) (rC s a c)) := Lib.hid (by rw [hC]; exact rr_end HN.out HR.out)
          have HGE : Hid (Blk wr (w.heap.size + 1) #[.int .u32 (rV s a c 0), .int .u32 (rV s a c 1), .int .u32 (rV s a c 2), .int .u32 (rV s a c 3), .int .u32 (rV s a c 4), .int .u32 (rV s a c 5), .int .u32 (rV s a c 6), .int .u32 (rV s a c 7)] 24) := Lib.hid (by rw [← rV_at HN.out (hC.trans hD)]; exact HG.out)
          clear hC hD hx HR HG
          have x3 := RR.c3 HRE.out
          rw [HC0.out] at x3
          go_wp2_with (first | (refine wpList_load_row rfl 24 _ rfl (w.heap.size + 1) rfl 24 #[.int .u32 (rV s a c 0), .int .u32 (rV s a c 1), .int .u32 (rV s a c 2), .int .u32 (rV s a c 3), .int .u32 (rV s a c 4), .int .u32 (rV s a c 5), .int .u32 (rV s a c 6), .int .u32 (rV s a c 7)] (0, 0) _ HGE.out Tryz.underlying24 rfl (by kernel_rfl) ?_) | (refine wpList_store_row rfl 24 _ _ rfl w.heap.size #[.int .u32 (rV s a c 0), .int .u32 (rV s a c 1), .int .u32 (rV s a c 2), .int .u32 (rV s a c 3), .int .u32 (rV s a c 4), .int .u32 (rV s a c 5), .int .u32 (rV s a c 6), .int .u32 (rV s a c 7)] rfl rfl 24 _ HZ.out (by kernel_rfl) rfl (vec_one _) ?_))
          refine bodyPost_ret (v := .agg #[.int .u32 (rV s a c 0), .int .u32 (rV s a c 1), .int .u32 (rV s a c 2), .int .u32 (rV s a c 3), .int .u32 (rV s a c 4), .int .u32 (rV s a c 5), .int .u32 (rV s a c 6), .int .u32 (rV s a c 7)]) ?_ rfl ⟨rfl, (setRow_other _ _ _ _ (by omega)).trans HRE.out, HO.out.row (Nat.le_refl _) _⟩
          exact results_cell_row rfl _ _ w.heap.size 24 _ (0, 0) _ rfl (setRow_heap _ _ _ _ _ _ HZ.out) Tryz.underlying24 rfl (by kernel_rfl)
end Go.Proofs.YthbdjgebpjffgaaGreatDoor
