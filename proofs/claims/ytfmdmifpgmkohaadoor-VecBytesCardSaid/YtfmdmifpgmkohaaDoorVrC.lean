/-
  What the document's own Read answers, whatever its reader holds.
  Conditions: the reader lies in a block of its own; its text has at most 2^20 bytes.
-/
import Derived.Test.YtfmdmifpgmkohaaDoorVrB
namespace Go.Proofs.YtfmdmifpgmkohaaDoor
open Go.RowKit

theorem rr_end {w : World} {r a n : Nat} {s : ByteArray} {c : Int} (hn : rN s a c = n) (h : RR w r s (rS s a c n).1 (fA (rS s a c n).1 (rS s a c n).2) (rS s a c n).2) : RR w r s (rA s a c) (fA (rA s a c) (rD s a c)) (rD s a c) := by
  subst hn; exact h

set_option maxRecDepth 100000 in
set_option maxHeartbeats 1000000 in
theorem rvecRead_any (r a : Nat) (s : ByteArray) (c : Int) (w : World) (h : RR w r s a (fA a c) c) (ha : a ≤ s.size) (hs : s.size ≤ 1048576) :
    Calls Tryd.prog 13 #[.pointer (some ⟨r, 0, none⟩)] w fun e w' =>
      e = .returned (.agg #[.int .u32 (rV s a c 0), .int .u32 (rV s a c 1), .int .u32 (rV s a c 2), .int .u32 (rV s a c 3), .int .u32 (rV s a c 4), .int .u32 (rV s a c 5), .int .u32 (rV s a c 6), .int .u32 (rV s a c 7)]) ∧ RR w' r s (rA s a c) (fA (rA s a c) (rC s a c)) (rC s a c) ∧ Only r w w' := by
  have hlt := Blk.lt h
  obtain ⟨n, hn⟩ : ∃ n, rN s a c = n := ⟨_, rfl⟩
  have hn8 : n ≤ 8 := by rw [← hn]; exact rN_le
  have HN := Lib.hid hn; clear hn
  have HH := Lib.hid h; clear h
  go_enter Tryd.func13, Tryd.ntmps13
  go_wp2_with fail
  refine (rInt_val r a s 8 c _ n _ _ HN.out rfl rfl ((Blk.alloc HH.out _).alloc _) ha hs (by omega)).mono ?_
  rintro e w1 ⟨rfl, hr1, ho1⟩
  have HR1 := Lib.hid (show RR w1 r s (rS s a c 0).1 (fA (rS s a c 0).1 (rS s a c 0).2) (rS s a c 0).2 from hr1)
  have HG1 := Lib.hid (show Blk w1 (w.heap.size + 1) #[.int .u32 (mixV 0 (rY s a c) z0V 0), .int .u32 (mixV 0 (rY s a c) z0V 1), .int .u32 (mixV 0 (rY s a c) z0V 2), .int .u32 (mixV 0 (rY s a c) z0V 3), .int .u32 (mixV 0 (rY s a c) z0V 4), .int .u32 (mixV 0 (rY s a c) z0V 5), .int .u32 (mixV 0 (rY s a c) z0V 6), .int .u32 (mixV 0 (rY s a c) z0V 7)] 24 from by
    rw [← mix_none]
    have := Blk.only (Blk.new (w.alloc (.cells #[.int .u32 (z0V 0), .int .u32 (z0V 1), .int .u32 (z0V 2), .int .u32 (z0V 3), .int .u32 (z0V 4), .int .u32 (z0V 5), .int .u32 (z0V 6), .int .u32 (z0V 7)] 24)) #[.int .u32 (z0V 0), .int .u32 (z0V 1), .int .u32 (z0V 2), .int .u32 (z0V 3), .int .u32 (z0V 4), .int .u32 (z0V 5), .int .u32 (z0V 6), .int .u32 (z0V 7)] 24) ho1 (by simp; omega)
    simpa using this)
  have HZ1 := Lib.hid (show Blk w1 w.heap.size #[.int .u32 (z0V 0), .int .u32 (z0V 1), .int .u32 (z0V 2), .int .u32 (z0V 3), .int .u32 (z0V 4), .int .u32 (z0V 5), .int .u32 (z0V 6), .int .u32 (z0V 7)] 24 from Blk.only ((Blk.new w #[.int .u32 (z0V 0), .int .u32 (z0V 1), .int .u32 (z0V 2), .int .u32 (z0V 3), .int .u32 (z0V 4), .int .u32 (z0V 5), .int .u32 (z0V 6), .int .u32 (z0V 7)] 24).alloc _) ho1 (by omega))
  have o1 : Only r w w1 := (((Only.refl r w).alloc _).alloc _).trans ho1
  clear hr1 ho1
  go_wp2
  go_loopw [5] (fun i wr => ∃ k : Nat, k ≤ n ∧ i = .int .i64 k ∧ RR wr r s (rS s a c k).1 (fA (rS s a c k).1 (rS s a c k).2) (rS s a c k).2 ∧ Blk wr (w.heap.size + 1) #[.int .u32 (mixV k (rY s a c) z0V 0), .int .u32 (mixV k (rY s a c) z0V 1), .int .u32 (mixV k (rY s a c) z0V 2), .int .u32 (mixV k (rY s a c) z0V 3), .int .u32 (mixV k (rY s a c) z0V 4), .int .u32 (mixV k (rY s a c) z0V 5), .int .u32 (mixV k (rY s a c) z0V 6), .int .u32 (mixV k (rY s a c) z0V 7)] 24 ∧ Blk wr w.heap.size #[.int .u32 (z0V 0), .int .u32 (z0V 1), .int .u32 (z0V 2), .int .u32 (z0V 3), .int .u32 (z0V 4), .int .u32 (z0V 5), .int .u32 (z0V 6), .int .u32 (z0V 7)] 24 ∧ Only r w wr) (fun i _ => n - (intOf i).toNat)
  case atStart => exact ⟨0, Nat.zero_le _, rfl, HR1.out, HG1.out, HZ1.out, o1⟩
  case round =>
    obtain ⟨k, hk, rfl, hr, hg, hz, ho⟩ := hrel
    clear HR1 HG1 HZ1 o1
    have HR := Lib.hid hr; have HG := Lib.hid hg; have HZ := Lib.hid hz; have HO := Lib.hid ho
    clear hr hg hz ho
    by_cases hkn : k < n
    · go_wp2_with fail
      refine (rInt_val r _ s 1048576 _ _ (rX s a c k) (rS s a c (k + 1)).1 (rS s a c (k + 1)).2 rfl rfl rfl HR.out (rS_in ha k) hs (by omega)).mono ?_
      rintro e w2 ⟨rfl, hr2, ho2⟩
      have wrp : IntKind.u32.wrap (rX s a c k : Int) = (rX s a c k : Int) := by have := rX_le (s := s) (a := a) (c := c) k; rw [IntKind.wrap_u32]; omega
      have HG2 := Lib.hid (Blk.only HG.out ho2 (by omega))
      have h1 := vec_cell HG2.out k (by omega)
      have h2 := Blk.free HG2.out k
      rw [mix_at] at h1
      have HR2 := Lib.hid (Blk.far hr2 (show r ≠ w.heap.size + 1 by omega) k (.int .u32 (rX s a c k : Int)))
      have HZ2 := Lib.hid (Blk.far (Blk.only HZ.out ho2 (by omega)) (show w.heap.size ≠ w.heap.size + 1 by omega) k (.int .u32 (rX s a c k : Int)))
      have HO2 := Lib.hid ((HO.out.trans ho2).fresh (show w.heap.size ≤ w.heap.size + 1 by omega) k (.int .u32 (rX s a c k : Int)))
      have HG3 : Hid (Blk (w2.setCell ⟨w.heap.size + 1, k, none⟩ (.int .u32 (rX s a c k : Int))) (w.heap.size + 1) #[.int .u32 (mixV (k + 1) (rY s a c) z0V 0), .int .u32 (mixV (k + 1) (rY s a c) z0V 1), .int .u32 (mixV (k + 1) (rY s a c) z0V 2), .int .u32 (mixV (k + 1) (rY s a c) z0V 3), .int .u32 (mixV (k + 1) (rY s a c) z0V 4), .int .u32 (mixV (k + 1) (rY s a c) z0V 5), .int .u32 (mixV (k + 1) (rY s a c) z0V 6), .int .u32 (mixV (k + 1) (rY s a c) z0V 7)] 24) := Lib.hid (by
        have := HG2.out.set k (.int .u32 (rY s a c k))
        rw [vec_set _ k (by omega), mix_step (by omega)] at this
        exact this)
      clear hr2 ho2 HR HG HZ HO HG2
      go_wp2
      go_roundw
      case rel => exact ⟨k + 1, by omega, by go_num, HR2.out, HG3.out, HZ2.out, HO2.out⟩
      case measure => simp [intOf]; omega
    · obtain rfl : k = n := by omega
      rcases Nat.eq_zero_or_pos k with rfl | hpos
      · have hC := rC_none HN.out
        by_cases hd : rC s a c = 0
        · have HC0 := Lib.hid hd
          have HRE : Hid (RR wr r s (rA s a c) (fA (rA s a c) (rC s a c)) (rC s a c)) := Lib.hid (by rw [hC]; exact rr_end HN.out HR.out)
          have HGE : Hid (Blk wr (w.heap.size + 1) #[.int .u32 (rV s a c 0), .int .u32 (rV s a c 1), .int .u32 (rV s a c 2), .int .u32 (rV s a c 3), .int .u32 (rV s a c 4), .int .u32 (rV s a c 5), .int .u32 (rV s a c 6), .int .u32 (rV s a c 7)] 24) := Lib.hid (by rw [← rV_at HN.out hd]; exact HG.out)
          clear hC hd HR HG
          have x3 := RR.c3 HRE.out
          rw [HC0.out] at x3
          go_wp2_with (first | (refine wpList_load_row rfl 24 _ rfl (w.heap.size + 1) rfl 24 #[.int .u32 (rV s a c 0), .int .u32 (rV s a c 1), .int .u32 (rV s a c 2), .int .u32 (rV s a c 3), .int .u32 (rV s a c 4), .int .u32 (rV s a c 5), .int .u32 (rV s a c 6), .int .u32 (rV s a c 7)] (0, 0) _ HGE.out Tryd.underlying24 rfl (by kernel_rfl) ?_) | (refine wpList_store_row rfl 24 _ _ rfl w.heap.size #[.int .u32 (rV s a c 0), .int .u32 (rV s a c 1), .int .u32 (rV s a c 2), .int .u32 (rV s a c 3), .int .u32 (rV s a c 4), .int .u32 (rV s a c 5), .int .u32 (rV s a c 6), .int .u32 (rV s a c 7)] rfl rfl 24 _ HZ.out (by kernel_rfl) rfl (vec_one _) ?_))
          refine bodyPost_ret (v := .agg #[.int .u32 (rV s a c 0), .int .u32 (rV s a c 1), .int .u32 (rV s a c 2), .int .u32 (rV s a c 3), .int .u32 (rV s a c 4), .int .u32 (rV s a c 5), .int .u32 (rV s a c 6), .int .u32 (rV s a c 7)]) ?_ rfl ⟨rfl, (setRow_other _ _ _ _ (by omega)).trans HRE.out, HO.out.row (Nat.le_refl _) _⟩
          exact results_cell_row rfl _ _ w.heap.size 24 _ (0, 0) _ rfl (setRow_heap _ _ _ _ _ _ HZ.out) Tryd.underlying24 rfl (by kernel_rfl)
        · have HCB := Lib.hid hd
          have HRE : Hid (RR wr r s (rA s a c) (fA (rA s a c) (rC s a c)) (rC s a c)) := Lib.hid (by rw [hC]; exact rr_end HN.out HR.out)
          have HZE := HZ; have HOE := HO
          clear hC hd HR HG HZ HO
          have x3 := RR.c3 HRE.out
          have t3 : (rC s a c == 0) = false := by simpa using HCB.out
          have HR4 := HRE; have HZ4 := HZE; have HO4 := HOE
          clear HRE HZE HOE
          go_wp2_with (refine wpList_store_row rfl 24 _ _ rfl w.heap.size #[.int .u32 (z0V 0), .int .u32 (z0V 1), .int .u32 (z0V 2), .int .u32 (z0V 3), .int .u32 (z0V 4), .int .u32 (z0V 5), .int .u32 (z0V 6), .int .u32 (z0V 7)] rfl rfl 24 _ HZ4.out (by kernel_rfl) rfl (vec_one _) ?_)
          refine bodyPost_ret (v := .agg #[.int .u32 (rV s a c 0), .int .u32 (rV s a c 1), .int .u32 (rV s a c 2), .int .u32 (rV s a c 3), .int .u32 (rV s a c 4), .int .u32 (rV s a c 5), .int .u32 (rV s a c 6), .int .u32 (rV s a c 7)]) ?_ rfl ⟨rfl, (setRow_other _ _ _ _ (by omega)).trans HR4.out, HO4.out.row (Nat.le_refl _) _⟩
          rw [rV_bad HCB.out]
          exact results_cell_row rfl _ _ w.heap.size 24 _ (0, 0) _ rfl (setRow_heap _ _ _ _ _ _ HZ4.out) Tryd.underlying24 rfl (by kernel_rfl)
      · obtain ⟨m, rfl⟩ : ∃ m, k = m + 1 := ⟨k - 1, by omega⟩
        have h1 := vec_cell HG.out m (by omega)
        rw [show mixV (m + 1) (rY s a c) z0V m = (rX s a c m : Int) from by unfold mixV rY; rw [if_pos (by omega)]] at h1
        by_cases hx : rX s a c m = 0
        · rw [hx] at h1
          have hC := rC_zero HN.out hx
          have HCB : Hid (¬ rC s a c = 0) := Lib.hid (by rw [hC]; exact failC_three _)
          have HRD := Lib.hid (rr_end HN.out HR.out)
          have HC := Lib.hid hC
          clear hC hx HR HG
          go_wp2_with fail
          refine (rfail_any r _ s _ 3 _ HRD.out).mono ?_
          rintro e w3 ⟨rfl, hr3, ho3⟩
          rw [← HC.out] at hr3
          have HRE := Lib.hid hr3
          have HZE := Lib.hid (Blk.only HZ.out ho3 (by omega))
          have HOE := Lib.hid (HO.out.trans ho3)
          clear hr3 ho3 h1 HRD HC HZ HO
          have x3 := RR.c3 HRE.out
          have t3 : (rC s a c == 0) = false := by simpa using HCB.out
          have HR4 := HRE; have HZ4 := HZE; have HO4 := HOE
          clear HRE HZE HOE
          go_wp2_with (refine wpList_store_row rfl 24 _ _ rfl w.heap.size #[.int .u32 (z0V 0), .int .u32 (z0V 1), .int .u32 (z0V 2), .int .u32 (z0V 3), .int .u32 (z0V 4), .int .u32 (z0V 5), .int .u32 (z0V 6), .int .u32 (z0V 7)] rfl rfl 24 _ HZ4.out (by kernel_rfl) rfl (vec_one _) ?_)
          refine bodyPost_ret (v := .agg #[.int .u32 (rV s a c 0), .int .u32 (rV s a c 1), .int .u32 (rV s a c 2), .int .u32 (rV s a c 3), .int .u32 (rV s a c 4), .int .u32 (rV s a c 5), .int .u32 (rV s a c 6), .int .u32 (rV s a c 7)]) ?_ rfl ⟨rfl, (setRow_other _ _ _ _ (by omega)).trans HR4.out, HO4.out.row (Nat.le_refl _) _⟩
          rw [rV_bad HCB.out]
          exact results_cell_row rfl _ _ w.heap.size 24 _ (0, 0) _ rfl (setRow_heap _ _ _ _ _ _ HZ4.out) Tryd.underlying24 rfl (by kernel_rfl)
        · have t : ((rX s a c m : Int) == 0) = false := by simpa using hx
          obtain ⟨hC, hD⟩ := rC_some HN.out hx
          have HC0 := Lib.hid (hC.trans hD)
          have HRE : Hid (RR wr r s (rA s a c) (fA (rA s a c) (rC s a c)) (rC s a c)) := Lib.hid (by rw [hC]; exact rr_end HN.out HR.out)
          have HGE : Hid (Blk wr (w.heap.size + 1) #[.int .u32 (rV s a c 0), .int .u32 (rV s a c 1), .int .u32 (rV s a c 2), .int .u32 (rV s a c 3), .int .u32 (rV s a c 4), .int .u32 (rV s a c 5), .int .u32 (rV s a c 6), .int .u32 (rV s a c 7)] 24) := Lib.hid (by rw [← rV_at HN.out (hC.trans hD)]; exact HG.out)
          clear hC hD hx HR HG
          have x3 := RR.c3 HRE.out
          rw [HC0.out] at x3
          go_wp2_with (first | (refine wpList_load_row rfl 24 _ rfl (w.heap.size + 1) rfl 24 #[.int .u32 (rV s a c 0), .int .u32 (rV s a c 1), .int .u32 (rV s a c 2), .int .u32 (rV s a c 3), .int .u32 (rV s a c 4), .int .u32 (rV s a c 5), .int .u32 (rV s a c 6), .int .u32 (rV s a c 7)] (0, 0) _ HGE.out Tryd.underlying24 rfl (by kernel_rfl) ?_) | (refine wpList_store_row rfl 24 _ _ rfl w.heap.size #[.int .u32 (rV s a c 0), .int .u32 (rV s a c 1), .int .u32 (rV s a c 2), .int .u32 (rV s a c 3), .int .u32 (rV s a c 4), .int .u32 (rV s a c 5), .int .u32 (rV s a c 6), .int .u32 (rV s a c 7)] rfl rfl 24 _ HZ.out (by kernel_rfl) rfl (vec_one _) ?_))
          refine bodyPost_ret (v := .agg #[.int .u32 (rV s a c 0), .int .u32 (rV s a c 1), .int .u32 (rV s a c 2), .int .u32 (rV s a c 3), .int .u32 (rV s a c 4), .int .u32 (rV s a c 5), .int .u32 (rV s a c 6), .int .u32 (rV s a c 7)]) ?_ rfl ⟨rfl, (setRow_other _ _ _ _ (by omega)).trans HRE.out, HO.out.row (Nat.le_refl _) _⟩
          exact results_cell_row rfl _ _ w.heap.size 24 _ (0, 0) _ rfl (setRow_heap _ _ _ _ _ _ HZ.out) Tryd.underlying24 rfl (by kernel_rfl)
end Go.Proofs.YtfmdmifpgmkohaaDoor
