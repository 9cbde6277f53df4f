/-
  The walk of the law DotsFolds.
  Conditions: package errors' own variable holds the handle of the type error.
-/
import Derived.Test.YtgcmlefalilodaaDoorDtH
import Derived.Test.YtgcmlefalilodaaDoorDtI
import Derived.Test.YtgcmlefalilodaaDoorOctG
import Derived.Test.YtgcmlefalilodaaDoorDotK
import Derived.OpenShut
namespace Go.Proofs.YtgcmlefalilodaaDoor
open Go.RowKit Go.Shelf Go.Lib Go.Sort

/-- Vectors in their blocks, slices with their lists. -/
structure VS (w0 : World) (Bs : List (Nat × (Nat → Int))) (Rs : List Sl) (w : World) : Prop where
  bel : Below w0.heap.size w0 w
  bs : ∀ x, x ∈ Bs → Blk w x.1 #[.int .u32 (x.2 0), .int .u32 (x.2 1), .int .u32 (x.2 2), .int .u32 (x.2 3), .int .u32 (x.2 4), .int .u32 (x.2 5), .int .u32 (x.2 6), .int .u32 (x.2 7)] 24
  rs : ∀ r, r ∈ Rs → Ids w r.1 r.2.1 r.2.2.1 r.2.2.2
section
variable {w0 W w' : World} {Bs : List (Nat × (Nat → Int))} {Rs : List Sl}
theorem VS.next (h : VS w0 Bs Rs W) (k : Below W.heap.size W w') : VS w0 Bs Rs w' := ⟨below_then h.bel k, fun x hx => (h.bs x hx).below k, fun r hr => (h.rs r hr).below k⟩
theorem VS.drew (h : VS w0 Bs Rs W) : VS w0 Bs Rs W.drew := h.next (Below.refl _ _).drew
theorem VS.alloc (h : VS w0 Bs Rs W) (x : Obj) : VS w0 Bs Rs (W.alloc x) := h.next ((Below.refl _ _).alloc (Nat.le_refl _) x)
theorem VS.lt1 (h : VS w0 Bs Rs W) {g : Nat} {x : Nat → Int} (hb : (g, x) ∈ Bs) : g < W.heap.size := (h.bs _ hb).lt
theorem VS.get (h : VS w0 Bs Rs W) {al : Option Addr} {len cap : Nat} {L : List (Int × Int)} (hr : (al, len, cap, L) ∈ Rs) : Ids W al len cap L := h.rs _ hr
theorem VS.blk (h : VS w0 Bs Rs W) {g : Nat} {x : Nat → Int} (hb : (g, x) ∈ Bs) : Blk W g #[.int .u32 (x 0), .int .u32 (x 1), .int .u32 (x 2), .int .u32 (x 3), .int .u32 (x 4), .int .u32 (x 5), .int .u32 (x 6), .int .u32 (x 7)] 24 := h.bs _ hb
theorem VS.addR (h : VS w0 Bs Rs W) {al : Option Addr} {len cap : Nat} {L : List (Int × Int)} (k : Ids W al len cap L) : VS w0 Bs ((al, len, cap, L) :: Rs) W := ⟨h.bel, h.bs, fun r hr => by
  rcases List.mem_cons.1 hr with rfl | hr
  · exact k
  · exact h.rs r hr⟩
theorem VS.addB (h : VS w0 Bs Rs W) {g : Nat} {x : Nat → Int} (k : Blk W g #[.int .u32 (x 0), .int .u32 (x 1), .int .u32 (x 2), .int .u32 (x 3), .int .u32 (x 4), .int .u32 (x 5), .int .u32 (x 6), .int .u32 (x 7)] 24) : VS w0 ((g, x) :: Bs) Rs W := ⟨h.bel, fun b hb => by
  rcases List.mem_cons.1 hb with rfl | hb
  · exact k
  · exact h.bs b hb, h.rs⟩
theorem VS.set8 {g : Nat} (u : Nat → Int) (h : VS w0 Bs Rs W) (hz : Blk W g #[.int .u32 0, .int .u32 0, .int .u32 0, .int .u32 0, .int .u32 0, .int .u32 0, .int .u32 0, .int .u32 0] 24) (hg : w0.heap.size ≤ g) (hf : ∀ x, x ∈ Bs → x.1 ≠ g) : VS w0 Bs Rs ((((((((W.setCell ⟨g, 0, none⟩ (.int .u32 (u 0))).setCell ⟨g, 1, none⟩ (.int .u32 (u 1))).setCell ⟨g, 2, none⟩ (.int .u32 (u 2))).setCell ⟨g, 3, none⟩ (.int .u32 (u 3))).setCell ⟨g, 4, none⟩ (.int .u32 (u 4))).setCell ⟨g, 5, none⟩ (.int .u32 (u 5))).setCell ⟨g, 6, none⟩ (.int .u32 (u 6))).setCell ⟨g, 7, none⟩ (.int .u32 (u 7))) :=
  ⟨below8 u h.bel hg, fun x hx => set8_far u (h.bs x hx) (hf x hx), fun r hr => ids_set8 u (h.rs r hr) hz⟩
/-- A box made behind the calls, and one made ahead of them. -/
theorem VS.s1 (u : Nat → Int) (h : VS w0 Bs Rs W) : VS w0 ((W.heap.size, u) :: Bs) Rs (W.alloc (.cells #[.int .u32 (u 0), .int .u32 (u 1), .int .u32 (u 2), .int .u32 (u 3), .int .u32 (u 4), .int .u32 (u 5), .int .u32 (u 6), .int .u32 (u 7)] 24)) := (h.alloc _).addB (Blk.new _ _ _)
theorem VS.s2 {g : Nat} (u : Nat → Int) (h : VS w0 Bs Rs W) (hz : Blk W g #[.int .u32 0, .int .u32 0, .int .u32 0, .int .u32 0, .int .u32 0, .int .u32 0, .int .u32 0, .int .u32 0] 24) (hg : w0.heap.size ≤ g) (hf : ∀ x, x ∈ Bs → x.1 ≠ g) : VS w0 ((g, u) :: Bs) Rs ((((((((W.setCell ⟨g, 0, none⟩ (.int .u32 (u 0))).setCell ⟨g, 1, none⟩ (.int .u32 (u 1))).setCell ⟨g, 2, none⟩ (.int .u32 (u 2))).setCell ⟨g, 3, none⟩ (.int .u32 (u 3))).setCell ⟨g, 4, none⟩ (.int .u32 (u 4))).setCell ⟨g, 5, none⟩ (.int .u32 (u 5))).setCell ⟨g, 6, none⟩ (.int .u32 (u 6))).setCell ⟨g, 7, none⟩ (.int .u32 (u 7))) := (h.set8 u hz hg hf).addB (set8_same u hz)
theorem VS.all1 {g : Nat} {x : Nat → Int} (hb : (g, x) ∈ Bs) (h : VS w0 Bs Rs W) : W.cell? ⟨g, 0, none⟩ = some (.int .u32 (x 0)) ∧ W.cell? ⟨g, 1, none⟩ = some (.int .u32 (x 1)) ∧ W.cell? ⟨g, 2, none⟩ = some (.int .u32 (x 2)) ∧ W.cell? ⟨g, 3, none⟩ = some (.int .u32 (x 3)) ∧ W.cell? ⟨g, 4, none⟩ = some (.int .u32 (x 4)) ∧ W.cell? ⟨g, 5, none⟩ = some (.int .u32 (x 5)) ∧ W.cell? ⟨g, 6, none⟩ = some (.int .u32 (x 6)) ∧ W.cell? ⟨g, 7, none⟩ = some (.int .u32 (x 7)) ∧ VS w0 Bs Rs W :=
  ⟨vec_cell (h.blk hb) 0 (by omega), vec_cell (h.blk hb) 1 (by omega), vec_cell (h.blk hb) 2 (by omega), vec_cell (h.blk hb) 3 (by omega), vec_cell (h.blk hb) 4 (by omega), vec_cell (h.blk hb) 5 (by omega), vec_cell (h.blk hb) 6 (by omega), vec_cell (h.blk hb) 7 (by omega), h⟩
theorem VS.held1 {c0 c1 c2 c3 c4 c5 c6 c7 : Prop} (h : c0 ∧ c1 ∧ c2 ∧ c3 ∧ c4 ∧ c5 ∧ c6 ∧ c7 ∧ VS w0 Bs Rs W) : VS w0 Bs Rs W := h.2.2.2.2.2.2.2.2
theorem own_VS (al : Option Addr) (len cap : Nat) (L : List (Int × Int)) (hr : (al, len, cap, L) ∈ Rs) (hl : len ≤ 1048576) (h : VS w0 Bs Rs W) :
    Calls Tryd.prog 6 #[.slice al len cap] W fun e w' => ∃ al' cap', e = .returned (.slice al' len cap') ∧ Ids w' al' len cap' L ∧ VS w0 Bs Rs w' ∧ Kept W w' :=
  (own_any al len cap L W (h.get hr) hl).mono fun _ _ ⟨a, c, h1, h2, _, h4⟩ => ⟨a, c, h1, h2, h.next h4, h4⟩
theorem fold_VS (al : Option Addr) (len cap : Nat) (L : List (Int × Int)) (x u : Nat → Int) (R : List (Int × Int)) (n : Nat) (c : Int) (hx : InB x) (hf : foC x L = c) (hu : foV x L = u) (hR : foS x L = R) (hn : R.length = n) (hI : Ids W al len cap L) (h : VS w0 Bs Rs W) :
    Calls Tryd.prog 5 #[.agg #[.int .u32 (x 0), .int .u32 (x 1), .int .u32 (x 2), .int .u32 (x 3), .int .u32 (x 4), .int .u32 (x 5), .int .u32 (x 6), .int .u32 (x 7)], .slice al len cap] W fun e w' => ∃ al2 cap2, e = .returned (.tuple #[.agg #[.int .u32 (u 0), .int .u32 (u 1), .int .u32 (u 2), .int .u32 (u 3), .int .u32 (u 4), .int .u32 (u 5), .int .u32 (u 6), .int .u32 (u 7)], .slice al2 n cap2, .int .i64 c]) ∧ Ids w' al2 n cap2 R ∧ VS w0 Bs Rs w' ∧ Kept W w' :=
  (fold_any al len cap L x W hI hx).mono fun _ _ ⟨a, c, h1, h2, h3⟩ => ⟨a, c, by rw [h1, hf, hu, hR, hn], by rw [hR, hn] at h2; exact h2, h.next h3, h3⟩
end


section
variable {W : World} {r q : Nat} {s : ByteArray} {a : Nat} {c : Int} {b : Nat} {d : Int} {w : World}
theorem dreadL_S2 (h : S2 W r q s a c b d w) (ha : a ≤ s.size) (hs : s.size ≤ 1048576) :
    Calls Tryd.prog 12 #[.pointer (some ⟨r, 0, none⟩)] w fun e w' => ∃ al cap, e = .returned (.slice al (dL s a c).length cap) ∧ Ids w' al (dL s a c).length cap (dL s a c) ∧ S2 W r q s (dA s a c) (dC s a c) b d w' :=
  (dRead_any r a s c w h.rd ha hs).mono fun _ _ ⟨al, cap, h1, h2, h3, h4⟩ => ⟨al, cap, h1, h2, h.left h3 h4⟩
theorem dreadR_S2 {al : Option Addr} {len cap : Nat} {L : List (Int × Int)} (hI : Ids w al len cap L) (h : S2 W r q s a c b d w) (hb : b ≤ s.size) (hs : s.size ≤ 1048576) :
    Calls Tryd.prog 13 #[.pointer (some ⟨q, 0, none⟩)] w fun e w' => ∃ al2 cap2, e = .returned (.slice al2 (dL s b d).length cap2) ∧ Ids w' al len cap L ∧ Ids w' al2 (dL s b d).length cap2 (dL s b d) ∧ S2 W r q s a c (dA s b d) (dC s b d) w' :=
  (rRead_any q b s d w h.rr hb hs).mono fun _ _ ⟨al2, cap2, h1, h2, h3, h4⟩ => ⟨al2, cap2, h1, ids_onlyR hI h.rr h4, h2, h.right h3 h4⟩
end
theorem S2.start {W w : World} (s : ByteArray) (h : Below W.heap.size W w) : S2 W w.heap.size (w.heap.size + 1) s 0 0 0 0 ((w.alloc (.cells #[.string s, .int .i64 0, .int .i64 0] 69)).alloc (.cells #[.string s, .int .i64 0, .int .i64 0, .int .i64 0] 40)) :=
  ⟨(Blk.new w #[.string s, .int .i64 0, .int .i64 0] 69).alloc _, by
    have := Blk.new (w.alloc (.cells #[.string s, .int .i64 0, .int .i64 0] 69)) #[.string s, .int .i64 0, .int .i64 0, .int .i64 0] 40
    simpa [RR, fA] using this, below_new (below_new h _) _, h.size, by have := h.size; omega, by omega⟩
theorem fz0 {x : Option Value} {a : Nat} (h : x = some (.int .i64 (fA a 0 : Nat))) : x = some (.int .i64 0) := h
theorem fz1 {x : Option Value} {a : Nat} {c : Int} (hc : ¬ c = 0) (h : x = some (.int .i64 (fA a c : Nat))) : x = some (.int .i64 (a : Nat)) := by
  rw [h]; unfold fA; rw [if_neg hc]

set_option maxRecDepth 100000 in
set_option maxHeartbeats 8000000 in
theorem dotsFolds_short (v : Nat → Int) (al : Option Addr) (len cap : Nat) (L : List (Int × Int)) (s : ByteArray) (w : World) (hg : Handle w) (hin : InB v) (hL : Ids w al len cap L) (hle : len ≤ 1025) (hgr : greatB len = false) (hl : s.size ≤ 2000) :
    Calls Tryd.prog 3 #[.agg #[.int .u32 (v 0), .int .u32 (v 1), .int .u32 (v 2), .int .u32 (v 3), .int .u32 (v 4), .int .u32 (v 5), .int .u32 (v 6), .int .u32 (v 7)], .slice al len cap, .string s] w fun e w' => e = .returned (.bool true) ∧ Below w.heap.size w w' := by
  have hcap := hL.bd
  have hfit := hL.fit
  have hb0 := (Below.refl w.heap.size w).alloc (Nat.le_refl _) (.cells #[.int .u32 (v 0), .int .u32 (v 1), .int .u32 (v 2), .int .u32 (v 3), .int .u32 (v 4), .int .u32 (v 5), .int .u32 (v 6), .int .u32 (v 7)] 24)
  have hS : VS w [(w.heap.size, v)] [(al, len, cap, L)] (w.alloc (.cells #[.int .u32 (v 0), .int .u32 (v 1), .int .u32 (v 2), .int .u32 (v 3), .int .u32 (v 4), .int .u32 (v 5), .int .u32 (v 6), .int .u32 (v 7)] 24)) := ⟨hb0, fun x hx => by
    simp only [List.mem_cons, List.not_mem_nil, or_false] at hx
    subst hx
    exact Blk.new w _ _, fun r hr => by
    simp only [List.mem_cons, List.not_mem_nil, or_false] at hr
    subst hr
    exact hL.below hb0⟩
  have H0 := Lib.hid hS
  have HIN := Lib.hid hin
  have HG := Lib.hid hg
  have HGR := Lib.hid hgr
  clear hS hb0 hL hin hg hgr
  have d1 : decide ((s.size : Int) > 2000) = false := decide_eq_false (by omega)
  go_enter Tryd.func3, Tryd.ntmps3
  go_wp2_with fail
  refine (great_any al len cap _ hfit hcap).mono ?_
  rw [HGR.out]
  rintro e w2 ⟨rfl, b2⟩
  have HQ2 := Lib.hid (H0.out.next b2); clear b2
  have q2 := HQ2.out
  have m1 : (w.heap.size, v) ∈ ([(w.heap.size, v)] : List (Nat × (Nat → Int))) := by simp
  have l2 := q2.lt1 m1
  obtain ⟨u, hu⟩ : ∃ u, foV v L = u := ⟨_, rfl⟩
  obtain ⟨R, hR⟩ : ∃ R, foS v L = R := ⟨_, rfl⟩
  obtain ⟨nR, hnR⟩ : ∃ n, R.length = n := ⟨_, rfl⟩
  obtain ⟨c, hc⟩ : ∃ c, foC v L = c := ⟨_, rfl⟩
  have HU := Lib.hid hu
  have HR := Lib.hid hR
  have HNR := Lib.hid hnR
  have HC := Lib.hid hc
  have HM2 : Hid ((al, len, cap, L) ∈ ([(al, len, cap, L)] : List Sl)) := Lib.hid (by simp)
  clear hu hR hnR hc
  go_upto_region 3 with fail
  go_cut [7, 8, 9] (fun s7 s8 s9 wx => ∃ (g : Nat) (al8 : Option Addr) (cap8 : Nat), s7 = .pointer (some ⟨g, 0, none⟩) ∧ s8 = .slice al8 nR cap8 ∧ s9 = .int .i64 c ∧ Ids wx al8 nR cap8 R ∧ VS w [(g, u), (w.heap.size, v)] [(al, len, cap, L)] wx)
  case first =>
    go_region_held3 (fun w' => w'.cell? ⟨w.heap.size, 0, none⟩ = some (.int .u32 (v 0)) ∧ w'.cell? ⟨w.heap.size, 1, none⟩ = some (.int .u32 (v 1)) ∧ w'.cell? ⟨w.heap.size, 2, none⟩ = some (.int .u32 (v 2)) ∧ w'.cell? ⟨w.heap.size, 3, none⟩ = some (.int .u32 (v 3)) ∧ w'.cell? ⟨w.heap.size, 4, none⟩ = some (.int .u32 (v 4)) ∧ w'.cell? ⟨w.heap.size, 5, none⟩ = some (.int .u32 (v 5)) ∧ w'.cell? ⟨w.heap.size, 6, none⟩ = some (.int .u32 (v 6)) ∧ w'.cell? ⟨w.heap.size, 7, none⟩ = some (.int .u32 (v 7)) ∧ VS w [(w.heap.size, v)] [(al, len, cap, L)] w') (exact VS.all1 m1 (by repeat (first | (with_reducible assumption) | (with_reducible exact q2) | (with_reducible refine VS.alloc ?_ _) | (with_reducible refine VS.drew ?_) | (with_reducible refine VS.set8 _ ?_ (by repeat (first | (with_reducible exact Blk.new _ _ _) | (with_reducible refine Blk.alloc ?_ _) | (with_reducible refine Blk.drew1 ?_) | (with_reducible refine Kept.blk hkf ?_) | (with_reducible refine Kept.blk hko ?_) )) (by omega) (by simp; omega))))) (first | (go_at_call 6; refine (own_VS (w0 := w) (Bs := [(w.heap.size, v)]) (Rs := [(al, len, cap, L)]) al len cap L HM2.out (by omega) (by first | (with_reducible assumption) | exact VS.held1 (by assumption))).mono ?_; rintro e wo ⟨alo, capo, rfl, hIo, hJo, hko⟩; have co := hko.cell; have fo := hko.free; have zo := hko.lt; have lo := VS.lt1 hJo m1; (first | (have yo : w2.heap.size < wo.heap.size := zo _ (by first | (with_reducible assumption) | omega | (simp; done) | (simp; omega))) | skip)) | (go_at_call 5; refine (fold_VS (w0 := w) (Bs := [(w.heap.size, v)]) (Rs := [(al, len, cap, L)]) alo len capo L v u R nR c HIN.out HC.out HU.out HR.out HNR.out (by repeat (first | (with_reducible assumption) | (with_reducible refine ids_drew ?_) | (with_reducible refine ids_alloc ?_ _))) (by first | (with_reducible assumption) | exact VS.held1 (by assumption))).mono ?_; rintro e wf ⟨al9, cap9, rfl, hIf, hJf, hkf⟩; have cf := hkf.cell; have ff := hkf.free; have zf := hkf.lt; (first | (have yf : w2.heap.size < wf.heap.size := zf _ (by first | (with_reducible assumption) | omega | (simp; done) | (simp; omega))) | skip); (first | (have y2 : wo.heap.size < wf.heap.size := zf _ (by first | (with_reducible assumption) | omega | (simp; done) | (simp; omega))) | skip)))
    all_goals
      go_wp2_with fail
      go_meet
      first | (with_reducible exact ⟨_, _, _, rfl, rfl, rfl, ids_alloc hIf _, VS.s1 _ hJf⟩) | ((with_reducible refine ⟨_, _, _, rfl, rfl, rfl, ids_set8 _ hIf ?_, VS.s2 _ hJf ?_ ?_ ?_⟩); exact (by repeat (first | (with_reducible exact Blk.new _ _ _) | (with_reducible refine Blk.alloc ?_ _) | (with_reducible refine Blk.drew1 ?_) | (with_reducible refine Kept.blk hkf ?_) | (with_reducible refine Kept.blk hko ?_) )); exact (by repeat (first | (with_reducible exact Blk.new _ _ _) | (with_reducible refine Blk.alloc ?_ _) | (with_reducible refine Blk.drew1 ?_) | (with_reducible refine Kept.blk hkf ?_) | (with_reducible refine Kept.blk hko ?_) )); omega; exact (by simp; omega))
  case rest =>
    obtain ⟨g, al8, cap8, rfl, rfl, rfl, hI8, hQ8⟩ := hcut
    have n1 : (w.heap.size, v) ∈ ([(g, u), (w.heap.size, v)] : List (Nat × (Nat → Int))) := by simp
    have HQ8 := Lib.hid (hQ8.addR hI8)
    clear hI8 hQ8 q2 l2 HQ2 HM2 m1
    obtain ⟨x0, x1, x2, x3, x4, x5, x6, x7, _⟩ := VS.all1 n1 HQ8.out
    go_wp2_with fail
    have hrf := rfold_any al len cap L v _ (HQ8.out.get (by simp)) HIN.out
    rw [HU.out, HR.out, HC.out, HNR.out] at hrf
    refine hrf.mono ?_
    clear hrf
    rintro e w5 ⟨al5, cap5, rfl, hI5, b5⟩
    have HQ5 := Lib.hid (((HQ8.out.next b5).addR hI5).s1 u)
    clear b5 hI5 x0 x1 x2 x3 x4 x5 x6 x7
    go_wp2_with fail
    refine (own_any al len cap L _ (HQ5.out.get (by simp)) (by omega)).mono ?_
    rintro e w6 ⟨al6, cap6, rfl, hI6, _, b6⟩
    have HQ6 := Lib.hid ((HQ5.out.next b6).addR hI6); clear b6 hI6
    go_wp2_with fail
    refine (dWrite_any al6 len cap6 L _ (HQ6.out.get (by simp))).mono ?_
    rintro e w7 ⟨rfl, b7⟩
    have HQ7 := Lib.hid (HQ6.out.next b7); clear b7
    go_wp2_with fail
    refine (rWrite_any al len cap L _ (HQ7.out.get (by simp))).mono ?_
    rintro e w9 ⟨rfl, b9⟩
    have HQ9 := Lib.hid (HQ7.out.next b9); clear b9
    generalize wrS L = T
    generalize chkS L = cc
    have p1 : (g, u) ∈ ([(w5.heap.size, u), (g, u), (w.heap.size, v)] : List (Nat × (Nat → Int))) := by simp
    have p2 : (w5.heap.size, u) ∈ ([(w5.heap.size, u), (g, u), (w.heap.size, v)] : List (Nat × (Nat → Int))) := by simp
    obtain ⟨x0, x1, x2, x3, x4, x5, x6, x7, _⟩ := VS.all1 p1 HQ9.out
    obtain ⟨y0, y1, y2, y3, y4, y5, y6, y7, _⟩ := VS.all1 p2 HQ9.out
    have he : ∀ w, (Op.equalIn 10000 24 (.agg #[.int .u32 (u 0), .int .u32 (u 1), .int .u32 (u 2), .int .u32 (u 3), .int .u32 (u 4), .int .u32 (u 5), .int .u32 (u 6), .int .u32 (u 7)]) (.agg #[.int .u32 (u 0), .int .u32 (u 1), .int .u32 (u 2), .int .u32 (u 3), .int .u32 (u 4), .int .u32 (u 5), .int .u32 (u 6), .int .u32 (u 7)])).run Tryd.prog w = .ok true w := fun w => by rw [← show eqV u u = true from eqV_iff.2 fun _ _ => rfl]; exact eql_vec 9998 u u w
    go_wp2_with fail
    refine (same_any al8 al5 nR cap8 nR cap5 R R _ (HQ9.out.get (by simp)) (HQ9.out.get (by simp))).mono ?_
    rw [decide_eq_true rfl]
    rintro e w10 ⟨rfl, b10⟩
    have HQ10 := Lib.hid (HQ9.out.next b10); clear b10 x0 x1 x2 x3 x4 x5 x6 x7 y0 y1 y2 y3 y4 y5 y6 y7 he p1 p2 n1
    go_wp2_with fail
    refine (new_any s _).mono ?_
    rintro e w11 ⟨rfl, rfl⟩
    have hs2 := S2.start s HQ10.out.bel
    have HS0 := Lib.hid hs2; clear hs2
    have hs : s.size ≤ 1048576 := by omega
    have hr1 : w10.heap.size < w10.heap.size + 1 := by omega
    go_wp2
    generalize hrr : w10.heap.size = r at HS0 hr1
    generalize hqq : r + 1 = q at HS0 hr1
    clear hrr hqq hr1 d1
    go_loopw [19] (fun s19 wr => ∃ (k a : Nat) (c : Int), s19 = .int .i64 k ∧ k ≤ 2 ∧ a ≤ s.size ∧ S2 w r q s a c a c wr) (fun s19 _ => 2 - (intOf s19).toNat)
    case atStart => exact ⟨0, 0, 0, rfl, by omega, by omega, HS0.out⟩
    case round =>
      obtain ⟨k, a, c, rfl, hk, ha, hS⟩ := hrel
      have HSr := Lib.hid hS; clear hS HS0
      by_cases hkl : k < 2
      · have HAS : Hid (dA s a c ≤ s.size) := Lib.hid (dA_le ha)
        have HA1 : Hid (dA s a c ≤ 1048576) := Lib.hid (by have := dA_le (c := c) ha; omega)
        by_cases hcz : dC s a c = 0
        · have HCZ := Lib.hid hcz
          go_wp2_with fail
          refine wp_region_held_drew (S := fun _ => True) (by kernel_rfl) trivial (fun _ => ?_)
          have HS : Hid (S2 w r q s a c a c wr.drew) := Lib.hid HSr.out.drew
          refine wpAnyH_take (i := 0) (oi := ⟨some 86, _, _, _, _, _⟩) (v := ?_) rfl (by kernel_rfl) (by kernel_rfl) (by kernel_rfl) (fun _ _ _ h => h) (Or.inl ⟨by rfl, ?_⟩) trivial ?_
          rotate_left
          · intro w hSw; clear hSw; go_simp; try (with_reducible rfl)
          try simp only [Act.put, List.setIfInBounds_toArray, List.set_cons_zero, List.set_cons_succ]
          refine wpAnyH_take (i := 2) (oi := ⟨some 88, _, _, _, _, _⟩) (v := ?_) rfl (by kernel_rfl) (by kernel_rfl) (by kernel_rfl) (fun _ _ _ h => h) (Or.inl ⟨by rfl, ?_⟩) trivial ?_
          rotate_left
          · intro w hSw; clear hSw; go_simp; try (with_reducible rfl)
          try simp only [Act.put, List.setIfInBounds_toArray, List.set_cons_zero, List.set_cons_succ]
          refine wpAnyH_ready (rs := [1]) (by kernel_rfl) (by simp) ?_
          refine AllReadyH.cons (o := ⟨some 87, _, _, _, _, _⟩) rfl (fun K hK => ?_) AllReadyH.nil
          go_simp
          go_at_call 12
          have hdl := dreadL_S2 HS.out ha hs
          rw [HCZ.out] at hdl
          refine hdl.mono ?_
          clear hdl
          rintro e wa ⟨al1, cap1, rfl, hI1, hS1⟩
          have HI1 := Lib.hid hI1; have HS1 := Lib.hid hS1; clear hI1 hS1
          go_wp2_with fail
          refine hK.out _ _ trivial (fun _ => ?_)
          clear hK K
          try simp only [Act.put, List.setIfInBounds_toArray, List.set_cons_zero, List.set_cons_succ]
          refine wpAnyH_ready (rs := [3]) (by kernel_rfl) (by simp) ?_
          refine AllReadyH.cons (o := ⟨some 89, _, _, _, _, _⟩) rfl (fun K hK => ?_) AllReadyH.nil
          go_simp
          go_at_call 13
          have hdr := dreadR_S2 HI1.out HS1.out ha hs
          rw [HCZ.out] at hdr
          refine hdr.mono ?_
          clear hdr
          rintro e wb ⟨al2, cap2, rfl, hI1, hI2, hS2⟩
          have HI3 := Lib.hid hI1; have HI2 := Lib.hid hI2; have HS2 := Lib.hid hS2; clear hI1 hI2 hS2
          go_wp2_with fail
          refine hK.out _ _ trivial (fun _ => ?_)
          clear hK K
          try simp only [Act.put, List.setIfInBounds_toArray, List.set_cons_zero, List.set_cons_succ]
          refine wpAnyH_ready (rs := [4]) (by kernel_rfl) (by simp) ?_
          refine AllReadyH.cons (o := ⟨some 90, _, _, _, _, _⟩) rfl (fun K hK => ?_) AllReadyH.nil
          go_simp
          go_at_call 10
          refine (same_any al1 al2 _ cap1 _ cap2 _ _ _ HI3.out HI2.out).mono ?_
          rw [decide_eq_true rfl]
          rintro e wc ⟨rfl, bc⟩
          have HS3 := Lib.hid (HS2.out.below bc); clear bc
          have g1 := HS3.out.rr.c1
          have g2 := fz0 HS3.out.rr.c2
          have g3 := HS3.out.rr.c3
          go_wp2_with fail
          refine hK.out _ _ trivial (fun _ => ?_)
          clear hK K
          try simp only [Act.put, List.setIfInBounds_toArray, List.set_cons_zero, List.set_cons_succ]
          refine wpAnyH_take (i := 5) (oi := ⟨some 91, _, _, _, _, _⟩) (v := ?_) rfl (by kernel_rfl) (by kernel_rfl) (by kernel_rfl) (fun _ _ _ h => h) (Or.inl ⟨by rfl, ?_⟩) trivial ?_
          rotate_left
          · intro w hSw; clear hSw; go_simp; try (with_reducible rfl)
          try simp only [Act.put, List.setIfInBounds_toArray, List.set_cons_zero, List.set_cons_succ]
          refine wpAnyH_take (i := 6) (oi := ⟨some 92, _, _, _, _, _⟩) (v := ?_) rfl (by kernel_rfl) (by kernel_rfl) (by kernel_rfl) (fun _ _ _ h => h) (Or.inl ⟨by rfl, ?_⟩) trivial ?_
          rotate_left
          · intro w hSw; clear hSw; go_simp; try (with_reducible rfl)
          try simp only [Act.put, List.setIfInBounds_toArray, List.set_cons_zero, List.set_cons_succ]
          refine wpAnyH_take (i := 7) (oi := ⟨some 93, _, _, _, _, _⟩) (v := ?_) rfl (by kernel_rfl) (by kernel_rfl) (by kernel_rfl) (fun _ _ _ h => h) (Or.inl ⟨by rfl, ?_⟩) trivial ?_
          rotate_left
          · intro w hSw; clear hSw; go_simp; try (with_reducible rfl)
          try simp only [Act.put, List.setIfInBounds_toArray, List.set_cons_zero, List.set_cons_succ]
          refine wpAnyH_take (i := 9) (oi := ⟨some 95, _, _, _, _, _⟩) (v := ?_) rfl (by kernel_rfl) (by kernel_rfl) (by kernel_rfl) (fun _ _ _ h => h) (Or.inl ⟨by rfl, ?_⟩) trivial ?_
          rotate_left
          · intro w hSw; clear hSw; go_simp; try (with_reducible rfl)
          try simp only [Act.put, List.setIfInBounds_toArray, List.set_cons_zero, List.set_cons_succ]
          refine wpAnyH_take (i := 10) (oi := ⟨some 96, _, _, _, _, _⟩) (v := ?_) rfl (by kernel_rfl) (by kernel_rfl) (by kernel_rfl) (fun _ _ _ h => h) (Or.inl ⟨by rfl, ?_⟩) trivial ?_
          rotate_left
          · intro w hSw; clear hSw; go_simp; try (with_reducible rfl)
          try simp only [Act.put, List.setIfInBounds_toArray, List.set_cons_zero, List.set_cons_succ]
          refine wpAnyH_take (i := 11) (oi := ⟨some 97, _, _, _, _, _⟩) (v := ?_) rfl (by kernel_rfl) (by kernel_rfl) (by kernel_rfl) (fun _ _ _ h => h) (Or.inl ⟨by rfl, ?_⟩) trivial ?_
          rotate_left
          · intro w hSw; clear hSw; go_simp; try (with_reducible rfl)
          try simp only [Act.put, List.setIfInBounds_toArray, List.set_cons_zero, List.set_cons_succ]
          refine wpAnyH_ready (rs := [8, 12]) (by kernel_rfl) (by simp) ?_
          refine AllReadyH.cons (o := ⟨some 94, _, _, _, _, _⟩) rfl (fun K hK => ?_) (AllReadyH.cons (o := ⟨some 98, _, _, _, _, _⟩) rfl (fun K hK => ?_) AllReadyH.nil)
          · go_simp
            go_at_call 14
            refine (at_any r _ s _ _ HS3.out.rd).mono ?_
            rintro e wd ⟨rfl, rfl⟩
            go_wp2_with fail
            refine hK.out _ _ trivial (fun _ => ?_)
            clear hK K
            try simp only [Act.put, List.setIfInBounds_toArray, List.set_cons_zero, List.set_cons_succ]
            refine wpAnyH_ready (rs := [12]) (by kernel_rfl) (by simp) ?_
            refine AllReadyH.cons (o := ⟨some 98, _, _, _, _, _⟩) rfl (fun K hK => ?_) AllReadyH.nil
            go_simp
            refine hK.out _ _ trivial (fun _ => ?_)
            clear hK K
            try simp only [Act.put, List.setIfInBounds_toArray, List.set_cons_zero, List.set_cons_succ]
            refine wpAnyH_take (i := 13) (oi := ⟨some 99, _, _, _, _, _⟩) (v := ?_) rfl (by kernel_rfl) (by kernel_rfl) (by kernel_rfl) (fun _ _ _ h => h) (Or.inl ⟨by rfl, ?_⟩) trivial ?_
            rotate_left
            · intro w hSw; clear hSw; go_simp; try (with_reducible rfl)
            try simp only [Act.put, List.setIfInBounds_toArray, List.set_cons_zero, List.set_cons_succ]
            refine wpAnyH_take (i := 14) (oi := ⟨some 100, _, _, _, _, _⟩) (v := ?_) rfl (by kernel_rfl) (by kernel_rfl) (by kernel_rfl) (fun _ _ _ h => h) (Or.inl ⟨by rfl, ?_⟩) trivial ?_
            rotate_left
            · intro w hSw; clear hSw; go_simp; try (with_reducible rfl)
            try simp only [Act.put, List.setIfInBounds_toArray, List.set_cons_zero, List.set_cons_succ]
            refine wpAnyH_take (i := 15) (oi := ⟨some 101, _, _, _, _, _⟩) (v := ?_) rfl (by kernel_rfl) (by kernel_rfl) (by kernel_rfl) (fun _ _ _ h => h) (Or.inl ⟨by rfl, ?_⟩) trivial ?_
            rotate_left
            · intro w hSw; clear hSw; go_simp; try (with_reducible rfl)
            try simp only [Act.put, List.setIfInBounds_toArray, List.set_cons_zero, List.set_cons_succ]
            refine wpAnyH_take (i := 16) (oi := ⟨some 102, _, _, _, _, _⟩) (v := ?_) rfl (by kernel_rfl) (by kernel_rfl) (by kernel_rfl) (fun _ _ _ h => h) (Or.inl ⟨by rfl, ?_⟩) trivial ?_
            rotate_left
            · intro w hSw; clear hSw; go_simp; try (with_reducible rfl)
            try simp only [Act.put, List.setIfInBounds_toArray, List.set_cons_zero, List.set_cons_succ]
            refine wpAnyH_take (i := 19) (oi := ⟨some 105, _, _, _, _, _⟩) (v := ?_) rfl (by kernel_rfl) (by kernel_rfl) (by kernel_rfl) (fun _ _ _ h => h) (Or.inl ⟨by rfl, ?_⟩) trivial ?_
            rotate_left
            · intro w hSw; clear hSw; go_simp; try (with_reducible rfl)
            try simp only [Act.put, List.setIfInBounds_toArray, List.set_cons_zero, List.set_cons_succ]
            refine wpAnyH_take (i := 20) (oi := ⟨some 106, _, _, _, _, _⟩) (v := ?_) rfl (by kernel_rfl) (by kernel_rfl) (by kernel_rfl) (fun _ _ _ h => h) (Or.inl ⟨by rfl, ?_⟩) trivial ?_
            rotate_left
            · intro w hSw; clear hSw; go_simp; try (with_reducible rfl)
            try simp only [Act.put, List.setIfInBounds_toArray, List.set_cons_zero, List.set_cons_succ]
            refine wpAnyH_take (i := 21) (oi := ⟨some 107, _, _, _, _, _⟩) (v := ?_) rfl (by kernel_rfl) (by kernel_rfl) (by kernel_rfl) (fun _ _ _ h => h) (Or.inl ⟨by rfl, ?_⟩) trivial ?_
            rotate_left
            · intro w hSw; clear hSw; go_simp; try (with_reducible rfl)
            try simp only [Act.put, List.setIfInBounds_toArray, List.set_cons_zero, List.set_cons_succ]
            refine wpAnyH_ready (rs := [17, 22]) (by kernel_rfl) (by simp) ?_
            refine AllReadyH.cons (o := ⟨some 103, _, _, _, _, _⟩) rfl (fun K hK => ?_) (AllReadyH.cons (o := ⟨some 108, _, _, _, _, _⟩) rfl (fun K hK => ?_) AllReadyH.nil)
            · go_simp
              go_at_call 16
              refine (err_none r _ s _ HS3.out.rd).mono ?_
              rintro e wd ⟨rfl, rfl⟩
              go_wp2_with fail
              refine hK.out _ _ trivial (fun _ => ?_)
              clear hK K
              try simp only [Act.put, List.setIfInBounds_toArray, List.set_cons_zero, List.set_cons_succ]
              refine wpAnyH_ready (rs := [18, 22]) (by kernel_rfl) (by simp) ?_
              refine AllReadyH.cons (o := ⟨some 104, _, _, _, _, _⟩) rfl (fun K hK => ?_) (AllReadyH.cons (o := ⟨some 108, _, _, _, _, _⟩) rfl (fun K hK => ?_) AllReadyH.nil)
              · go_simp
                go_at_call 15
                refine (seenN_S2 HS3.out).mono ?_
                rintro e wg ⟨rfl, hS4⟩
                have HS4 := Lib.hid hS4; clear hS4 g1 g2 g3
                have g1 := HS4.out.rr.c1
                have g2 := fz0 HS4.out.rr.c2
                have g3 := HS4.out.rr.c3
                go_wp2_with fail
                refine hK.out _ _ trivial (fun _ => ?_)
                clear hK K
                try simp only [Act.put, List.setIfInBounds_toArray, List.set_cons_zero, List.set_cons_succ]
                refine wpAnyH_ready (rs := [22]) (by kernel_rfl) (by simp) ?_
                refine AllReadyH.cons (o := ⟨some 108, _, _, _, _, _⟩) rfl (fun K hK => ?_) AllReadyH.nil
                go_simp
                refine hK.out _ _ trivial (fun _ => ?_)
                clear hK K
                try simp only [Act.put, List.setIfInBounds_toArray, List.set_cons_zero, List.set_cons_succ]
                refine wpAnyH_take (i := 23) (oi := ⟨some 109, _, _, _, _, _⟩) (v := ?_) rfl (by kernel_rfl) (by kernel_rfl) (by kernel_rfl) (fun _ _ _ h => h) (Or.inl ⟨by rfl, ?_⟩) trivial ?_
                rotate_left
                · intro w hSw; clear hSw; go_simp; try (with_reducible rfl)
                try simp only [Act.put, List.setIfInBounds_toArray, List.set_cons_zero, List.set_cons_succ]
                refine wpAnyH_take (i := 24) (oi := ⟨some 110, _, _, _, _, _⟩) (v := ?_) rfl (by kernel_rfl) (by kernel_rfl) (by kernel_rfl) (fun _ _ _ h => h) (Or.inl ⟨by rfl, ?_⟩) trivial ?_
                rotate_left
                · intro w hSw; clear hSw; go_simp; try (with_reducible rfl)
                try simp only [Act.put, List.setIfInBounds_toArray, List.set_cons_zero, List.set_cons_succ]
                refine wpAnyH_done (by kernel_rfl) ?_ _
                go_wp2
                go_roundw
                case rel => exact ⟨k + 1, _, _, by go_num, by omega, HAS.out, HS4.out⟩
                case measure => simp [intOf]; omega
              · go_simp
                refine hK.out _ _ trivial (fun _ => ?_)
                clear hK K
                try simp only [Act.put, List.setIfInBounds_toArray, List.set_cons_zero, List.set_cons_succ]
                refine wpAnyH_ready (rs := [18]) (by kernel_rfl) (by simp) ?_
                refine AllReadyH.cons (o := ⟨some 104, _, _, _, _, _⟩) rfl (fun K hK => ?_) AllReadyH.nil
                go_simp
                go_at_call 15
                refine (seenN_S2 HS3.out).mono ?_
                rintro e wg ⟨rfl, hS4⟩
                have HS4 := Lib.hid hS4; clear hS4 g1 g2 g3
                have g1 := HS4.out.rr.c1
                have g2 := fz0 HS4.out.rr.c2
                have g3 := HS4.out.rr.c3
                go_wp2_with fail
                refine hK.out _ _ trivial (fun _ => ?_)
                clear hK K
                try simp only [Act.put, List.setIfInBounds_toArray, List.set_cons_zero, List.set_cons_succ]
                refine wpAnyH_take (i := 23) (oi := ⟨some 109, _, _, _, _, _⟩) (v := ?_) rfl (by kernel_rfl) (by kernel_rfl) (by kernel_rfl) (fun _ _ _ h => h) (Or.inl ⟨by rfl, ?_⟩) trivial ?_
                rotate_left
                · intro w hSw; clear hSw; go_simp; try (with_reducible rfl)
                try simp only [Act.put, List.setIfInBounds_toArray, List.set_cons_zero, List.set_cons_succ]
                refine wpAnyH_take (i := 24) (oi := ⟨some 110, _, _, _, _, _⟩) (v := ?_) rfl (by kernel_rfl) (by kernel_rfl) (by kernel_rfl) (fun _ _ _ h => h) (Or.inl ⟨by rfl, ?_⟩) trivial ?_
                rotate_left
                · intro w hSw; clear hSw; go_simp; try (with_reducible rfl)
                try simp only [Act.put, List.setIfInBounds_toArray, List.set_cons_zero, List.set_cons_succ]
                refine wpAnyH_done (by kernel_rfl) ?_ _
                go_wp2
                go_roundw
                case rel => exact ⟨k + 1, _, _, by go_num, by omega, HAS.out, HS4.out⟩
                case measure => simp [intOf]; omega
            · go_simp
              refine hK.out _ _ trivial (fun _ => ?_)
              clear hK K
              try simp only [Act.put, List.setIfInBounds_toArray, List.set_cons_zero, List.set_cons_succ]
              refine wpAnyH_ready (rs := [17]) (by kernel_rfl) (by simp) ?_
              refine AllReadyH.cons (o := ⟨some 103, _, _, _, _, _⟩) rfl (fun K hK => ?_) AllReadyH.nil
              go_simp
              go_at_call 16
              refine (err_none r _ s _ HS3.out.rd).mono ?_
              rintro e wd ⟨rfl, rfl⟩
              go_wp2_with fail
              refine hK.out _ _ trivial (fun _ => ?_)
              clear hK K
              try simp only [Act.put, List.setIfInBounds_toArray, List.set_cons_zero, List.set_cons_succ]
              refine wpAnyH_ready (rs := [18]) (by kernel_rfl) (by simp) ?_
              refine AllReadyH.cons (o := ⟨some 104, _, _, _, _, _⟩) rfl (fun K hK => ?_) AllReadyH.nil
              go_simp
              go_at_call 15
              refine (seenN_S2 HS3.out).mono ?_
              rintro e wg ⟨rfl, hS4⟩
              have HS4 := Lib.hid hS4; clear hS4 g1 g2 g3
              have g1 := HS4.out.rr.c1
              have g2 := fz0 HS4.out.rr.c2
              have g3 := HS4.out.rr.c3
              go_wp2_with fail
              refine hK.out _ _ trivial (fun _ => ?_)
              clear hK K
              try simp only [Act.put, List.setIfInBounds_toArray, List.set_cons_zero, List.set_cons_succ]
              refine wpAnyH_take (i := 23) (oi := ⟨some 109, _, _, _, _, _⟩) (v := ?_) rfl (by kernel_rfl) (by kernel_rfl) (by kernel_rfl) (fun _ _ _ h => h) (Or.inl ⟨by rfl, ?_⟩) trivial ?_
              rotate_left
              · intro w hSw; clear hSw; go_simp; try (with_reducible rfl)
              try simp only [Act.put, List.setIfInBounds_toArray, List.set_cons_zero, List.set_cons_succ]
              refine wpAnyH_take (i := 24) (oi := ⟨some 110, _, _, _, _, _⟩) (v := ?_) rfl (by kernel_rfl) (by kernel_rfl) (by kernel_rfl) (fun _ _ _ h => h) (Or.inl ⟨by rfl, ?_⟩) trivial ?_
              rotate_left
              · intro w hSw; clear hSw; go_simp; try (with_reducible rfl)
              try simp only [Act.put, List.setIfInBounds_toArray, List.set_cons_zero, List.set_cons_succ]
              refine wpAnyH_done (by kernel_rfl) ?_ _
              go_wp2
              go_roundw
              case rel => exact ⟨k + 1, _, _, by go_num, by omega, HAS.out, HS4.out⟩
              case measure => simp [intOf]; omega
          · go_simp
            refine hK.out _ _ trivial (fun _ => ?_)
            clear hK K
            try simp only [Act.put, List.setIfInBounds_toArray, List.set_cons_zero, List.set_cons_succ]
            refine wpAnyH_ready (rs := [8]) (by kernel_rfl) (by simp) ?_
            refine AllReadyH.cons (o := ⟨some 94, _, _, _, _, _⟩) rfl (fun K hK => ?_) AllReadyH.nil
            go_simp
            go_at_call 14
            refine (at_any r _ s _ _ HS3.out.rd).mono ?_
            rintro e wd ⟨rfl, rfl⟩
            go_wp2_with fail
            refine hK.out _ _ trivial (fun _ => ?_)
            clear hK K
            try simp only [Act.put, List.setIfInBounds_toArray, List.set_cons_zero, List.set_cons_succ]
            refine wpAnyH_take (i := 13) (oi := ⟨some 99, _, _, _, _, _⟩) (v := ?_) rfl (by kernel_rfl) (by kernel_rfl) (by kernel_rfl) (fun _ _ _ h => h) (Or.inl ⟨by rfl, ?_⟩) trivial ?_
            rotate_left
            · intro w hSw; clear hSw; go_simp; try (with_reducible rfl)
            try simp only [Act.put, List.setIfInBounds_toArray, List.set_cons_zero, List.set_cons_succ]
            refine wpAnyH_take (i := 14) (oi := ⟨some 100, _, _, _, _, _⟩) (v := ?_) rfl (by kernel_rfl) (by kernel_rfl) (by kernel_rfl) (fun _ _ _ h => h) (Or.inl ⟨by rfl, ?_⟩) trivial ?_
            rotate_left
            · intro w hSw; clear hSw; go_simp; try (with_reducible rfl)
            try simp only [Act.put, List.setIfInBounds_toArray, List.set_cons_zero, List.set_cons_succ]
            refine wpAnyH_take (i := 15) (oi := ⟨some 101, _, _, _, _, _⟩) (v := ?_) rfl (by kernel_rfl) (by kernel_rfl) (by kernel_rfl) (fun _ _ _ h => h) (Or.inl ⟨by rfl, ?_⟩) trivial ?_
            rotate_left
            · intro w hSw; clear hSw; go_simp; try (with_reducible rfl)
            try simp only [Act.put, List.setIfInBounds_toArray, List.set_cons_zero, List.set_cons_succ]
            refine wpAnyH_take (i := 16) (oi := ⟨some 102, _, _, _, _, _⟩) (v := ?_) rfl (by kernel_rfl) (by kernel_rfl) (by kernel_rfl) (fun _ _ _ h => h) (Or.inl ⟨by rfl, ?_⟩) trivial ?_
            rotate_left
            · intro w hSw; clear hSw; go_simp; try (with_reducible rfl)
            try simp only [Act.put, List.setIfInBounds_toArray, List.set_cons_zero, List.set_cons_succ]
            refine wpAnyH_take (i := 19) (oi := ⟨some 105, _, _, _, _, _⟩) (v := ?_) rfl (by kernel_rfl) (by kernel_rfl) (by kernel_rfl) (fun _ _ _ h => h) (Or.inl ⟨by rfl, ?_⟩) trivial ?_
            rotate_left
            · intro w hSw; clear hSw; go_simp; try (with_reducible rfl)
            try simp only [Act.put, List.setIfInBounds_toArray, List.set_cons_zero, List.set_cons_succ]
            refine wpAnyH_take (i := 20) (oi := ⟨some 106, _, _, _, _, _⟩) (v := ?_) rfl (by kernel_rfl) (by kernel_rfl) (by kernel_rfl) (fun _ _ _ h => h) (Or.inl ⟨by rfl, ?_⟩) trivial ?_
            rotate_left
            · intro w hSw; clear hSw; go_simp; try (with_reducible rfl)
            try simp only [Act.put, List.setIfInBounds_toArray, List.set_cons_zero, List.set_cons_succ]
            refine wpAnyH_take (i := 21) (oi := ⟨some 107, _, _, _, _, _⟩) (v := ?_) rfl (by kernel_rfl) (by kernel_rfl) (by kernel_rfl) (fun _ _ _ h => h) (Or.inl ⟨by rfl, ?_⟩) trivial ?_
            rotate_left
            · intro w hSw; clear hSw; go_simp; try (with_reducible rfl)
            try simp only [Act.put, List.setIfInBounds_toArray, List.set_cons_zero, List.set_cons_succ]
            refine wpAnyH_ready (rs := [17, 22]) (by kernel_rfl) (by simp) ?_
            refine AllReadyH.cons (o := ⟨some 103, _, _, _, _, _⟩) rfl (fun K hK => ?_) (AllReadyH.cons (o := ⟨some 108, _, _, _, _, _⟩) rfl (fun K hK => ?_) AllReadyH.nil)
            · go_simp
              go_at_call 16
              refine (err_none r _ s _ HS3.out.rd).mono ?_
              rintro e wd ⟨rfl, rfl⟩
              go_wp2_with fail
              refine hK.out _ _ trivial (fun _ => ?_)
              clear hK K
              try simp only [Act.put, List.setIfInBounds_toArray, List.set_cons_zero, List.set_cons_succ]
              refine wpAnyH_ready (rs := [18, 22]) (by kernel_rfl) (by simp) ?_
              refine AllReadyH.cons (o := ⟨some 104, _, _, _, _, _⟩) rfl (fun K hK => ?_) (AllReadyH.cons (o := ⟨some 108, _, _, _, _, _⟩) rfl (fun K hK => ?_) AllReadyH.nil)
              · go_simp
                go_at_call 15
                refine (seenN_S2 HS3.out).mono ?_
                rintro e wg ⟨rfl, hS4⟩
                have HS4 := Lib.hid hS4; clear hS4 g1 g2 g3
                have g1 := HS4.out.rr.c1
                have g2 := fz0 HS4.out.rr.c2
                have g3 := HS4.out.rr.c3
                go_wp2_with fail
                refine hK.out _ _ trivial (fun _ => ?_)
                clear hK K
                try simp only [Act.put, List.setIfInBounds_toArray, List.set_cons_zero, List.set_cons_succ]
                refine wpAnyH_ready (rs := [22]) (by kernel_rfl) (by simp) ?_
                refine AllReadyH.cons (o := ⟨some 108, _, _, _, _, _⟩) rfl (fun K hK => ?_) AllReadyH.nil
                go_simp
                refine hK.out _ _ trivial (fun _ => ?_)
                clear hK K
                try simp only [Act.put, List.setIfInBounds_toArray, List.set_cons_zero, List.set_cons_succ]
                refine wpAnyH_take (i := 23) (oi := ⟨some 109, _, _, _, _, _⟩) (v := ?_) rfl (by kernel_rfl) (by kernel_rfl) (by kernel_rfl) (fun _ _ _ h => h) (Or.inl ⟨by rfl, ?_⟩) trivial ?_
                rotate_left
                · intro w hSw; clear hSw; go_simp; try (with_reducible rfl)
                try simp only [Act.put, List.setIfInBounds_toArray, List.set_cons_zero, List.set_cons_succ]
                refine wpAnyH_take (i := 24) (oi := ⟨some 110, _, _, _, _, _⟩) (v := ?_) rfl (by kernel_rfl) (by kernel_rfl) (by kernel_rfl) (fun _ _ _ h => h) (Or.inl ⟨by rfl, ?_⟩) trivial ?_
                rotate_left
                · intro w hSw; clear hSw; go_simp; try (with_reducible rfl)
                try simp only [Act.put, List.setIfInBounds_toArray, List.set_cons_zero, List.set_cons_succ]
                refine wpAnyH_done (by kernel_rfl) ?_ _
                go_wp2
                go_roundw
                case rel => exact ⟨k + 1, _, _, by go_num, by omega, HAS.out, HS4.out⟩
                case measure => simp [intOf]; omega
              · go_simp
                refine hK.out _ _ trivial (fun _ => ?_)
                clear hK K
                try simp only [Act.put, List.setIfInBounds_toArray, List.set_cons_zero, List.set_cons_succ]
                refine wpAnyH_ready (rs := [18]) (by kernel_rfl) (by simp) ?_
                refine AllReadyH.cons (o := ⟨some 104, _, _, _, _, _⟩) rfl (fun K hK => ?_) AllReadyH.nil
                go_simp
                go_at_call 15
                refine (seenN_S2 HS3.out).mono ?_
                rintro e wg ⟨rfl, hS4⟩
                have HS4 := Lib.hid hS4; clear hS4 g1 g2 g3
                have g1 := HS4.out.rr.c1
                have g2 := fz0 HS4.out.rr.c2
                have g3 := HS4.out.rr.c3
                go_wp2_with fail
                refine hK.out _ _ trivial (fun _ => ?_)
                clear hK K
                try simp only [Act.put, List.setIfInBounds_toArray, List.set_cons_zero, List.set_cons_succ]
                refine wpAnyH_take (i := 23) (oi := ⟨some 109, _, _, _, _, _⟩) (v := ?_) rfl (by kernel_rfl) (by kernel_rfl) (by kernel_rfl) (fun _ _ _ h => h) (Or.inl ⟨by rfl, ?_⟩) trivial ?_
                rotate_left
                · intro w hSw; clear hSw; go_simp; try (with_reducible rfl)
                try simp only [Act.put, List.setIfInBounds_toArray, List.set_cons_zero, List.set_cons_succ]
                refine wpAnyH_take (i := 24) (oi := ⟨some 110, _, _, _, _, _⟩) (v := ?_) rfl (by kernel_rfl) (by kernel_rfl) (by kernel_rfl) (fun _ _ _ h => h) (Or.inl ⟨by rfl, ?_⟩) trivial ?_
                rotate_left
                · intro w hSw; clear hSw; go_simp; try (with_reducible rfl)
                try simp only [Act.put, List.setIfInBounds_toArray, List.set_cons_zero, List.set_cons_succ]
                refine wpAnyH_done (by kernel_rfl) ?_ _
                go_wp2
                go_roundw
                case rel => exact ⟨k + 1, _, _, by go_num, by omega, HAS.out, HS4.out⟩
                case measure => simp [intOf]; omega
            · go_simp
              refine hK.out _ _ trivial (fun _ => ?_)
              clear hK K
              try simp only [Act.put, List.setIfInBounds_toArray, List.set_cons_zero, List.set_cons_succ]
              refine wpAnyH_ready (rs := [17]) (by kernel_rfl) (by simp) ?_
              refine AllReadyH.cons (o := ⟨some 103, _, _, _, _, _⟩) rfl (fun K hK => ?_) AllReadyH.nil
              go_simp
              go_at_call 16
              refine (err_none r _ s _ HS3.out.rd).mono ?_
              rintro e wd ⟨rfl, rfl⟩
              go_wp2_with fail
              refine hK.out _ _ trivial (fun _ => ?_)
              clear hK K
              try simp only [Act.put, List.setIfInBounds_toArray, List.set_cons_zero, List.set_cons_succ]
              refine wpAnyH_ready (rs := [18]) (by kernel_rfl) (by simp) ?_
              refine AllReadyH.cons (o := ⟨some 104, _, _, _, _, _⟩) rfl (fun K hK => ?_) AllReadyH.nil
              go_simp
              go_at_call 15
              refine (seenN_S2 HS3.out).mono ?_
              rintro e wg ⟨rfl, hS4⟩
              have HS4 := Lib.hid hS4; clear hS4 g1 g2 g3
              have g1 := HS4.out.rr.c1
              have g2 := fz0 HS4.out.rr.c2
              have g3 := HS4.out.rr.c3
              go_wp2_with fail
              refine hK.out _ _ trivial (fun _ => ?_)
              clear hK K
              try simp only [Act.put, List.setIfInBounds_toArray, List.set_cons_zero, List.set_cons_succ]
              refine wpAnyH_take (i := 23) (oi := ⟨some 109, _, _, _, _, _⟩) (v := ?_) rfl (by kernel_rfl) (by kernel_rfl) (by kernel_rfl) (fun _ _ _ h => h) (Or.inl ⟨by rfl, ?_⟩) trivial ?_
              rotate_left
              · intro w hSw; clear hSw; go_simp; try (with_reducible rfl)
              try simp only [Act.put, List.setIfInBounds_toArray, List.set_cons_zero, List.set_cons_succ]
              refine wpAnyH_take (i := 24) (oi := ⟨some 110, _, _, _, _, _⟩) (v := ?_) rfl (by kernel_rfl) (by kernel_rfl) (by kernel_rfl) (fun _ _ _ h => h) (Or.inl ⟨by rfl, ?_⟩) trivial ?_
              rotate_left
              · intro w hSw; clear hSw; go_simp; try (with_reducible rfl)
              try simp only [Act.put, List.setIfInBounds_toArray, List.set_cons_zero, List.set_cons_succ]
              refine wpAnyH_done (by kernel_rfl) ?_ _
              go_wp2
              go_roundw
              case rel => exact ⟨k + 1, _, _, by go_num, by omega, HAS.out, HS4.out⟩
              case measure => simp [intOf]; omega
        · have HCN := Lib.hid hcz
          clear hcz
          go_wp2_with fail
          refine wp_region_held_drew (S := fun _ => True) (by kernel_rfl) trivial (fun _ => ?_)
          have HS : Hid (S2 w r q s a c a c wr.drew) := Lib.hid HSr.out.drew
          refine wpAnyH_take (i := 0) (oi := ⟨some 86, _, _, _, _, _⟩) (v := ?_) rfl (by kernel_rfl) (by kernel_rfl) (by kernel_rfl) (fun _ _ _ h => h) (Or.inl ⟨by rfl, ?_⟩) trivial ?_
          rotate_left
          · intro w hSw; clear hSw; go_simp; try (with_reducible rfl)
          try simp only [Act.put, List.setIfInBounds_toArray, List.set_cons_zero, List.set_cons_succ]
          refine wpAnyH_take (i := 2) (oi := ⟨some 88, _, _, _, _, _⟩) (v := ?_) rfl (by kernel_rfl) (by kernel_rfl) (by kernel_rfl) (fun _ _ _ h => h) (Or.inl ⟨by rfl, ?_⟩) trivial ?_
          rotate_left
          · intro w hSw; clear hSw; go_simp; try (with_reducible rfl)
          try simp only [Act.put, List.setIfInBounds_toArray, List.set_cons_zero, List.set_cons_succ]
          refine wpAnyH_ready (rs := [1]) (by kernel_rfl) (by simp) ?_
          refine AllReadyH.cons (o := ⟨some 87, _, _, _, _, _⟩) rfl (fun K hK => ?_) AllReadyH.nil
          go_simp
          go_at_call 12
          refine (dreadL_S2 HS.out ha hs).mono ?_
          rintro e wa ⟨al1, cap1, rfl, hI1, hS1⟩
          have HI1 := Lib.hid hI1; have HS1 := Lib.hid hS1; clear hI1 hS1
          go_wp2_with fail
          refine hK.out _ _ trivial (fun _ => ?_)
          clear hK K
          try simp only [Act.put, List.setIfInBounds_toArray, List.set_cons_zero, List.set_cons_succ]
          refine wpAnyH_ready (rs := [3]) (by kernel_rfl) (by simp) ?_
          refine AllReadyH.cons (o := ⟨some 89, _, _, _, _, _⟩) rfl (fun K hK => ?_) AllReadyH.nil
          go_simp
          go_at_call 13
          refine (dreadR_S2 HI1.out HS1.out ha hs).mono ?_
          rintro e wb ⟨al2, cap2, rfl, hI1, hI2, hS2⟩
          have HI3 := Lib.hid hI1; have HI2 := Lib.hid hI2; have HS2 := Lib.hid hS2; clear hI1 hI2 hS2
          go_wp2_with fail
          refine hK.out _ _ trivial (fun _ => ?_)
          clear hK K
          try simp only [Act.put, List.setIfInBounds_toArray, List.set_cons_zero, List.set_cons_succ]
          refine wpAnyH_ready (rs := [4]) (by kernel_rfl) (by simp) ?_
          refine AllReadyH.cons (o := ⟨some 90, _, _, _, _, _⟩) rfl (fun K hK => ?_) AllReadyH.nil
          go_simp
          go_at_call 10
          refine (same_any al1 al2 _ cap1 _ cap2 _ _ _ HI3.out HI2.out).mono ?_
          rw [decide_eq_true rfl]
          rintro e wc ⟨rfl, bc⟩
          have HS3 := Lib.hid (HS2.out.below bc); clear bc
          have g1 := HS3.out.rr.c1
          have g2 := fz1 HCN.out HS3.out.rr.c2
          have g3 := HS3.out.rr.c3
          go_wp2_with fail
          refine hK.out _ _ trivial (fun _ => ?_)
          clear hK K
          try simp only [Act.put, List.setIfInBounds_toArray, List.set_cons_zero, List.set_cons_succ]
          refine wpAnyH_take (i := 5) (oi := ⟨some 91, _, _, _, _, _⟩) (v := ?_) rfl (by kernel_rfl) (by kernel_rfl) (by kernel_rfl) (fun _ _ _ h => h) (Or.inl ⟨by rfl, ?_⟩) trivial ?_
          rotate_left
          · intro w hSw; clear hSw; go_simp; try (with_reducible rfl)
          try simp only [Act.put, List.setIfInBounds_toArray, List.set_cons_zero, List.set_cons_succ]
          refine wpAnyH_take (i := 6) (oi := ⟨some 92, _, _, _, _, _⟩) (v := ?_) rfl (by kernel_rfl) (by kernel_rfl) (by kernel_rfl) (fun _ _ _ h => h) (Or.inl ⟨by rfl, ?_⟩) trivial ?_
          rotate_left
          · intro w hSw; clear hSw; go_simp; try (with_reducible rfl)
          try simp only [Act.put, List.setIfInBounds_toArray, List.set_cons_zero, List.set_cons_succ]
          refine wpAnyH_take (i := 7) (oi := ⟨some 93, _, _, _, _, _⟩) (v := ?_) rfl (by kernel_rfl) (by kernel_rfl) (by kernel_rfl) (fun _ _ _ h => h) (Or.inl ⟨by rfl, ?_⟩) trivial ?_
          rotate_left
          · intro w hSw; clear hSw; go_simp; try (with_reducible rfl)
          try simp only [Act.put, List.setIfInBounds_toArray, List.set_cons_zero, List.set_cons_succ]
          refine wpAnyH_take (i := 9) (oi := ⟨some 95, _, _, _, _, _⟩) (v := ?_) rfl (by kernel_rfl) (by kernel_rfl) (by kernel_rfl) (fun _ _ _ h => h) (Or.inl ⟨by rfl, ?_⟩) trivial ?_
          rotate_left
          · intro w hSw; clear hSw; go_simp; try (with_reducible rfl)
          try simp only [Act.put, List.setIfInBounds_toArray, List.set_cons_zero, List.set_cons_succ]
          refine wpAnyH_take (i := 10) (oi := ⟨some 96, _, _, _, _, _⟩) (v := ?_) rfl (by kernel_rfl) (by kernel_rfl) (by kernel_rfl) (fun _ _ _ h => h) (Or.inl ⟨by rfl, ?_⟩) trivial ?_
          rotate_left
          · intro w hSw; clear hSw; go_simp; try (with_reducible rfl)
          try simp only [Act.put, List.setIfInBounds_toArray, List.set_cons_zero, List.set_cons_succ]
          refine wpAnyH_take (i := 11) (oi := ⟨some 97, _, _, _, _, _⟩) (v := ?_) rfl (by kernel_rfl) (by kernel_rfl) (by kernel_rfl) (fun _ _ _ h => h) (Or.inl ⟨by rfl, ?_⟩) trivial ?_
          rotate_left
          · intro w hSw; clear hSw; go_simp; try (with_reducible rfl)
          try simp only [Act.put, List.setIfInBounds_toArray, List.set_cons_zero, List.set_cons_succ]
          refine wpAnyH_ready (rs := [8, 12]) (by kernel_rfl) (by simp) ?_
          refine AllReadyH.cons (o := ⟨some 94, _, _, _, _, _⟩) rfl (fun K hK => ?_) (AllReadyH.cons (o := ⟨some 98, _, _, _, _, _⟩) rfl (fun K hK => ?_) AllReadyH.nil)
          · go_simp
            go_at_call 14
            refine (at_any r _ s _ _ HS3.out.rd).mono ?_
            rintro e wd ⟨rfl, rfl⟩
            go_wp2_with fail
            refine hK.out _ _ trivial (fun _ => ?_)
            clear hK K
            try simp only [Act.put, List.setIfInBounds_toArray, List.set_cons_zero, List.set_cons_succ]
            refine wpAnyH_ready (rs := [12]) (by kernel_rfl) (by simp) ?_
            refine AllReadyH.cons (o := ⟨some 98, _, _, _, _, _⟩) rfl (fun K hK => ?_) AllReadyH.nil
            go_simp
            refine hK.out _ _ trivial (fun _ => ?_)
            clear hK K
            try simp only [Act.put, List.setIfInBounds_toArray, List.set_cons_zero, List.set_cons_succ]
            refine wpAnyH_take (i := 13) (oi := ⟨some 99, _, _, _, _, _⟩) (v := ?_) rfl (by kernel_rfl) (by kernel_rfl) (by kernel_rfl) (fun _ _ _ h => h) (Or.inl ⟨by rfl, ?_⟩) trivial ?_
            rotate_left
            · intro w hSw; clear hSw; go_simp; try (with_reducible rfl)
            try simp only [Act.put, List.setIfInBounds_toArray, List.set_cons_zero, List.set_cons_succ]
            refine wpAnyH_take (i := 14) (oi := ⟨some 100, _, _, _, _, _⟩) (v := ?_) rfl (by kernel_rfl) (by kernel_rfl) (by kernel_rfl) (fun _ _ _ h => h) (Or.inl ⟨by rfl, ?_⟩) trivial ?_
            rotate_left
            · intro w hSw; clear hSw; go_simp; try (with_reducible rfl)
            try simp only [Act.put, List.setIfInBounds_toArray, List.set_cons_zero, List.set_cons_succ]
            refine wpAnyH_take (i := 15) (oi := ⟨some 101, _, _, _, _, _⟩) (v := ?_) rfl (by kernel_rfl) (by kernel_rfl) (by kernel_rfl) (fun _ _ _ h => h) (Or.inl ⟨by rfl, ?_⟩) trivial ?_
            rotate_left
            · intro w hSw; clear hSw; go_simp; try (with_reducible rfl)
            try simp only [Act.put, List.setIfInBounds_toArray, List.set_cons_zero, List.set_cons_succ]
            refine wpAnyH_take (i := 16) (oi := ⟨some 102, _, _, _, _, _⟩) (v := ?_) rfl (by kernel_rfl) (by kernel_rfl) (by kernel_rfl) (fun _ _ _ h => h) (Or.inl ⟨by rfl, ?_⟩) trivial ?_
            rotate_left
            · intro w hSw; clear hSw; go_simp; try (with_reducible rfl)
            try simp only [Act.put, List.setIfInBounds_toArray, List.set_cons_zero, List.set_cons_succ]
            refine wpAnyH_take (i := 19) (oi := ⟨some 105, _, _, _, _, _⟩) (v := ?_) rfl (by kernel_rfl) (by kernel_rfl) (by kernel_rfl) (fun _ _ _ h => h) (Or.inl ⟨by rfl, ?_⟩) trivial ?_
            rotate_left
            · intro w hSw; clear hSw; go_simp; try (with_reducible rfl)
            try simp only [Act.put, List.setIfInBounds_toArray, List.set_cons_zero, List.set_cons_succ]
            refine wpAnyH_take (i := 20) (oi := ⟨some 106, _, _, _, _, _⟩) (v := ?_) rfl (by kernel_rfl) (by kernel_rfl) (by kernel_rfl) (fun _ _ _ h => h) (Or.inl ⟨by rfl, ?_⟩) trivial ?_
            rotate_left
            · intro w hSw; clear hSw; go_simp; try (with_reducible rfl)
            try simp only [Act.put, List.setIfInBounds_toArray, List.set_cons_zero, List.set_cons_succ]
            refine wpAnyH_take (i := 21) (oi := ⟨some 107, _, _, _, _, _⟩) (v := ?_) rfl (by kernel_rfl) (by kernel_rfl) (by kernel_rfl) (fun _ _ _ h => h) (Or.inl ⟨by rfl, ?_⟩) trivial ?_
            rotate_left
            · intro w hSw; clear hSw; go_simp; try (with_reducible rfl)
            try simp only [Act.put, List.setIfInBounds_toArray, List.set_cons_zero, List.set_cons_succ]
            refine wpAnyH_ready (rs := [17, 22]) (by kernel_rfl) (by simp) ?_
            refine AllReadyH.cons (o := ⟨some 103, _, _, _, _, _⟩) rfl (fun K hK => ?_) (AllReadyH.cons (o := ⟨some 108, _, _, _, _, _⟩) rfl (fun K hK => ?_) AllReadyH.nil)
            · go_simp
              go_at_call 16
              refine (errL_some HS3.out HCN.out).mono ?_
              rintro e we ⟨ff, rfl, hSF⟩
              have HSF := Lib.hid hSF; clear hSF g1 g2 g3
              have g1 := HSF.out.s2.rr.c1
              have g2 := fz1 HCN.out HSF.out.s2.rr.c2
              have g3 := HSF.out.s2.rr.c3
              go_wp2_with fail
              refine hK.out _ _ trivial (fun _ => ?_)
              clear hK K
              try simp only [Act.put, List.setIfInBounds_toArray, List.set_cons_zero, List.set_cons_succ]
              refine wpAnyH_ready (rs := [18, 22]) (by kernel_rfl) (by simp) ?_
              refine AllReadyH.cons (o := ⟨some 104, _, _, _, _, _⟩) rfl (fun K hK => ?_) (AllReadyH.cons (o := ⟨some 108, _, _, _, _, _⟩) rfl (fun K hK => ?_) AllReadyH.nil)
              · go_simp
                go_at_call 15
                refine (seenF_S2 HG.out HSF.out HA1.out HCN.out).mono ?_
                rintro e wg ⟨rfl, hS4⟩
                have HS4 := Lib.hid hS4; clear hS4 g1 g2 g3
                have g1 := HS4.out.rr.c1
                have g2 := fz1 HCN.out HS4.out.rr.c2
                have g3 := HS4.out.rr.c3
                go_wp2_with fail
                refine hK.out _ _ trivial (fun _ => ?_)
                clear hK K
                try simp only [Act.put, List.setIfInBounds_toArray, List.set_cons_zero, List.set_cons_succ]
                refine wpAnyH_ready (rs := [22]) (by kernel_rfl) (by simp) ?_
                refine AllReadyH.cons (o := ⟨some 108, _, _, _, _, _⟩) rfl (fun K hK => ?_) AllReadyH.nil
                go_simp
                refine hK.out _ _ trivial (fun _ => ?_)
                clear hK K
                try simp only [Act.put, List.setIfInBounds_toArray, List.set_cons_zero, List.set_cons_succ]
                refine wpAnyH_take (i := 23) (oi := ⟨some 109, _, _, _, _, _⟩) (v := ?_) rfl (by kernel_rfl) (by kernel_rfl) (by kernel_rfl) (fun _ _ _ h => h) (Or.inl ⟨by rfl, ?_⟩) trivial ?_
                rotate_left
                · intro w hSw; clear hSw; go_simp; try (with_reducible rfl)
                try simp only [Act.put, List.setIfInBounds_toArray, List.set_cons_zero, List.set_cons_succ]
                refine wpAnyH_take (i := 24) (oi := ⟨some 110, _, _, _, _, _⟩) (v := ?_) rfl (by kernel_rfl) (by kernel_rfl) (by kernel_rfl) (fun _ _ _ h => h) (Or.inl ⟨by rfl, ?_⟩) trivial ?_
                rotate_left
                · intro w hSw; clear hSw; go_simp; try (with_reducible rfl)
                try simp only [Act.put, List.setIfInBounds_toArray, List.set_cons_zero, List.set_cons_succ]
                refine wpAnyH_done (by kernel_rfl) ?_ _
                go_wp2
                go_roundw
                case rel => exact ⟨k + 1, _, _, by go_num, by omega, HAS.out, HS4.out⟩
                case measure => simp [intOf]; omega
              · go_simp
                refine hK.out _ _ trivial (fun _ => ?_)
                clear hK K
                try simp only [Act.put, List.setIfInBounds_toArray, List.set_cons_zero, List.set_cons_succ]
                refine wpAnyH_ready (rs := [18]) (by kernel_rfl) (by simp) ?_
                refine AllReadyH.cons (o := ⟨some 104, _, _, _, _, _⟩) rfl (fun K hK => ?_) AllReadyH.nil
                go_simp
                go_at_call 15
                refine (seenF_S2 HG.out HSF.out HA1.out HCN.out).mono ?_
                rintro e wg ⟨rfl, hS4⟩
                have HS4 := Lib.hid hS4; clear hS4 g1 g2 g3
                have g1 := HS4.out.rr.c1
                have g2 := fz1 HCN.out HS4.out.rr.c2
                have g3 := HS4.out.rr.c3
                go_wp2_with fail
                refine hK.out _ _ trivial (fun _ => ?_)
                clear hK K
                try simp only [Act.put, List.setIfInBounds_toArray, List.set_cons_zero, List.set_cons_succ]
                refine wpAnyH_take (i := 23) (oi := ⟨some 109, _, _, _, _, _⟩) (v := ?_) rfl (by kernel_rfl) (by kernel_rfl) (by kernel_rfl) (fun _ _ _ h => h) (Or.inl ⟨by rfl, ?_⟩) trivial ?_
                rotate_left
                · intro w hSw; clear hSw; go_simp; try (with_reducible rfl)
                try simp only [Act.put, List.setIfInBounds_toArray, List.set_cons_zero, List.set_cons_succ]
                refine wpAnyH_take (i := 24) (oi := ⟨some 110, _, _, _, _, _⟩) (v := ?_) rfl (by kernel_rfl) (by kernel_rfl) (by kernel_rfl) (fun _ _ _ h => h) (Or.inl ⟨by rfl, ?_⟩) trivial ?_
                rotate_left
                · intro w hSw; clear hSw; go_simp; try (with_reducible rfl)
                try simp only [Act.put, List.setIfInBounds_toArray, List.set_cons_zero, List.set_cons_succ]
                refine wpAnyH_done (by kernel_rfl) ?_ _
                go_wp2
                go_roundw
                case rel => exact ⟨k + 1, _, _, by go_num, by omega, HAS.out, HS4.out⟩
                case measure => simp [intOf]; omega
            · go_simp
              refine hK.out _ _ trivial (fun _ => ?_)
              clear hK K
              try simp only [Act.put, List.setIfInBounds_toArray, List.set_cons_zero, List.set_cons_succ]
              refine wpAnyH_ready (rs := [17]) (by kernel_rfl) (by simp) ?_
              refine AllReadyH.cons (o := ⟨some 103, _, _, _, _, _⟩) rfl (fun K hK => ?_) AllReadyH.nil
              go_simp
              go_at_call 16
              refine (errL_some HS3.out HCN.out).mono ?_
              rintro e we ⟨ff, rfl, hSF⟩
              have HSF := Lib.hid hSF; clear hSF g1 g2 g3
              have g1 := HSF.out.s2.rr.c1
              have g2 := fz1 HCN.out HSF.out.s2.rr.c2
              have g3 := HSF.out.s2.rr.c3
              go_wp2_with fail
              refine hK.out _ _ trivial (fun _ => ?_)
              clear hK K
              try simp only [Act.put, List.setIfInBounds_toArray, List.set_cons_zero, List.set_cons_succ]
              refine wpAnyH_ready (rs := [18]) (by kernel_rfl) (by simp) ?_
              refine AllReadyH.cons (o := ⟨some 104, _, _, _, _, _⟩) rfl (fun K hK => ?_) AllReadyH.nil
              go_simp
              go_at_call 15
              refine (seenF_S2 HG.out HSF.out HA1.out HCN.out).mono ?_
              rintro e wg ⟨rfl, hS4⟩
              have HS4 := Lib.hid hS4; clear hS4 g1 g2 g3
              have g1 := HS4.out.rr.c1
              have g2 := fz1 HCN.out HS4.out.rr.c2
              have g3 := HS4.out.rr.c3
              go_wp2_with fail
              refine hK.out _ _ trivial (fun _ => ?_)
              clear hK K
              try simp only [Act.put, List.setIfInBounds_toArray, List.set_cons_zero, List.set_cons_succ]
              refine wpAnyH_take (i := 23) (oi := ⟨some 109, _, _, _, _, _⟩) (v := ?_) rfl (by kernel_rfl) (by kernel_rfl) (by kernel_rfl) (fun _ _ _ h => h) (Or.inl ⟨by rfl, ?_⟩) trivial ?_
              rotate_left
              · intro w hSw; clear hSw; go_simp; try (with_reducible rfl)
              try simp only [Act.put, List.setIfInBounds_toArray, List.set_cons_zero, List.set_cons_succ]
              refine wpAnyH_take (i := 24) (oi := ⟨some 110, _, _, _, _, _⟩) (v := ?_) rfl (by kernel_rfl) (by kernel_rfl) (by kernel_rfl) (fun _ _ _ h => h) (Or.inl ⟨by rfl, ?_⟩) trivial ?_
              rotate_left
              · intro w hSw; clear hSw; go_simp; try (with_reducible rfl)
              try simp only [Act.put, List.setIfInBounds_toArray, List.set_cons_zero, List.set_cons_succ]
              refine wpAnyH_done (by kernel_rfl) ?_ _
              go_wp2
              go_roundw
              case rel => exact ⟨k + 1, _, _, by go_num, by omega, HAS.out, HS4.out⟩
              case measure => simp [intOf]; omega
          · go_simp
            refine hK.out _ _ trivial (fun _ => ?_)
            clear hK K
            try simp only [Act.put, List.setIfInBounds_toArray, List.set_cons_zero, List.set_cons_succ]
            refine wpAnyH_ready (rs := [8]) (by kernel_rfl) (by simp) ?_
            refine AllReadyH.cons (o := ⟨some 94, _, _, _, _, _⟩) rfl (fun K hK => ?_) AllReadyH.nil
            go_simp
            go_at_call 14
            refine (at_any r _ s _ _ HS3.out.rd).mono ?_
            rintro e wd ⟨rfl, rfl⟩
            go_wp2_with fail
            refine hK.out _ _ trivial (fun _ => ?_)
            clear hK K
            try simp only [Act.put, List.setIfInBounds_toArray, List.set_cons_zero, List.set_cons_succ]
            refine wpAnyH_take (i := 13) (oi := ⟨some 99, _, _, _, _, _⟩) (v := ?_) rfl (by kernel_rfl) (by kernel_rfl) (by kernel_rfl) (fun _ _ _ h => h) (Or.inl ⟨by rfl, ?_⟩) trivial ?_
            rotate_left
            · intro w hSw; clear hSw; go_simp; try (with_reducible rfl)
            try simp only [Act.put, List.setIfInBounds_toArray, List.set_cons_zero, List.set_cons_succ]
            refine wpAnyH_take (i := 14) (oi := ⟨some 100, _, _, _, _, _⟩) (v := ?_) rfl (by kernel_rfl) (by kernel_rfl) (by kernel_rfl) (fun _ _ _ h => h) (Or.inl ⟨by rfl, ?_⟩) trivial ?_
            rotate_left
            · intro w hSw; clear hSw; go_simp; try (with_reducible rfl)
            try simp only [Act.put, List.setIfInBounds_toArray, List.set_cons_zero, List.set_cons_succ]
            refine wpAnyH_take (i := 15) (oi := ⟨some 101, _, _, _, _, _⟩) (v := ?_) rfl (by kernel_rfl) (by kernel_rfl) (by kernel_rfl) (fun _ _ _ h => h) (Or.inl ⟨by rfl, ?_⟩) trivial ?_
            rotate_left
            · intro w hSw; clear hSw; go_simp; try (with_reducible rfl)
            try simp only [Act.put, List.setIfInBounds_toArray, List.set_cons_zero, List.set_cons_succ]
            refine wpAnyH_take (i := 16) (oi := ⟨some 102, _, _, _, _, _⟩) (v := ?_) rfl (by kernel_rfl) (by kernel_rfl) (by kernel_rfl) (fun _ _ _ h => h) (Or.inl ⟨by rfl, ?_⟩) trivial ?_
            rotate_left
            · intro w hSw; clear hSw; go_simp; try (with_reducible rfl)
            try simp only [Act.put, List.setIfInBounds_toArray, List.set_cons_zero, List.set_cons_succ]
            refine wpAnyH_take (i := 19) (oi := ⟨some 105, _, _, _, _, _⟩) (v := ?_) rfl (by kernel_rfl) (by kernel_rfl) (by kernel_rfl) (fun _ _ _ h => h) (Or.inl ⟨by rfl, ?_⟩) trivial ?_
            rotate_left
            · intro w hSw; clear hSw; go_simp; try (with_reducible rfl)
            try simp only [Act.put, List.setIfInBounds_toArray, List.set_cons_zero, List.set_cons_succ]
            refine wpAnyH_take (i := 20) (oi := ⟨some 106, _, _, _, _, _⟩) (v := ?_) rfl (by kernel_rfl) (by kernel_rfl) (by kernel_rfl) (fun _ _ _ h => h) (Or.inl ⟨by rfl, ?_⟩) trivial ?_
            rotate_left
            · intro w hSw; clear hSw; go_simp; try (with_reducible rfl)
            try simp only [Act.put, List.setIfInBounds_toArray, List.set_cons_zero, List.set_cons_succ]
            refine wpAnyH_take (i := 21) (oi := ⟨some 107, _, _, _, _, _⟩) (v := ?_) rfl (by kernel_rfl) (by kernel_rfl) (by kernel_rfl) (fun _ _ _ h => h) (Or.inl ⟨by rfl, ?_⟩) trivial ?_
            rotate_left
            · intro w hSw; clear hSw; go_simp; try (with_reducible rfl)
            try simp only [Act.put, List.setIfInBounds_toArray, List.set_cons_zero, List.set_cons_succ]
            refine wpAnyH_ready (rs := [17, 22]) (by kernel_rfl) (by simp) ?_
            refine AllReadyH.cons (o := ⟨some 103, _, _, _, _, _⟩) rfl (fun K hK => ?_) (AllReadyH.cons (o := ⟨some 108, _, _, _, _, _⟩) rfl (fun K hK => ?_) AllReadyH.nil)
            · go_simp
              go_at_call 16
              refine (errL_some HS3.out HCN.out).mono ?_
              rintro e we ⟨ff, rfl, hSF⟩
              have HSF := Lib.hid hSF; clear hSF g1 g2 g3
              have g1 := HSF.out.s2.rr.c1
              have g2 := fz1 HCN.out HSF.out.s2.rr.c2
              have g3 := HSF.out.s2.rr.c3
              go_wp2_with fail
              refine hK.out _ _ trivial (fun _ => ?_)
              clear hK K
              try simp only [Act.put, List.setIfInBounds_toArray, List.set_cons_zero, List.set_cons_succ]
              refine wpAnyH_ready (rs := [18, 22]) (by kernel_rfl) (by simp) ?_
              refine AllReadyH.cons (o := ⟨some 104, _, _, _, _, _⟩) rfl (fun K hK => ?_) (AllReadyH.cons (o := ⟨some 108, _, _, _, _, _⟩) rfl (fun K hK => ?_) AllReadyH.nil)
              · go_simp
                go_at_call 15
                refine (seenF_S2 HG.out HSF.out HA1.out HCN.out).mono ?_
                rintro e wg ⟨rfl, hS4⟩
                have HS4 := Lib.hid hS4; clear hS4 g1 g2 g3
                have g1 := HS4.out.rr.c1
                have g2 := fz1 HCN.out HS4.out.rr.c2
                have g3 := HS4.out.rr.c3
                go_wp2_with fail
                refine hK.out _ _ trivial (fun _ => ?_)
                clear hK K
                try simp only [Act.put, List.setIfInBounds_toArray, List.set_cons_zero, List.set_cons_succ]
                refine wpAnyH_ready (rs := [22]) (by kernel_rfl) (by simp) ?_
                refine AllReadyH.cons (o := ⟨some 108, _, _, _, _, _⟩) rfl (fun K hK => ?_) AllReadyH.nil
                go_simp
                refine hK.out _ _ trivial (fun _ => ?_)
                clear hK K
                try simp only [Act.put, List.setIfInBounds_toArray, List.set_cons_zero, List.set_cons_succ]
                refine wpAnyH_take (i := 23) (oi := ⟨some 109, _, _, _, _, _⟩) (v := ?_) rfl (by kernel_rfl) (by kernel_rfl) (by kernel_rfl) (fun _ _ _ h => h) (Or.inl ⟨by rfl, ?_⟩) trivial ?_
                rotate_left
                · intro w hSw; clear hSw; go_simp; try (with_reducible rfl)
                try simp only [Act.put, List.setIfInBounds_toArray, List.set_cons_zero, List.set_cons_succ]
                refine wpAnyH_take (i := 24) (oi := ⟨some 110, _, _, _, _, _⟩) (v := ?_) rfl (by kernel_rfl) (by kernel_rfl) (by kernel_rfl) (fun _ _ _ h => h) (Or.inl ⟨by rfl, ?_⟩) trivial ?_
                rotate_left
                · intro w hSw; clear hSw; go_simp; try (with_reducible rfl)
                try simp only [Act.put, List.setIfInBounds_toArray, List.set_cons_zero, List.set_cons_succ]
                refine wpAnyH_done (by kernel_rfl) ?_ _
                go_wp2
                go_roundw
                case rel => exact ⟨k + 1, _, _, by go_num, by omega, HAS.out, HS4.out⟩
                case measure => simp [intOf]; omega
              · go_simp
                refine hK.out _ _ trivial (fun _ => ?_)
                clear hK K
                try simp only [Act.put, List.setIfInBounds_toArray, List.set_cons_zero, List.set_cons_succ]
                refine wpAnyH_ready (rs := [18]) (by kernel_rfl) (by simp) ?_
                refine AllReadyH.cons (o := ⟨some 104, _, _, _, _, _⟩) rfl (fun K hK => ?_) AllReadyH.nil
                go_simp
                go_at_call 15
                refine (seenF_S2 HG.out HSF.out HA1.out HCN.out).mono ?_
                rintro e wg ⟨rfl, hS4⟩
                have HS4 := Lib.hid hS4; clear hS4 g1 g2 g3
                have g1 := HS4.out.rr.c1
                have g2 := fz1 HCN.out HS4.out.rr.c2
                have g3 := HS4.out.rr.c3
                go_wp2_with fail
                refine hK.out _ _ trivial (fun _ => ?_)
                clear hK K
                try simp only [Act.put, List.setIfInBounds_toArray, List.set_cons_zero, List.set_cons_succ]
                refine wpAnyH_take (i := 23) (oi := ⟨some 109, _, _, _, _, _⟩) (v := ?_) rfl (by kernel_rfl) (by kernel_rfl) (by kernel_rfl) (fun _ _ _ h => h) (Or.inl ⟨by rfl, ?_⟩) trivial ?_
                rotate_left
                · intro w hSw; clear hSw; go_simp; try (with_reducible rfl)
                try simp only [Act.put, List.setIfInBounds_toArray, List.set_cons_zero, List.set_cons_succ]
                refine wpAnyH_take (i := 24) (oi := ⟨some 110, _, _, _, _, _⟩) (v := ?_) rfl (by kernel_rfl) (by kernel_rfl) (by kernel_rfl) (fun _ _ _ h => h) (Or.inl ⟨by rfl, ?_⟩) trivial ?_
                rotate_left
                · intro w hSw; clear hSw; go_simp; try (with_reducible rfl)
                try simp only [Act.put, List.setIfInBounds_toArray, List.set_cons_zero, List.set_cons_succ]
                refine wpAnyH_done (by kernel_rfl) ?_ _
                go_wp2
                go_roundw
                case rel => exact ⟨k + 1, _, _, by go_num, by omega, HAS.out, HS4.out⟩
                case measure => simp [intOf]; omega
            · go_simp
              refine hK.out _ _ trivial (fun _ => ?_)
              clear hK K
              try simp only [Act.put, List.setIfInBounds_toArray, List.set_cons_zero, List.set_cons_succ]
              refine wpAnyH_ready (rs := [17]) (by kernel_rfl) (by simp) ?_
              refine AllReadyH.cons (o := ⟨some 103, _, _, _, _, _⟩) rfl (fun K hK => ?_) AllReadyH.nil
              go_simp
              go_at_call 16
              refine (errL_some HS3.out HCN.out).mono ?_
              rintro e we ⟨ff, rfl, hSF⟩
              have HSF := Lib.hid hSF; clear hSF g1 g2 g3
              have g1 := HSF.out.s2.rr.c1
              have g2 := fz1 HCN.out HSF.out.s2.rr.c2
              have g3 := HSF.out.s2.rr.c3
              go_wp2_with fail
              refine hK.out _ _ trivial (fun _ => ?_)
              clear hK K
              try simp only [Act.put, List.setIfInBounds_toArray, List.set_cons_zero, List.set_cons_succ]
              refine wpAnyH_ready (rs := [18]) (by kernel_rfl) (by simp) ?_
              refine AllReadyH.cons (o := ⟨some 104, _, _, _, _, _⟩) rfl (fun K hK => ?_) AllReadyH.nil
              go_simp
              go_at_call 15
              refine (seenF_S2 HG.out HSF.out HA1.out HCN.out).mono ?_
              rintro e wg ⟨rfl, hS4⟩
              have HS4 := Lib.hid hS4; clear hS4 g1 g2 g3
              have g1 := HS4.out.rr.c1
              have g2 := fz1 HCN.out HS4.out.rr.c2
              have g3 := HS4.out.rr.c3
              go_wp2_with fail
              refine hK.out _ _ trivial (fun _ => ?_)
              clear hK K
              try simp only [Act.put, List.setIfInBounds_toArray, List.set_cons_zero, List.set_cons_succ]
              refine wpAnyH_take (i := 23) (oi := ⟨some 109, _, _, _, _, _⟩) (v := ?_) rfl (by kernel_rfl) (by kernel_rfl) (by kernel_rfl) (fun _ _ _ h => h) (Or.inl ⟨by rfl, ?_⟩) trivial ?_
              rotate_left
              · intro w hSw; clear hSw; go_simp; try (with_reducible rfl)
              try simp only [Act.put, List.setIfInBounds_toArray, List.set_cons_zero, List.set_cons_succ]
              refine wpAnyH_take (i := 24) (oi := ⟨some 110, _, _, _, _, _⟩) (v := ?_) rfl (by kernel_rfl) (by kernel_rfl) (by kernel_rfl) (fun _ _ _ h => h) (Or.inl ⟨by rfl, ?_⟩) trivial ?_
              rotate_left
              · intro w hSw; clear hSw; go_simp; try (with_reducible rfl)
              try simp only [Act.put, List.setIfInBounds_toArray, List.set_cons_zero, List.set_cons_succ]
              refine wpAnyH_done (by kernel_rfl) ?_ _
              go_wp2
              go_roundw
              case rel => exact ⟨k + 1, _, _, by go_num, by omega, HAS.out, HS4.out⟩
              case measure => simp [intOf]; omega
      · have hkk : (2 : Int) ≤ k := by omega
        go_wp2
        go_ret
        exact ⟨rfl, HSr.out.bel⟩
end Go.Proofs.YtgcmlefalilodaaDoor
