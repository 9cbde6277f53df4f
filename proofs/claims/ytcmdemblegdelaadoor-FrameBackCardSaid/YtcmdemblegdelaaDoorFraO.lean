/-
  The walk of the law FrameReads.
  Conditions: package errors' own variable holds the handle of the type error.
-/
import Derived.Test.YtcmdemblegdelaaDoorFraN
import Derived.OpenShut
import Derived.Deep.RegionHeld3
import Derived.Deep.RegionWith
namespace Go.Proofs.YtcmdemblegdelaaDoor
open Go.RowKit

theorem from_any (k : Int) (l : ByteArray) (w : World) :
    Calls Tryd.prog 13 #[.agg #[.int .i64 k, .string l]] w fun e w' => e = .returned (.agg #[.int .i64 k, .string l]) ∧ Below w.heap.size w w' := by
  go_enter Tryd.func13, Tryd.ntmps13
  go_wp2
  refine bodyPost_ret (v := .agg #[.int .i64 k, .string l]) (by simp [results, Tryd.results13, go_sem]) rfl ⟨rfl, ?_⟩
  exact ((Below.refl _ _).alloc (Nat.le_refl _) _).alloc (by simp) _

theorem yAt_le {s : ByteArray} (hs : s.size ≤ 1048576) : yAt s ≤ 1048576 := by
  have := xAt_le s
  unfold yAt
  split
  · split <;> omega
  · omega
theorem allR_le (s : ByteArray) : ∀ (n a : Nat), a ≤ s.size → (allR s n a).2 ≤ s.size ∧ (allR s n a).1.length + a ≤ s.size
  | 0, a, h => ⟨h, by simp [allR]; exact h⟩
  | n + 1, a, h => by
    by_cases hx : a < s.size ∧ xC (rest s a) = 0
    · have h1 := xN_le hx.2
      have h2 := rest_size h
      have h3 := allR_le s n (a + xN (rest s a)) (by omega)
      rw [allR, if_pos hx]
      exact ⟨h3.1, by simp; omega⟩
    · rw [allR, if_neg hx]
      exact ⟨h, by simp; exact h⟩
theorem FE_le (s : ByteArray) : FE s ≤ s.size := (allR_le s s.size 0 (Nat.zero_le _)).1
theorem FL_le {s : ByteArray} (hs : s.size ≤ 1048576) : (FL s).length ≤ 1048576 := by
  have := (allR_le s s.size 0 (Nat.zero_le _)).2
  unfold FL; omega
theorem eA_le {s : ByteArray} (hs : s.size ≤ 9000) : eA s ≤ 1048576 := by
  have h1 := FE_le s
  have h2 := xAt_le (rest s (FE s))
  have h3 := rest_le (s := s) (a := FE s)
  unfold eA
  split <;> omega

/-- What both sides have told stands in three blocks of the law's own and in an error value. -/
structure RS (W : World) (b3 b6 b8 : Nat) (k : Int) (l : ByteArray) (v : Value) (a : Nat) (c : Int) (w : World) : Prop where
  fr : Blk w b3 (fcs k l) 28
  rf : Blk w b6 (fcs k l) 23
  fa : Blk w b8 (ecs (a : Int) c) 34
  er : IsErr w v a c
  bel : Below W.heap.size W w
  h8 : W.heap.size ≤ b8
  hg : Handle W
  ha : a ≤ 1048576

section
variable {W w : World} {b3 b6 b8 : Nat} {k : Int} {l : ByteArray} {v : Value} {a : Nat} {c : Int}
theorem RS.drew (h : RS W b3 b6 b8 k l v a c w) : RS W b3 b6 b8 k l v a c w.drew :=
  ⟨h.fr, h.rf, h.fa, h.er, h.bel.drew, h.h8, h.hg, h.ha⟩
theorem RS.below {w2 : World} (h : RS W b3 b6 b8 k l v a c w) (b : Below w.heap.size w w2) : RS W b3 b6 b8 k l v a c w2 :=
  ⟨Blk.below h.fr b, Blk.below h.rf b, Blk.below h.fa b, h.er.below b, below_then h.bel b, h.h8, h.hg, h.ha⟩
/-- The cells, and all. -/
theorem RS.all (h : RS W b3 b6 b8 k l v a c w) : w.cell? ⟨b3, 0, none⟩ = some (.int .i64 k) ∧ w.cell? ⟨b3, 1, none⟩ = some (.string l) ∧ w.cell? ⟨b6, 0, none⟩ = some (.int .i64 k) ∧ w.cell? ⟨b6, 1, none⟩ = some (.string l) ∧
    w.cell? ⟨b8, 0, none⟩ = some (.int .i64 (a : Int)) ∧ w.cell? ⟨b8, 1, none⟩ = some (.int .i64 c) ∧ RS W b3 b6 b8 k l v a c w := ⟨fcs0 h.fr, fcs1 h.fr, fcs0 h.rf, fcs1 h.rf, ecs0 h.fa, ecs1 h.fa, h⟩
theorem RS.held {A B C D E F : Prop} (h : A ∧ B ∧ C ∧ D ∧ E ∧ F ∧ RS W b3 b6 b8 k l v a c w) : RS W b3 b6 b8 k l v a c w := h.2.2.2.2.2.2
theorem from_RS (h : RS W b3 b6 b8 k l v a c w) :
    Calls Tryd.prog 13 #[.agg #[.int .i64 k, .string l]] w fun e w' => e = .returned (.agg #[.int .i64 k, .string l]) ∧ RS W b3 b6 b8 k l v a c w' :=
  (from_any k l w).mono fun _ _ ⟨h1, h2⟩ => ⟨h1, h.below h2⟩
theorem seen_RS (h : RS W b3 b6 b8 k l v a c w) :
    Calls Tryd.prog 10 #[v] w fun e w' => e = .returned (.agg #[.int .i64 (a : Int), .int .i64 c]) ∧ RS W b3 b6 b8 k l v a c w' :=
  (seen_is (h.hg.below h.bel h.hg.lt) h.er h.ha).mono fun _ _ ⟨h1, h2⟩ => ⟨h1, h.below h2⟩
end

theorem rs_start {W w1 w2 : World} {v : Value} {k : Int} {l : ByteArray} {a : Nat} {c : Int} (hg : Handle W) (ha : a ≤ 1048576) (he : IsErr w1 v a c) (b1 : Below W.heap.size W w1)
    (b2 : Below (w1.alloc (.cells #[.int .i64 k, .string l] 28)).heap.size (w1.alloc (.cells #[.int .i64 k, .string l] 28)) w2) :
    RS W w1.heap.size w2.heap.size (w2.heap.size + 1) k l v a c ((w2.alloc (.cells #[.int .i64 k, .string l] 23)).alloc (.cells #[.int .i64 (a : Int), .int .i64 c] 34)) := by
  have z1 := b1.size
  have z2 := b2.size
  simp at z2
  have e1 : Below w1.heap.size w1 w2 := below_then ((Below.refl _ _).alloc (Nat.le_refl _) _) b2
  refine ⟨(Blk.alloc (Blk.below (Blk.new w1 _ _) b2) _).alloc _, (Blk.new w2 _ _).alloc _, ?_, (he.below e1).below (((Below.refl _ _).alloc (Nat.le_refl _) _).alloc (by simp) _), below_new (below_new (below_then b1 e1) _) _, by omega, hg, ha⟩
  have := Blk.new (w2.alloc (.cells #[.int .i64 k, .string l] 23)) #[.int .i64 (a : Int), .int .i64 c] 34
  simpa [ecs] using this

/-- An error value stands when another block is written. -/
theorem er_set {w3 w4 : World} {v2 : Value} {a2 b8 : Nat} {c2 : Int} {x y : Value} {o : Obj} (he : IsErr w3 v2 a2 c2) (e1 : Below w3.heap.size w3 w4) (hf : ∀ f x, Blk w3 f x 58 → f ≠ b8) :
    IsErr (((w4.setCell ⟨b8, 0, none⟩ x).setCell ⟨b8, 1, none⟩ y).alloc o) v2 a2 c2 := by
  rcases he with h | ⟨hc, f, e, h⟩ | ⟨hc, f, g, a1, a2, ha, e, h1, h2⟩
  · exact .inl h
  · exact .inr (.inl ⟨hc, f, e, Blk.alloc (Blk.far2 (Blk.below h e1) (hf f _ h) _ _) _⟩)
  · exact .inr (.inr ⟨hc, f, g, a1, a2, ha, e, Blk.alloc (Blk.far2 (Blk.below h1 e1) (hf f _ h1) _ _) _, Blk.alloc (Blk.far2 (Blk.below h2 e1) (hf g _ h2) _ _) _⟩)
theorem er_set0 {w3 w4 : World} {v2 : Value} {a2 b8 : Nat} {c2 : Int} {x y : Value} (he : IsErr w3 v2 a2 c2) (e1 : Below w3.heap.size w3 w4) (hf : ∀ f x, Blk w3 f x 58 → f ≠ b8) :
    IsErr ((w4.setCell ⟨b8, 0, none⟩ x).setCell ⟨b8, 1, none⟩ y) v2 a2 c2 := by
  rcases he with h | ⟨hc, f, e, h⟩ | ⟨hc, f, g, a1, a2, ha, e, h1, h2⟩
  · exact .inl h
  · exact .inr (.inl ⟨hc, f, e, Blk.far2 (Blk.below h e1) (hf f _ h) _ _⟩)
  · exact .inr (.inr ⟨hc, f, g, a1, a2, ha, e, Blk.far2 (Blk.below h1 e1) (hf f _ h1) _ _, Blk.far2 (Blk.below h2 e1) (hf g _ h2) _ _⟩)
/-- Blocks of two types are two. -/
theorem blk_ne {w : World} {b g : Nat} {x y : Array Value} {T U : TypeId} (h : Blk w b x T) (k : Blk w g y U) (hT : T ≠ U) : b ≠ g := by
  intro e
  subst e
  have := Option.some.inj (h.symm.trans k)
  simp only [Obj.cells.injEq] at this
  exact hT this.2.1

/-- A row of the call's own: its value's shape, and its cells. -/
def FrAt (w : World) (al : Option Addr) (i k : Nat) (l : ByteArray) : Prop := ∃ g, al = some ⟨g, 0, none⟩ ∧ w.cell? ⟨g, i * 2, none⟩ = some (.int .i64 (k : Int)) ∧ w.cell? ⟨g, i * 2 + 1, none⟩ = some (.string l)
def FrAll (w : World) (al : Option Addr) (L : List (Nat × ByteArray)) : Prop := ∀ i (h : i < L.length), FrAt w al i L[i].1 L[i].2
theorem FrAll.below {w w' : World} {al : Option Addr} {L : List (Nat × ByteArray)} (h : FrAll w al L) (b : Below w.heap.size w w') : FrAll w' al L := by
  intro i hi
  obtain ⟨g, e, c0, c1⟩ := h i hi
  exact ⟨g, e, (b.cell (p := ⟨g, i * 2, none⟩) (block_lt_of_cell c0)).trans c0, (b.cell (p := ⟨g, i * 2 + 1, none⟩) (block_lt_of_cell c1)).trans c1⟩
theorem own_all {w : World} {B e : Nat} {v : Value} {L : List (Nat × ByteArray)} (h : w.ownsRow B e 2 v L.length (fcells L)) : ∃ al cap, v = .slice al L.length cap ∧ FrAll w al L := by
  rcases h.2 with ⟨h1, h2⟩ | ⟨g, cap, cur, rfl, h2, h3, h4⟩
  · exact ⟨none, 0, by rw [h1, h2], fun i hi => by omega⟩
  · have hr : w.ownsRow B e 2 (.slice (some ⟨g, 0, none⟩) L.length cap) L.length (fcells L) := ⟨h.1, .inr ⟨g, cap, cur, rfl, h2, h3, h4⟩⟩
    refine ⟨_, cap, rfl, fun i hi => ⟨g, rfl, ?_, ?_⟩⟩
    · rw [hr.cellAt (i * 2) (by omega), (fcells_get hi).1]
    · rw [hr.cellAt (i * 2 + 1) (by omega), (fcells_get hi).2]

/-- What both Alls have told. -/
structure RA (W : World) (b8 : Nat) (al1 al2 : Option Addr) (L : List (Nat × ByteArray)) (v : Value) (a : Nat) (c : Int) (w : World) : Prop where
  r1 : FrAll w al1 L
  r2 : FrAll w al2 L
  fa : Blk w b8 (ecs (a : Int) c) 34
  er : IsErr w v a c
  bel : Below W.heap.size W w
  hg : Handle W
  ha : a ≤ 1048576
section
variable {W w : World} {b8 : Nat} {al1 al2 : Option Addr} {L : List (Nat × ByteArray)} {v : Value} {a : Nat} {c : Int}
theorem RA.below {w2 : World} (h : RA W b8 al1 al2 L v a c w) (b : Below w.heap.size w w2) : RA W b8 al1 al2 L v a c w2 :=
  ⟨h.r1.below b, h.r2.below b, Blk.below h.fa b, h.er.below b, below_then h.bel b, h.hg, h.ha⟩
theorem RA.drew (h : RA W b8 al1 al2 L v a c w) : RA W b8 al1 al2 L v a c w.drew := h.below (Below.refl _ _).drew
theorem RA.all (h : RA W b8 al1 al2 L v a c w) : w.cell? ⟨b8, 0, none⟩ = some (.int .i64 (a : Int)) ∧ w.cell? ⟨b8, 1, none⟩ = some (.int .i64 c) ∧ RA W b8 al1 al2 L v a c w := ⟨ecs0 h.fa, ecs1 h.fa, h⟩
theorem RA.held {A B : Prop} (h : A ∧ B ∧ RA W b8 al1 al2 L v a c w) : RA W b8 al1 al2 L v a c w := h.2.2
theorem RA.row {g1 g2 i : Nat} (h : RA W b8 (some ⟨g1, 0, none⟩) (some ⟨g2, 0, none⟩) L v a c w) (hi : i < L.length) :
    w.cell? ⟨g1, i * 2, none⟩ = some (.int .i64 ((L[i].1 : Nat) : Int)) ∧ w.cell? ⟨g1, i * 2 + 1, none⟩ = some (.string L[i].2) ∧ w.cell? ⟨g2, i * 2, none⟩ = some (.int .i64 ((L[i].1 : Nat) : Int)) ∧ w.cell? ⟨g2, i * 2 + 1, none⟩ = some (.string L[i].2) ∧ RA W b8 (some ⟨g1, 0, none⟩) (some ⟨g2, 0, none⟩) L v a c w := by
  obtain ⟨g, e, c0, c1⟩ := h.r1 i hi
  obtain ⟨g', e', d0, d1⟩ := h.r2 i hi
  simp only [Option.some.injEq, Addr.mk.injEq, and_true] at e e'
  subst e e'
  exact ⟨c0, c1, d0, d1, h⟩
theorem RA.held4 {A B C D : Prop} (h : A ∧ B ∧ C ∧ D ∧ RA W b8 al1 al2 L v a c w) : RA W b8 al1 al2 L v a c w := h.2.2.2.2
theorem seen_RA (h : RA W b8 al1 al2 L v a c w) :
    Calls Tryd.prog 10 #[v] w fun e w' => e = .returned (.agg #[.int .i64 (a : Int), .int .i64 c]) ∧ RA W b8 al1 al2 L v a c w' :=
  (seen_is (h.hg.below h.bel h.hg.lt) h.er h.ha).mono fun _ _ ⟨h1, h2⟩ => ⟨h1, h.below h2⟩
theorem from_RA (k : Nat) (l : ByteArray) (h : RA W b8 al1 al2 L v a c w) :
    Calls Tryd.prog 13 #[.agg #[.int .i64 (k : Int), .string l]] w fun e w' => e = .returned (.agg #[.int .i64 (k : Int), .string l]) ∧ RA W b8 al1 al2 L v a c w' :=
  (from_any k l w).mono fun _ _ ⟨h1, h2⟩ => ⟨h1, h.below h2⟩
end
/-- What lies in the law's blocks between the two sides' Reads. -/
theorem rs_old {W wz w3 w4 : World} {b3 b6 b8 : Nat} {k k2 : Int} {l l2 : ByteArray} {v : Value} {a : Nat} {c : Int} (h : RS W b3 b6 b8 k l v a c wz) (b1 : Below wz.heap.size wz w3)
    (b2 : Below (w3.alloc (.cells #[.int .i64 k2, .string l2] 28)).heap.size (w3.alloc (.cells #[.int .i64 k2, .string l2] 28)) w4) : Blk w4 b8 (ecs (a : Int) c) 34 :=
  Blk.below (Blk.alloc (Blk.below h.fa b1) _) b2
theorem rs_next {W wz w3 w4 : World} {b3 b6 b8 : Nat} {k k2 : Int} {l l2 : ByteArray} {v v2 : Value} {a a2 : Nat} {c c2 : Int} (h : RS W b3 b6 b8 k l v a c wz) (b1 : Below wz.heap.size wz w3) (ha : a2 ≤ 1048576) (he : IsErr w3 v2 a2 c2)
    (b2 : Below (w3.alloc (.cells #[.int .i64 k2, .string l2] 28)).heap.size (w3.alloc (.cells #[.int .i64 k2, .string l2] 28)) w4) :
    RS W w3.heap.size w4.heap.size b8 k2 l2 v2 a2 c2 (((w4.setCell ⟨b8, 0, none⟩ (.int .i64 (a2 : Int))).setCell ⟨b8, 1, none⟩ (.int .i64 c2)).alloc (.cells #[.int .i64 k2, .string l2] 23)) := by
  have z2 := b2.size
  simp at z2
  have z8 := Blk.lt (Blk.below h.fa b1)
  have e1 : Below w3.heap.size w3 w4 := below_then ((Below.refl _ _).alloc (Nat.le_refl _) _) b2
  have e2 : Below W.heap.size W w4 := below_then (below_then h.bel b1) e1
  have z4 := e2.size
  have hb := rs_old h b1 b2
  refine ⟨Blk.alloc (Blk.far2 (Blk.below (Blk.new w3 _ _) b2) (show w3.heap.size ≠ b8 by omega) _ _) _, ?_, Blk.alloc (Blk.put2e hb) _, ?_, (((e2.setCell h.h8 _).setCell h.h8 _).alloc (by simp [World.setCell]; omega) _), h.h8, h.hg, ha⟩
  · have := Blk.new ((w4.setCell ⟨b8, 0, none⟩ (.int .i64 (a2 : Int))).setCell ⟨b8, 1, none⟩ (.int .i64 c2)) #[.int .i64 k2, .string l2] 23
    simpa [World.setCell, fcs] using this
  · exact er_set he e1 (fun f x k => blk_ne k (Blk.below h.fa b1) (by decide))

theorem ra_start {W wz w5 w6 : World} {b3 b6 b8 T U : Nat} {k : Int} {l : ByteArray} {v v3 lv lw : Value} {a a3 : Nat} {c c3 : Int} {L : List (Nat × ByteArray)} (h : RS W b3 b6 b8 k l v a c wz) (b5 : Below wz.heap.size wz w5)
    (o1 : w5.ownsRow wz.heap.size T 2 lv L.length (fcells L)) (ha : a3 ≤ 1048576) (he : IsErr w5 v3 a3 c3) (b6 : Below w5.heap.size w5 w6) (o2 : w6.ownsRow w5.heap.size U 2 lw L.length (fcells L)) :
    ∃ al1 cap1 al2 cap2, lv = .slice al1 L.length cap1 ∧ lw = .slice al2 L.length cap2 ∧ RA W b8 al1 al2 L v3 a3 c3 ((w6.setCell ⟨b8, 0, none⟩ (.int .i64 (a3 : Int))).setCell ⟨b8, 1, none⟩ (.int .i64 c3)) := by
  have z8 := Blk.lt h.fa
  have z5 := b5.size
  obtain ⟨al1, cap1, e1, f1⟩ := own_all (own_set (own_set (own_below o1 b6) z8 0 (.int .i64 (a3 : Int))) z8 1 (.int .i64 c3))
  obtain ⟨al2, cap2, e2, f2⟩ := own_all (own_set (own_set o2 (show b8 < w5.heap.size by omega) 0 (.int .i64 (a3 : Int))) (show b8 < w5.heap.size by omega) 1 (.int .i64 c3))
  exact ⟨al1, cap1, al2, cap2, e1, e2, f1, f2, Blk.put2e (Blk.below (Blk.below h.fa b5) b6), er_set0 he b6 (fun f x k => blk_ne k (Blk.below h.fa b5) (by decide)), ((below_then (below_then h.bel b5) b6).setCell h.h8 _).setCell h.h8 _, h.hg, ha⟩

set_option maxRecDepth 100000 in
set_option maxHeartbeats 2000000 in
theorem reads_core (s : ByteArray) (w : World) (hg : Handle w) (hs : s.size ≤ 9000) :
    Calls Tryd.prog 4 #[.string s] w fun e w' => e = .returned (.bool true) ∧ Below w.heap.size w w' := by
  have HS : Hid (s.size ≤ 1048576) := Lib.hid (by omega)
  have HG := Lib.hid hg; clear hg
  have HXA : Hid (xAt s ≤ 1048576) := Lib.hid (Nat.le_trans (xAt_le s) HS.out)
  have HYA : Hid (yAt s ≤ 1048576) := Lib.hid (yAt_le HS.out)
  have HEA : Hid (eA s ≤ 1048576) := Lib.hid (eA_le hs)
  have HLN : Hid ((FL s).length ≤ 1048576) := Lib.hid (FL_le HS.out)
  go_enter Tryd.func4, Tryd.ntmps4
  go_wp2_with fail
  refine (next_any s _ HS.out).mono ?_
  rintro e w1 ⟨v1, rfl, he1, b1⟩
  have HE1 := Lib.hid he1; clear he1
  have HB1 := Lib.hid b1; clear b1
  go_wp2_with fail
  refine (rnext_any s _ HS.out).mono ?_
  rintro e w2 ⟨rfl, b2⟩
  have hR := rs_start HG.out HXA.out HE1.out HB1.out b2
  clear b2 HE1 HB1
  go_wp2
  go_region_held3 (fun w' => w'.cell? ⟨w1.heap.size, 0, none⟩ = some (.int .i64 (xK s : Int)) ∧ w'.cell? ⟨w1.heap.size, 1, none⟩ = some (.string (xL s)) ∧ w'.cell? ⟨w2.heap.size, 0, none⟩ = some (.int .i64 (xK s : Int)) ∧ w'.cell? ⟨w2.heap.size, 1, none⟩ = some (.string (xL s)) ∧ w'.cell? ⟨w2.heap.size + 1, 0, none⟩ = some (.int .i64 (xAt s : Int)) ∧ w'.cell? ⟨w2.heap.size + 1, 1, none⟩ = some (.int .i64 (xC s)) ∧ RS w w1.heap.size w2.heap.size (w2.heap.size + 1) (xK s) (xL s) v1 (xAt s) (xC s) w') (first | exact RS.all (by assumption) | exact RS.all (RS.drew (by assumption))) (first | (go_at_call 13; refine (from_RS (W := w) (b3 := w1.heap.size) (b6 := w2.heap.size) (b8 := w2.heap.size + 1) (k := xK s) (l := xL s) (v := v1) (a := xAt s) (c := xC s) (by first | assumption | exact RS.held (by assumption))).mono ?_; rintro e wf ⟨rfl, hR1⟩) | (go_at_call 10; refine (seen_RS (W := w) (b3 := w1.heap.size) (b6 := w2.heap.size) (b8 := w2.heap.size + 1) (k := xK s) (l := xL s) (v := v1) (a := xAt s) (c := xC s) (by first | assumption | exact RS.held (by assumption))).mono ?_; rintro e wz ⟨rfl, hR2⟩))
  clear hR
  have hz : RS w w1.heap.size w2.heap.size (w2.heap.size + 1) (xK s) (xL s) v1 (xAt s) (xC s) wz := by assumption
  clear hR2
  have HR2 := Lib.hid hz; clear hz
  go_wp2_with fail
  refine (read_any s _ HS.out).mono ?_
  rintro e w3 ⟨v2, rfl, he3, b3⟩
  have HE3 := Lib.hid he3; clear he3
  have HB3 := Lib.hid b3; clear b3
  go_wp2_with fail
  refine (rread_any s _ HS.out).mono ?_
  rintro e w4 ⟨rfl, b4⟩
  have hR3 := rs_next HR2.out HB3.out HYA.out HE3.out b4
  have hq := rs_old HR2.out HB3.out b4
  have hlt := Blk.lt hq
  have q0 := ecs0 hq
  have q1 := ecs1 hq
  have g0 := Blk.free hq 0
  have g1 := Blk.free hq 1
  clear hq b4 HE3 HB3 HR2
  go_wp2
  clear q0 q1 g0 g1
  go_region_held3 (fun w' => w'.cell? ⟨w3.heap.size, 0, none⟩ = some (.int .i64 (yK s : Int)) ∧ w'.cell? ⟨w3.heap.size, 1, none⟩ = some (.string (yL s)) ∧ w'.cell? ⟨w4.heap.size, 0, none⟩ = some (.int .i64 (yK s : Int)) ∧ w'.cell? ⟨w4.heap.size, 1, none⟩ = some (.string (yL s)) ∧ w'.cell? ⟨w2.heap.size + 1, 0, none⟩ = some (.int .i64 (yAt s : Int)) ∧ w'.cell? ⟨w2.heap.size + 1, 1, none⟩ = some (.int .i64 (yC s)) ∧ RS w w3.heap.size w4.heap.size (w2.heap.size + 1) (yK s) (yL s) v2 (yAt s) (yC s) w') (first | exact RS.all (by assumption) | exact RS.all (RS.drew (by assumption))) (first | (go_at_call 13; refine (from_RS (W := w) (b3 := w3.heap.size) (b6 := w4.heap.size) (b8 := w2.heap.size + 1) (k := yK s) (l := yL s) (v := v2) (a := yAt s) (c := yC s) (by first | assumption | exact RS.held (by assumption))).mono ?_; rintro e wf2 ⟨rfl, hR4⟩) | (go_at_call 10; refine (seen_RS (W := w) (b3 := w3.heap.size) (b6 := w4.heap.size) (b8 := w2.heap.size + 1) (k := yK s) (l := yL s) (v := v2) (a := yAt s) (c := yC s) (by first | assumption | exact RS.held (by assumption))).mono ?_; rintro e wy ⟨rfl, hR5⟩))
  have hy : RS w w3.heap.size w4.heap.size (w2.heap.size + 1) (yK s) (yL s) v2 (yAt s) (yC s) wy := by assumption
  clear hR3 hR5
  have HR3 := Lib.hid hy; clear hy
  go_wp2_with fail
  refine (all_any s _ HS.out).mono ?_
  rintro e w5 ⟨lv, v3, rfl, o1, he5, b5⟩
  have HE5 := Lib.hid he5; clear he5
  have HB5 := Lib.hid b5; clear b5
  have HO1 := Lib.hid o1; clear o1
  go_wp2_with fail
  refine (rall_any s _ HS.out).mono ?_
  rintro e w6 ⟨lw, rfl, o2, b6⟩
  obtain ⟨al1, cap1, al2, cap2, rfl, rfl, hA⟩ := ra_start HR3.out HB5.out HO1.out HEA.out HE5.out b6 o2
  have hq := Blk.below (Blk.below HR3.out.fa HB5.out) b6
  have q0 := ecs0 hq
  have q1 := ecs1 hq
  have g0 := Blk.free hq 0
  have g1 := Blk.free hq 1
  clear hq b6 o2 HO1 HE5 HB5 HR3
  go_wp2
  clear q0 q1 g0 g1
  go_region_held3 (fun w' => w'.cell? ⟨w2.heap.size + 1, 0, none⟩ = some (.int .i64 (eA s : Int)) ∧ w'.cell? ⟨w2.heap.size + 1, 1, none⟩ = some (.int .i64 (eC s)) ∧ RA w (w2.heap.size + 1) al1 al2 (FL s) v3 (eA s) (eC s) w') (first | exact RA.all (by assumption) | exact RA.all (RA.drew (by assumption))) (first | (go_at_call 10; refine (seen_RA (W := w) (b8 := w2.heap.size + 1) (al1 := al1) (al2 := al2) (L := FL s) (v := v3) (a := eA s) (c := eC s) (by first | assumption | exact RA.held (by assumption))).mono ?_; rintro e wx ⟨rfl, hA2⟩))
  have hx : RA w (w2.heap.size + 1) al1 al2 (FL s) v3 (eA s) (eC s) wx := by assumption
  clear hA hA2
  go_wp2
  go_loopw [13] (fun i wr => ∃ m : Nat, m ≤ (FL s).length ∧ i = .int .i64 (m : Int) ∧ RA w (w2.heap.size + 1) al1 al2 (FL s) v3 (eA s) (eC s) wr) (fun i _ => ((FL s).length - intOf i).toNat)
  case atStart => exact ⟨0, Nat.zero_le _, rfl, hx⟩
  case round =>
    obtain ⟨m, hm, rfl, hA⟩ := hrel
    clear hx
    by_cases hml : m < (FL s).length
    · have hml1 : (m : Int) < (FL s).length := by omega
      obtain ⟨g1, rfl, _⟩ := hA.r1 m hml
      obtain ⟨g2, rfl, _⟩ := hA.r2 m hml
      have hlen := HLN.out
      have hw : IntKind.i64.wrap ((m : Int) + 1) = (m : Int) + 1 := by rw [IntKind.wrap_i64]; omega
      go_wp2
      go_region_held3 (fun w' => w'.cell? ⟨g1, m * 2, none⟩ = some (.int .i64 (((FL s)[m].1 : Nat) : Int)) ∧ w'.cell? ⟨g1, m * 2 + 1, none⟩ = some (.string (FL s)[m].2) ∧ w'.cell? ⟨g2, m * 2, none⟩ = some (.int .i64 (((FL s)[m].1 : Nat) : Int)) ∧ w'.cell? ⟨g2, m * 2 + 1, none⟩ = some (.string (FL s)[m].2) ∧ RA w (w2.heap.size + 1) (some ⟨g1, 0, none⟩) (some ⟨g2, 0, none⟩) (FL s) v3 (eA s) (eC s) w') (first | exact RA.row (by assumption) hml | exact RA.row (RA.drew (by assumption)) hml) (first | (go_at_call 13; refine (from_RA (W := w) (b8 := w2.heap.size + 1) (al1 := some ⟨g1, 0, none⟩) (al2 := some ⟨g2, 0, none⟩) (L := FL s) (v := v3) (a := eA s) (c := eC s) (FL s)[m].1 (FL s)[m].2 (by first | assumption | exact RA.held4 (by assumption))).mono ?_; rintro e wq ⟨rfl, hA3⟩))
      all_goals
        go_wp2
        go_roundw
        case rel => exact ⟨m + 1, by omega, by go_num, by assumption⟩
        case measure => simp [intOf]; omega
    · have hml1 : ((FL s).length : Int) ≤ m := by omega
      go_wp2
      go_ret
      exact ⟨rfl, hA.bel⟩

theorem frameReads_walk (s : ByteArray) (w : World) (hg : Handle w) (hs : s.size ≤ maxLen) :
    Calls Tryd.prog 4 #[.string s] w fun e w' => e = .returned (.bool true) ∧ Below w.heap.size w w' := by
  unfold maxLen at hs
  by_cases h : 9000 < s.size
  · go_enter Tryd.func4, Tryd.ntmps4
    go_wp2
    go_ret
    exact ⟨rfl, Below.refl _ _⟩
  · exact reads_core s w hg (by omega)
end Go.Proofs.YtcmdemblegdelaaDoor
