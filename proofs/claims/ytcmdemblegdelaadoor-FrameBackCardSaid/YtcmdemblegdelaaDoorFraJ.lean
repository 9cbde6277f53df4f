/-
  What Read of package frame answers at whatever text, and the document's Read.
  Conditions: the text has at most 2^20 bytes.
-/
import Derived.Test.YtcmdemblegdelaaDoorFraI
import Derived.Test.YtcmdemblegdelaaDoorFraH
namespace Go.Proofs.YtcmdemblegdelaaDoor
open Go.RowKit

theorem xN_le {s : ByteArray} (h : xC s = 0) : xN s = tP s + 4 ∧ xN s ≤ s.size := by
  obtain ⟨h1, h2, h3, h4⟩ := x_good h
  have h5 := (cC_good h4).1
  have e : xN s = tP s + 4 := by unfold xN; rw [if_pos h]
  exact ⟨e, by omega⟩

set_option maxRecDepth 100000 in
set_option maxHeartbeats 1000000 in
theorem read_more (s : ByteArray) (w : World) (hs : s.size ≤ 1048576) (h : xC s = 0) (hm : xN s < s.size) :
    Calls Tryd.prog 14 #[.string s] w fun e w' => ∃ f, e = .returned (.tuple #[.agg #[.int .i64 0, .string ⟨#[]⟩], .iface 56 (.pointer (some ⟨f, 0, none⟩))]) ∧ Blk w' f (flt (xN s) 6) 58 ∧ Below w.heap.size w w' := by
  have hm1 : (xN s : Int) < s.size := by omega
  have HX := Lib.hid h; clear h hm
  go_enter Tryd.func14, Tryd.ntmps14
  go_wp2_with fail
  refine (next_good s _ hs HX.out).mono ?_
  rintro e w1 ⟨rfl, b1⟩
  have hb : Blk w1 w.heap.size (fcs 0 ⟨#[]⟩) 28 := Blk.below (Blk.new w _ _) b1
  have HBL := Lib.hid (below_then ((Below.refl _ _).alloc (Nat.le_refl _) _) b1); clear b1
  have hz := Blk.lt hb
  have q0 := fcs0 hb
  have q1 := fcs1 hb
  have g0 := Blk.free hb 0
  have g1 := Blk.free hb 1
  have HB := Lib.hid hb; clear hb
  go_wp2
  refine bodyPost_ret (v := .tuple #[.agg #[.int .i64 0, .string ⟨#[]⟩], .iface 56 (.pointer (some ⟨w1.heap.size + 1, 0, none⟩))]) ?_ rfl ⟨_, rfl, ?_, ?_⟩
  · have hfin := ((Blk.put2 (k' := 0) (l' := ⟨#[]⟩) HB.out).alloc (.cells #[.int .i64 (xK s : Int), .string (xL s)] 28)).alloc (.cells #[.int .i64 (xN s : Int), .iface 30 (.int .i64 6)] 58)
    have r0 := fcs0 hfin
    have r1 := fcs1 hfin
    clear hfin q0 q1
    simp [results, Tryd.results14, go_sem, r0, r1]
  · have := Blk.new (((w1.setCell ⟨w.heap.size, 0, none⟩ (.int .i64 0)).setCell ⟨w.heap.size, 1, none⟩ (.string ⟨#[]⟩)).alloc (.cells #[.int .i64 (xK s : Int), .string (xL s)] 28)) #[.int .i64 (xN s : Int), .iface 30 (.int .i64 6)] 58
    simpa [flt, World.setCell] using this
  · exact (((HBL.out.setCell (Nat.le_refl _) _).setCell (Nat.le_refl _) _).alloc (by simp [World.setCell]; omega) _).alloc (by simp [World.setCell]; omega) _

set_option maxRecDepth 100000 in
set_option maxHeartbeats 1000000 in
theorem read_good (s : ByteArray) (w : World) (hs : s.size ≤ 1048576) (h : xC s = 0) (hm : ¬ xN s < s.size) :
    Calls Tryd.prog 14 #[.string s] w fun e w' => e = .returned (.tuple #[.agg #[.int .i64 (xK s : Int), .string (xL s)], .nilIface]) ∧ Below w.heap.size w w' := by
  have hm1 : (s.size : Int) ≤ xN s := by omega
  have HX := Lib.hid h; clear h hm
  go_enter Tryd.func14, Tryd.ntmps14
  go_wp2_with fail
  refine (next_good s _ hs HX.out).mono ?_
  rintro e w1 ⟨rfl, b1⟩
  have hb : Blk w1 w.heap.size (fcs 0 ⟨#[]⟩) 28 := Blk.below (Blk.new w _ _) b1
  have HBL := Lib.hid (below_then ((Below.refl _ _).alloc (Nat.le_refl _) _) b1); clear b1
  have hz := Blk.lt hb
  have q0 := fcs0 hb
  have q1 := fcs1 hb
  have g0 := Blk.free hb 0
  have g1 := Blk.free hb 1
  have HB := Lib.hid hb; clear hb
  go_wp2
  refine bodyPost_ret (v := .tuple #[.agg #[.int .i64 (xK s : Int), .string (xL s)], .nilIface]) ?_ rfl ⟨rfl, ?_⟩
  · have hfin := (Blk.put2 (k' := (xK s : Int)) (l' := xL s) HB.out).alloc (.cells #[.int .i64 (xK s : Int), .string (xL s)] 28)
    have r0 := fcs0 hfin
    have r1 := fcs1 hfin
    clear hfin q0 q1
    simp [results, Tryd.results14, go_sem, r0, r1]
  · exact ((HBL.out.setCell (Nat.le_refl _) _).setCell (Nat.le_refl _) _).alloc (by simp [World.setCell]; omega) _

theorem read_any (s : ByteArray) (w : World) (hs : s.size ≤ 1048576) :
    Calls Tryd.prog 14 #[.string s] w fun e w' => ∃ v, e = .returned (.tuple #[.agg #[.int .i64 (yK s : Int), .string (yL s)], v]) ∧ IsErr w' v (yAt s) (yC s) ∧ Below w.heap.size w w' := by
  by_cases h : xC s = 0
  · by_cases hm : xN s < s.size
    · have e1 : yC s = 6 := by unfold yC; rw [if_pos h, if_pos hm]
      have e2 : yAt s = xN s := by unfold yAt; rw [if_pos h, if_pos hm]
      have e3 : yK s = 0 := by unfold yK; rw [if_neg (by rw [e1]; decide)]
      have e4 : yL s = ⟨#[]⟩ := by unfold yL; rw [if_neg (by rw [e1]; decide)]
      rw [e1, e2, e3, e4]
      exact (read_more s w hs h hm).mono fun _ _ ⟨f, h1, h2, h3⟩ => ⟨_, h1, .inr (.inl ⟨by decide, f, rfl, h2⟩), h3⟩
    · have e1 : yC s = 0 := by unfold yC; rw [if_pos h, if_neg hm]
      have e2 : yAt s = 0 := by unfold yAt; rw [if_pos h, if_neg hm]
      have e3 : yK s = xK s := by unfold yK; rw [if_pos e1]
      have e4 : yL s = xL s := by unfold yL; rw [if_pos e1]
      rw [e1, e2, e3, e4]
      exact (read_good s w hs h hm).mono fun _ _ ⟨h1, h2⟩ => ⟨_, h1, .inl ⟨rfl, rfl, rfl⟩, h2⟩
  · have e1 : yC s = xC s := by unfold yC; rw [if_neg h]
    have e2 : yAt s = xAt s := by unfold yAt; rw [if_neg h]
    have e3 : yK s = 0 := by unfold yK; rw [if_neg (by rw [e1]; exact h)]
    have e4 : yL s = ⟨#[]⟩ := by unfold yL; rw [if_neg (by rw [e1]; exact h)]
    rw [e1, e2, e3, e4]
    exact (read_bad s w hs h).mono fun _ _ ⟨f, h1, h2, h3⟩ => ⟨_, h1, .inr (.inl ⟨h, f, rfl, h2⟩), h3⟩

/-- The cells of the document's fault. -/
def ecs (a c : Int) : Array Value := #[.int .i64 a, .int .i64 c]
theorem ecs0 {w : World} {b : Nat} {a c : Int} {T : TypeId} (h : Blk w b (ecs a c) T) : w.cell? ⟨b, 0, none⟩ = some (.int .i64 a) := by rw [Blk.cell h]; rfl
theorem ecs1 {w : World} {b : Nat} {a c : Int} {T : TypeId} (h : Blk w b (ecs a c) T) : w.cell? ⟨b, 1, none⟩ = some (.int .i64 c) := by rw [Blk.cell h]; rfl
theorem Blk.put2e {w : World} {b : Nat} {a c a' c' : Int} {T : TypeId} (h : Blk w b (ecs a c) T) : Blk ((w.setCell ⟨b, 0, none⟩ (.int .i64 a')).setCell ⟨b, 1, none⟩ (.int .i64 c')) b (ecs a' c') T := by
  have := Blk.set (Blk.set h 0 (.int .i64 a')) 1 (.int .i64 c')
  simpa [ecs] using this
theorem Blk.far2 {w : World} {b g : Nat} {cs : Array Value} {T : TypeId} (h : Blk w b cs T) (hne : b ≠ g) (u v : Value) : Blk ((w.setCell ⟨g, 0, none⟩ u).setCell ⟨g, 1, none⟩ v) b cs T :=
  Blk.far (Blk.far h hne 0 u) hne 1 v

/-- The blocks that the document's Read returns. -/
structure RB (w w1 : World) : Prop where
  rs : Blk w1 w.heap.size (fcs 0 ⟨#[]⟩) 23
  rf : Blk w1 (w.heap.size + 1) (ecs 0 0) 34
  bel : Below w.heap.size w w1
theorem RB.new {w w1 : World} (b1 : Below ((w.alloc (.cells #[.int .i64 0, .string ⟨#[]⟩] 23)).alloc (.cells #[.int .i64 0, .int .i64 0] 34)).heap.size ((w.alloc (.cells #[.int .i64 0, .string ⟨#[]⟩] 23)).alloc (.cells #[.int .i64 0, .int .i64 0] 34)) w1) : RB w w1 :=
  ⟨Blk.below ((Blk.new w _ _).alloc _) b1, Blk.below (by
    have := Blk.new (w.alloc (.cells #[.int .i64 0, .string ⟨#[]⟩] 23)) #[.int .i64 0, .int .i64 0] 34
    simpa [ecs] using this) b1, below_then (((Below.refl _ _).alloc (Nat.le_refl _) _).alloc (by simp) _) b1⟩
theorem RB.fin {w w1 : World} (h : RB w w1) (a b c d : Value) (o p : Obj) :
    Below w.heap.size w ((((((w1.setCell ⟨w.heap.size, 0, none⟩ a).setCell ⟨w.heap.size, 1, none⟩ b).setCell ⟨w.heap.size + 1, 0, none⟩ c).setCell ⟨w.heap.size + 1, 1, none⟩ d).alloc o).alloc p) := by
  have hz := h.bel.size
  exact (((((h.bel.setCell (Nat.le_refl _) _).setCell (Nat.le_refl _) _).setCell (Nat.le_succ _) _).setCell (Nat.le_succ _) _).alloc (by simp [World.setCell]; omega) _).alloc (by simp [World.setCell]; omega) _
end Go.Proofs.YtcmdemblegdelaaDoor
