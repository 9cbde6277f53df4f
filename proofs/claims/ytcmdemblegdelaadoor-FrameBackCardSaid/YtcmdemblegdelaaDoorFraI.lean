/-
  What an error value is, whatever wraps it, and what Seen tells of it; what Next and Read of package frame answer at whatever text.
  Conditions: the text has at most 2^20 bytes.
-/
import Derived.Test.YtcmdemblegdelaaDoorFraD
namespace Go.Proofs.YtcmdemblegdelaaDoor
open Go.RowKit

/-- The cells of a fault around the fault in block g. -/
def nst (a g : Nat) : Array Value := #[.int .i64 (a : Int), .iface 56 (.pointer (some ⟨g, 0, none⟩))]
/-- The error with place a and number c: nil; a fault; a fault around a fault. -/
def IsErr (w : World) (v : Value) (a : Nat) (c : Int) : Prop :=
  (c = 0 ∧ a = 0 ∧ v = .nilIface) ∨
  (¬ c = 0 ∧ ∃ f, v = .iface 56 (.pointer (some ⟨f, 0, none⟩)) ∧ Blk w f (flt a c) 58) ∨
  (¬ c = 0 ∧ ∃ f g a1 a2, a = a1 + a2 ∧ v = .iface 56 (.pointer (some ⟨f, 0, none⟩)) ∧ Blk w f (nst a1 g) 58 ∧ Blk w g (flt a2 c) 58)

theorem IsErr.below {w w' : World} {v : Value} {a : Nat} {c : Int} (h : IsErr w v a c) (b : Below w.heap.size w w') : IsErr w' v a c := by
  rcases h with h | ⟨hc, f, e, h⟩ | ⟨hc, f, g, a1, a2, ha, e, h1, h2⟩
  · exact .inl h
  · exact .inr (.inl ⟨hc, f, e, Blk.below h b⟩)
  · exact .inr (.inr ⟨hc, f, g, a1, a2, ha, e, Blk.below h1 b, Blk.below h2 b⟩)

theorem Tryd.noErrnoF (v : Value) (w : World) : (Instr.typeAssert (.iface 56 v) 25 30 true).run Tryd.prog w = .ok (.tuple #[.int .i64 0, .bool false]) w := by kernel_rfl

set_option maxRecDepth 100000 in
set_option maxHeartbeats 2000000 in
theorem seen_nst (b g a1 a2 : Nat) (c : Int) (w : World) (hg : Handle w) (hb : Blk w b (nst a1 g) 58) (hb2 : Blk w g (flt a2 c) 58) (ha : a1 + a2 ≤ 1048576) (hc : ¬ c = 0) :
    Calls Tryd.prog 10 #[.iface 56 (.pointer (some ⟨b, 0, none⟩))] w fun e w' => e = .returned (.agg #[.int .i64 ((a1 : Int) + a2), .int .i64 c]) ∧ Below w.heap.size w w' := by
  have n1 := Tryd.noErrno
  have n2 := Tryd.isErrno
  have hc' : (c == 0) = false := by simpa using hc
  have hw : IntKind.i64.wrap ((a1 : Int) + a2) = (a1 : Int) + a2 := by rw [IntKind.wrap_i64]; omega
  have HG := Lib.hid hg; clear hg
  have HB := Lib.hid hb; clear hb
  have HB2 := Lib.hid hb2; clear hb2
  go_enter Tryd.func10, Tryd.ntmps10
  go_wp2
  refine wp_loop_rounds 3 ?_
  rw [rounds_succ]
  go_wp2_with fail
  refine (as_fault ⟨b, 0, none⟩ (w.heap.size + 1) (.pointer none) _ ((HG.out.alloc _).alloc _) ?_).mono ?_
  · have := Blk.new (w.alloc (.cells #[.int .i64 0, .int .i64 0] 34)) #[.pointer none] 56
    simpa using this
  rintro ev w1 ⟨rfl, hf, ho⟩
  have hlt := Blk.lt HB.out
  have hlt2 := Blk.lt HB2.out
  have hb1 : Blk w1 b (nst a1 g) 58 := (((HB.out.alloc _).alloc _).only ho (by omega))
  have hb2 : Blk w1 g (flt a2 c) 58 := (((HB2.out.alloc _).alloc _).only ho (by omega))
  have hr1 : Blk w1 w.heap.size #[.int .i64 0, .int .i64 0] 34 := ((Blk.new w _ _).alloc _).only ho (by omega)
  have hbl : Below w.heap.size w w1 := Only.below (((Below.refl w.heap.size w).alloc (Nat.le_refl _) _).alloc (by simp) _) ho (by omega) (by simp; omega)
  have c0 : w1.cell? ⟨w.heap.size + 1, 0, none⟩ = some (.pointer (some ⟨b, 0, none⟩)) := by rw [Blk.cell hf]; rfl
  have c1 : w1.cell? ⟨b, 0, none⟩ = some (.int .i64 a1) := by rw [Blk.cell hb1]; rfl
  have c2 : w1.cell? ⟨b, 1, none⟩ = some (.iface 56 (.pointer (some ⟨g, 0, none⟩))) := by rw [Blk.cell hb1]; rfl
  have HGw : Hid (Handle w1) := Lib.hid (HG.out.below hbl (Handle.lt HG.out))
  clear hf ho hlt2
  have HB1 := Lib.hid hb1; clear hb1
  have HB2' := Lib.hid hb2; clear hb2
  have HR1 := Lib.hid hr1; clear hr1
  have HBL := Lib.hid hbl; clear hbl
  go_wp2
  rw [rounds_succ]
  go_wp2_with fail
  refine (as_fault ⟨g, 0, none⟩ w1.heap.size (.pointer none) _ (HGw.out.alloc _) (Blk.new _ _ _)).mono ?_
  rintro ev w2 ⟨rfl, hf, ho⟩
  have hlt1 := Blk.lt HB2'.out
  have hlt3 := Blk.lt HR1.out
  have hb2 : Blk w2 g (flt a2 c) 58 := ((HB2'.out.alloc _).only ho (by omega))
  have hr2 : Blk w2 w.heap.size #[.int .i64 0, .int .i64 0] 34 := (HR1.out.alloc _).only ho (by omega)
  have hbl : Below w.heap.size w w2 := Only.below (HBL.out.alloc HBL.out.size _) ho (HBL.out.size) (by simp; have := HBL.out.size; omega)
  have d0 : w2.cell? ⟨w1.heap.size, 0, none⟩ = some (.pointer (some ⟨g, 0, none⟩)) := by rw [Blk.cell hf]; rfl
  have d1 : w2.cell? ⟨g, 0, none⟩ = some (.int .i64 a2) := by rw [Blk.cell hb2]; rfl
  have d2 : w2.cell? ⟨g, 1, none⟩ = some (.iface 30 (.int .i64 c)) := by rw [Blk.cell hb2]; rfl
  have c3 : w2.cell? ⟨w.heap.size, 0, none⟩ = some (.int .i64 0) := by rw [Blk.cell hr2]; rfl
  have c4 : w2.cell? ⟨w.heap.size, 1, none⟩ = some (.int .i64 0) := by rw [Blk.cell hr2]; rfl
  have f3 := Blk.free hr2 0
  have f4 := Blk.free hr2 1
  clear hf ho c0 c1 c2 hlt1
  have HB2'' := Lib.hid hb2; clear hb2
  have HR2 := Lib.hid hr2; clear hr2
  have HBL2 := Lib.hid hbl; clear hbl
  go_wp2
  rw [rounds_succ]
  go_wp2
  refine bodyPost_ret (v := .agg #[.int .i64 ((a1 : Int) + a2), .int .i64 c]) ?_ rfl ⟨rfl, ?_⟩
  · simp [results, Tryd.results10, go_sem, c3, c4]
  · exact (HBL2.out.setCell (Nat.le_refl _) _).setCell (Nat.le_refl _) _

theorem seen_is {w : World} {v : Value} {a : Nat} {c : Int} (hg : Handle w) (h : IsErr w v a c) (ha : a ≤ 1048576) :
    Calls Tryd.prog 10 #[v] w fun e w' => e = .returned (.agg #[.int .i64 (a : Int), .int .i64 c]) ∧ Below w.heap.size w w' := by
  rcases h with ⟨rfl, rfl, rfl⟩ | ⟨hc, f, rfl, h⟩ | ⟨hc, f, g, a1, a2, rfl, rfl, h1, h2⟩
  · exact seen_nil w
  · exact seen_some f a c w hg h ha hc
  · have := seen_nst f g a1 a2 c w hg h1 h2 ha hc
    rw [Int.natCast_add]; exact this

theorem xAt_good {s : ByteArray} (h : xC s = 0) : xAt s = 0 := by
  obtain ⟨h1, h2, h3, h4⟩ := x_good h
  unfold xAt; rw [if_pos h1, if_neg h2, if_pos h3, if_pos h4]
theorem x_bad {s : ByteArray} (h : ¬ xC s = 0) : xK s = 0 ∧ xL s = ⟨#[]⟩ ∧ xN s = 0 :=
  ⟨by unfold xK; rw [if_neg h], by unfold xL; rw [if_neg h], by unfold xN; rw [if_neg h]⟩

theorem next_any (s : ByteArray) (w : World) (hs : s.size ≤ 1048576) :
    Calls Tryd.prog 11 #[.string s] w fun e w' => ∃ v, e = .returned (.tuple #[.agg #[.int .i64 (xK s : Int), .string (xL s)], .int .i64 (xN s : Int), v]) ∧ IsErr w' v (xAt s) (xC s) ∧ Below w.heap.size w w' := by
  by_cases h : xC s = 0
  · exact (next_good s w hs h).mono fun _ _ ⟨h1, h2⟩ => ⟨_, h1, .inl ⟨h, xAt_good h, rfl⟩, h2⟩
  · obtain ⟨e1, e2, e3⟩ := x_bad h
    rw [e1, e2, e3]
    exact (next_bad s w hs h).mono fun _ _ ⟨f, h1, _, h3, h4⟩ => ⟨_, h1, .inr (.inl ⟨h, f, rfl, h3⟩), h4⟩

/-- What Read tells of a text. -/
def yC (s : ByteArray) : Int := if xC s = 0 then (if xN s < s.size then 6 else 0) else xC s
def yAt (s : ByteArray) : Nat := if xC s = 0 then (if xN s < s.size then xN s else 0) else xAt s
def yK (s : ByteArray) : Nat := if yC s = 0 then xK s else 0
def yL (s : ByteArray) : ByteArray := if yC s = 0 then xL s else ⟨#[]⟩

theorem Blk.put2 {w : World} {b : Nat} {k k' : Int} {l l' : ByteArray} {T : TypeId} (h : Blk w b (fcs k l) T) : Blk ((w.setCell ⟨b, 0, none⟩ (.int .i64 k')).setCell ⟨b, 1, none⟩ (.string l')) b (fcs k' l') T := by
  have := Blk.set (Blk.set h 0 (.int .i64 k')) 1 (.string l')
  simpa [fcs] using this
theorem fcs0 {w : World} {b : Nat} {k : Int} {l : ByteArray} {T : TypeId} (h : Blk w b (fcs k l) T) : w.cell? ⟨b, 0, none⟩ = some (.int .i64 k) := by rw [Blk.cell h]; rfl
theorem fcs1 {w : World} {b : Nat} {k : Int} {l : ByteArray} {T : TypeId} (h : Blk w b (fcs k l) T) : w.cell? ⟨b, 1, none⟩ = some (.string l) := by rw [Blk.cell h]; rfl

set_option maxRecDepth 100000 in
set_option maxHeartbeats 1000000 in
theorem read_bad (s : ByteArray) (w : World) (hs : s.size ≤ 1048576) (h : ¬ xC s = 0) :
    Calls Tryd.prog 14 #[.string s] w fun e w' => ∃ f, e = .returned (.tuple #[.agg #[.int .i64 0, .string ⟨#[]⟩], .iface 56 (.pointer (some ⟨f, 0, none⟩))]) ∧ Blk w' f (flt (xAt s) (xC s)) 58 ∧ Below w.heap.size w w' := by
  go_enter Tryd.func14, Tryd.ntmps14
  go_wp2_with fail
  refine (next_bad s _ hs h).mono ?_
  rintro e w1 ⟨f, rfl, hlt, hf, b1⟩
  have hb : Blk w1 w.heap.size (fcs 0 ⟨#[]⟩) 28 := Blk.below (Blk.new w _ _) b1
  have HBL := Lib.hid (below_then ((Below.refl _ _).alloc (Nat.le_refl _) _) b1); clear b1
  simp at hlt
  have hz := Blk.lt hb
  have q0 := fcs0 hb
  have q1 := fcs1 hb
  have g0 := Blk.free hb 0
  have g1 := Blk.free hb 1
  have HB := Lib.hid hb; clear hb
  have HF := Lib.hid hf; clear hf
  go_wp2
  refine bodyPost_ret (v := .tuple #[.agg #[.int .i64 0, .string ⟨#[]⟩], .iface 56 (.pointer (some ⟨f, 0, none⟩))]) ?_ rfl ⟨_, rfl, (Blk.far (Blk.far HF.out (by omega) _ _) (by omega) _ _).alloc _, ((HBL.out.setCell (Nat.le_refl _) _).setCell (Nat.le_refl _) _).alloc (by simp [World.setCell]; omega) _⟩
  have hfin := (Blk.put2 (k' := 0) (l' := ⟨#[]⟩) HB.out).alloc (.cells #[.int .i64 0, .string ⟨#[]⟩] 28)
  have r0 := fcs0 hfin
  have r1 := fcs1 hfin
  clear hfin q0 q1
  simp [results, Tryd.results14, go_sem, r0, r1]

end Go.Proofs.YtcmdemblegdelaaDoor
