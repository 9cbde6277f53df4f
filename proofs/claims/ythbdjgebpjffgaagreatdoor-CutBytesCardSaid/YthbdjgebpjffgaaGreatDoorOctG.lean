/-
  The two readers side by side: what each method leaves of both.
  Conditions: each lies in a block of its own.
-/
import Derived.Test.YthbdjgebpjffgaaGreatDoorOctL
import Derived.Test.YthbdjgebpjffgaaGreatDoorOctN
set_option linter.unusedVariables false
set_option linter.unusedSimpArgs false
namespace Go.Proofs.YthbdjgebpjffgaaGreatDoor
open Go.RowKit

/-- Package octet's reader lies in block r, the document's in block q; below block number B = W's size nothing has turned. -/
structure S2 (W : World) (r q : Nat) (s : ByteArray) (a : Nat) (c : Int) (b : Nat) (d : Int) (w : World) : Prop where
  rd : Rdr w r s a c
  rr : RR w q s b (fA b d) d
  bel : Below W.heap.size W w
  hr : W.heap.size ≤ r
  hq : W.heap.size ≤ q
  ne : r ≠ q

variable {W : World} {r q : Nat} {s : ByteArray} {a : Nat} {c : Int} {b : Nat} {d : Int} {w : World}

theorem S2.drew (h : S2 W r q s a c b d w) : S2 W r q s a c b d w.drew := ⟨h.rd, h.rr, h.bel.drew, h.hr, h.hq, h.ne⟩
theorem S2.drewN (h : S2 W r q s a c b d w) (n : Nat) : S2 W r q s a c b d (w.drewN n) := ⟨h.rd, h.rr, below_drewN h.bel n, h.hr, h.hq, h.ne⟩
theorem S2.alloc (h : S2 W r q s a c b d w) (o : Obj) : S2 W r q s a c b d (w.alloc o) := ⟨Blk.alloc h.rd o, Blk.alloc h.rr o, below_new h.bel o, h.hr, h.hq, h.ne⟩
theorem S2.below {w' : World} (h : S2 W r q s a c b d w) (k : Below w.heap.size w w') : S2 W r q s a c b d w' := ⟨Blk.below h.rd k, Blk.below h.rr k, below_then h.bel k, h.hr, h.hq, h.ne⟩
/-- Package octet's reader has gone on. -/
theorem S2.left {w' : World} {a' : Nat} {c' : Int} (h : S2 W r q s a c b d w) (k : Rdr w' r s a' c') (o : Only r w w') : S2 W r q s a' c' b d w' :=
  ⟨k, Blk.only h.rr o (fun e => h.ne e.symm), Only.below h.bel o h.hr h.bel.size, h.hr, h.hq, h.ne⟩
/-- The document's reader has gone on. -/
theorem S2.right {w' : World} {b' : Nat} {d' : Int} (h : S2 W r q s a c b d w) (k : RR w' q s b' (fA b' d') d') (o : Only q w w') : S2 W r q s a c b' d' w' :=
  ⟨Blk.only h.rd o h.ne, k, Only.below h.bel o h.hq h.bel.size, h.hr, h.hq, h.ne⟩

theorem numR_S2 (h : S2 W r q s a c b d w) (hb : b ≤ s.size) (hs : s.size ≤ 1048576) :
    Calls Tryz.prog 69 #[.pointer (some ⟨q, 0, none⟩)] w fun e w' => e = .returned (.int .u64 (nV' s b d)) ∧ S2 W r q s a c (nA' s b d) (nC' s b d) w' :=
  (rNum_any q b s d w h.rr hb hs).mono fun _ _ ⟨h1, h2, h3⟩ => ⟨h1, h.right h2 h3⟩

theorem intL_S2 (m : Int) (h : S2 W r q s a c b d w) (ha : a ≤ s.size) (hs : s.size ≤ 1048576) (hm : -9223372036854775808 ≤ m ∧ m ≤ 9223372036854775807) :
    Calls Tryz.prog 44 #[.pointer (some ⟨r, 0, none⟩), .int .i64 m] w fun e w' => e = .returned (.int .i64 (iV' s a m c)) ∧ S2 W r q s (iA' s a m c) (iC' s a m c) b d w' :=
  (rdInt_any r a s m c w h.rd ha hs hm).mono fun _ _ ⟨h1, h2, h3⟩ => ⟨h1, h.left h2 h3⟩
theorem intR_S2 (m : Int) (h : S2 W r q s a c b d w) (hb : b ≤ s.size) (hs : s.size ≤ 1048576) (hm : -9223372036854775808 ≤ m ∧ m ≤ 9223372036854775807) :
    Calls Tryz.prog 46 #[.pointer (some ⟨q, 0, none⟩), .int .i64 m] w fun e w' => e = .returned (.int .i64 (iV' s b m d)) ∧ S2 W r q s a c (iA' s b m d) (iC' s b m d) w' :=
  (rInt_any q b s m d w h.rr hb hs hm).mono fun _ _ ⟨h1, h2, h3⟩ => ⟨h1, h.right h2 h3⟩

theorem failL_S2 (e : Int) (h : S2 W r q s a c b d w) :
    Calls Tryz.prog 25 #[.pointer (some ⟨r, 0, none⟩), .int .i64 e] w fun x w' => x = .returned (.tuple #[]) ∧ S2 W r q s a (failC c e) b d w' :=
  (fail_any r a s c e w h.rd).mono fun _ _ ⟨h1, h2, h3⟩ => ⟨h1, h.left h2 h3⟩
theorem failR_S2 (e : Int) (h : S2 W r q s a c b d w) :
    Calls Tryz.prog 28 #[.pointer (some ⟨q, 0, none⟩), .int .i64 e] w fun x w' => x = .returned (.tuple #[]) ∧ S2 W r q s a c b (failC d e) w' :=
  (rfail_any q b s d e w h.rr).mono fun _ _ ⟨h1, h2, h3⟩ => ⟨h1, h.right h2 h3⟩

theorem atL_S2 (h : S2 W r q s a c b d w) :
    Calls Tryz.prog 13 #[.pointer (some ⟨r, 0, none⟩)] w fun e w' => e = .returned (.int .i64 a) ∧ S2 W r q s a c b d w' :=
  (at_any r a s c w h.rd).mono fun _ _ ⟨h1, h2⟩ => ⟨h1, h2 ▸ h⟩
theorem leftL_S2 (h : S2 W r q s a c b d w) (ha : a ≤ s.size) (hs : s.size ≤ 1048576) :
    Calls Tryz.prog 87 #[.pointer (some ⟨r, 0, none⟩)] w fun e w' => e = .returned (.int .i64 ((s.size : Int) - a)) ∧ S2 W r q s a c b d w' :=
  (left_any r a s c w h.rd ha hs).mono fun _ _ ⟨h1, n, h2⟩ => ⟨h1, by subst h2; exact h.drewN n⟩
theorem errL_none (h : S2 W r q s a 0 b d w) :
    Calls Tryz.prog 15 #[.pointer (some ⟨r, 0, none⟩)] w fun e w' => e = .returned .nilIface ∧ S2 W r q s a 0 b d w' :=
  (err_none r a s w h.rd).mono fun _ _ ⟨h1, h2⟩ => ⟨h1, h2 ▸ h⟩

/-- The world in which a fault lies that was just made. -/
structure S2F (W : World) (r q : Nat) (s : ByteArray) (a : Nat) (c : Int) (b : Nat) (d : Int) (f : Nat) (w : World) : Prop where
  s2 : S2 W r q s a c b d w
  fl : Blk w f (flt a c) 69

theorem errL_some (h : S2 W r q s a c b d w) (hc : ¬ c = 0) :
    Calls Tryz.prog 15 #[.pointer (some ⟨r, 0, none⟩)] w fun e w' => ∃ f, e = .returned (.iface 65 (.pointer (some ⟨f, 0, none⟩))) ∧ S2F W r q s a c b d f w' :=
  (err_some r a s c w h.rd hc).mono fun _ _ ⟨h1, h2, h3⟩ => ⟨_, h1, h.below h3, h2⟩

theorem seenN_S2 (h : S2 W r q s a c b d w) :
    Calls Tryz.prog 14 #[.nilIface] w fun e w' => e = .returned (.agg #[.int .i64 0, .int .i64 0]) ∧ S2 W r q s a c b d w' :=
  (seen_nil w).mono fun _ _ ⟨h1, h2⟩ => ⟨h1, h.below h2⟩

theorem seenF_S2 {f : Nat} (hg : Handle W) (h : S2F W r q s a c b d f w) (ha : a ≤ 1048576) (hc : ¬ c = 0) :
    Calls Tryz.prog 14 #[.iface 65 (.pointer (some ⟨f, 0, none⟩))] w fun e w' => e = .returned (.agg #[.int .i64 (a : Int), .int .i64 c]) ∧ S2 W r q s a c b d w' :=
  (seen_some f a c w (hg.below h.s2.bel hg.lt) h.fl ha hc).mono fun _ _ ⟨h1, h2⟩ => ⟨h1, h.s2.below h2⟩

theorem endC_bad {s : ByteArray} {a : Nat} {c : Int} (hc : ¬ c = 0) : endC s a c = c := by
  by_cases h : a < s.size
  · unfold endC; rw [if_pos h]; unfold failC; rw [if_neg hc]
  · unfold endC; rw [if_neg h]
/-- Behind End, where nothing is wrong yet and something is left. -/
theorem endC_six {s : ByteArray} {a : Nat} (h : a < s.size) : endC s a 0 = 6 := by unfold endC; rw [if_pos h]; rfl
variable {g : Nat} {x y : Int}
theorem nA'_le {s : ByteArray} {a : Nat} {c : Int} (ha : a ≤ s.size) : nA' s a c ≤ s.size := by
  unfold nA'
  split
  · exact nA_le ha
  · exact ha
theorem iA'_le {s : ByteArray} {a : Nat} {m c : Int} (ha : a ≤ s.size) : iA' s a m c ≤ s.size := by
  unfold iA'
  split
  · exact iA_le ha
  · exact ha
theorem tA'_le {s : ByteArray} {a : Nat} {m c : Int} (ha : a ≤ s.size) : tA' s a m c ≤ s.size := by
  unfold tA'
  split
  · unfold tA
    split
    · rename_i h
      unfold tC at h
      by_cases hi : iC s a m = 0
      · rw [if_pos hi] at h
        split at h
        · simp at h
        · omega
      · rw [if_neg hi] at h; exact absurd h hi
    · exact ha
  · exact ha
end Go.Proofs.YthbdjgebpjffgaaGreatDoor
