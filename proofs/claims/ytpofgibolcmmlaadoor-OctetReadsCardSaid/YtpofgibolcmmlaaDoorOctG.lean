/-
  The two readers side by side: what each method leaves of both.
  Conditions: each lies in a block of its own.
-/
import Derived.Test.YtpofgibolcmmlaaDoorOctM
import Derived.Test.YtpofgibolcmmlaaDoorOctN
namespace Go.Proofs.YtpofgibolcmmlaaDoor
open Go.RowKit

/-- Package octet's reader lies in block r, the document's in block q; below block number B = W's size nothing has turned. -/
structure S2 (W : World) (r q : Nat) (s : ByteArray) (a : Nat) (c : Int) (b : Nat) (d : Int) (w : World) : Prop where
  rd : Rdr w r s a c
  rr : RR w q s b (fA b d) d
  bel : Below W.heap.size W w
  hr : W.heap.size ≤ r
  hq : W.heap.size ≤ q
  ne : r ≠ q

variable {W : World} {r q : Nat} {s : ByteArray} {a : Nat} {c : Int} {b : Nat} {d : Int} {w : World}

theorem S2.drew (h : S2 W r q s a c b d w) : S2 W r q s a c b d w.drew := ⟨h.rd, h.rr, h.bel.drew, h.hr, h.hq, h.ne⟩
theorem S2.drewN (h : S2 W r q s a c b d w) (n : Nat) : S2 W r q s a c b d (w.drewN n) := ⟨h.rd, h.rr, below_drewN h.bel n, h.hr, h.hq, h.ne⟩
theorem S2.alloc (h : S2 W r q s a c b d w) (o : Obj) : S2 W r q s a c b d (w.alloc o) := ⟨Blk.alloc h.rd o, Blk.alloc h.rr o, below_new h.bel o, h.hr, h.hq, h.ne⟩
theorem S2.below {w' : World} (h : S2 W r q s a c b d w) (k : Below w.heap.size w w') : S2 W r q s a c b d w' := ⟨Blk.below h.rd k, Blk.below h.rr k, below_then h.bel k, h.hr, h.hq, h.ne⟩
/-- Package octet's reader has gone on. -/
theorem S2.left {w' : World} {a' : Nat} {c' : Int} (h : S2 W r q s a c b d w) (k : Rdr w' r s a' c') (o : Only r w w') : S2 W r q s a' c' b d w' :=
  ⟨k, Blk.only h.rr o (fun e => h.ne e.symm), Only.below h.bel o h.hr h.bel.size, h.hr, h.hq, h.ne⟩
/-- The document's reader has gone on. -/
theorem S2.right {w' : World} {b' : Nat} {d' : Int} (h : S2 W r q s a c b d w) (k : RR w' q s b' (fA b' d') d') (o : Only q w w') : S2 W r q s a c b' d' w' :=
  ⟨Blk.only h.rd o h.ne, k, Only.below h.bel o h.hq h.bel.size, h.hr, h.hq, h.ne⟩

theorem numL_S2 (h : S2 W r q s a c b d w) (ha : a ≤ s.size) (hs : s.size ≤ 1048576) :
    Calls Tryd.prog 8 #[.pointer (some ⟨r, 0, none⟩)] w fun e w' => e = .returned (.int .u64 (nV' s a c)) ∧ S2 W r q s (nA' s a c) (nC' s a c) b d w' :=
  (rdNum_any r a s c w h.rd ha hs).mono fun _ _ ⟨h1, h2, h3⟩ => ⟨h1, h.left h2 h3⟩
theorem numR_S2 (h : S2 W r q s a c b d w) (hb : b ≤ s.size) (hs : s.size ≤ 1048576) :
    Calls Tryd.prog 9 #[.pointer (some ⟨q, 0, none⟩)] w fun e w' => e = .returned (.int .u64 (nV' s b d)) ∧ S2 W r q s a c (nA' s b d) (nC' s b d) w' :=
  (rNum_any q b s d w h.rr hb hs).mono fun _ _ ⟨h1, h2, h3⟩ => ⟨h1, h.right h2 h3⟩

theorem intL_S2 (m : Int) (h : S2 W r q s a c b d w) (ha : a ≤ s.size) (hs : s.size ≤ 1048576) (hm : -9223372036854775808 ≤ m ∧ m ≤ 9223372036854775807) :
    Calls Tryd.prog 10 #[.pointer (some ⟨r, 0, none⟩), .int .i64 m] w fun e w' => e = .returned (.int .i64 (iV' s a m c)) ∧ S2 W r q s (iA' s a m c) (iC' s a m c) b d w' :=
  (rdInt_any r a s m c w h.rd ha hs hm).mono fun _ _ ⟨h1, h2, h3⟩ => ⟨h1, h.left h2 h3⟩
theorem intR_S2 (m : Int) (h : S2 W r q s a c b d w) (hb : b ≤ s.size) (hs : s.size ≤ 1048576) (hm : -9223372036854775808 ≤ m ∧ m ≤ 9223372036854775807) :
    Calls Tryd.prog 11 #[.pointer (some ⟨q, 0, none⟩), .int .i64 m] w fun e w' => e = .returned (.int .i64 (iV' s b m d)) ∧ S2 W r q s a c (iA' s b m d) (iC' s b m d) w' :=
  (rInt_any q b s m d w h.rr hb hs hm).mono fun _ _ ⟨h1, h2, h3⟩ => ⟨h1, h.right h2 h3⟩

theorem sgnL_S2 (h : S2 W r q s a c b d w) (ha : a ≤ s.size) (hs : s.size ≤ 1048576) :
    Calls Tryd.prog 12 #[.pointer (some ⟨r, 0, none⟩)] w fun e w' => e = .returned (.int .i64 (sV' s a c)) ∧ S2 W r q s (sA' s a c) (sC' s a c) b d w' :=
  (rdSigned_any r a s c w h.rd ha hs).mono fun _ _ ⟨h1, h2, h3⟩ => ⟨h1, h.left h2 h3⟩
theorem sgnR_S2 (h : S2 W r q s a c b d w) (hb : b ≤ s.size) (hs : s.size ≤ 1048576) :
    Calls Tryd.prog 13 #[.pointer (some ⟨q, 0, none⟩)] w fun e w' => e = .returned (.int .i64 (sV' s b d)) ∧ S2 W r q s a c (sA' s b d) (sC' s b d) w' :=
  (rSigned_any q b s d w h.rr hb hs).mono fun _ _ ⟨h1, h2, h3⟩ => ⟨h1, h.right h2 h3⟩

theorem txtL_S2 (m : Int) (h : S2 W r q s a c b d w) (ha : a ≤ s.size) (hs : s.size ≤ 1048576) (hm : -9223372036854775808 ≤ m ∧ m ≤ 9223372036854775807) :
    Calls Tryd.prog 14 #[.pointer (some ⟨r, 0, none⟩), .int .i64 m] w fun e w' => e = .returned (.string (tV' s a m c)) ∧ S2 W r q s (tA' s a m c) (tC' s a m c) b d w' :=
  (rdText_any r a s m c w h.rd ha hs hm).mono fun _ _ ⟨h1, h2, h3⟩ => ⟨h1, h.left h2 h3⟩
theorem txtR_S2 (m : Int) (h : S2 W r q s a c b d w) (hb : b ≤ s.size) (hs : s.size ≤ 1048576) (hm : -9223372036854775808 ≤ m ∧ m ≤ 9223372036854775807) :
    Calls Tryd.prog 15 #[.pointer (some ⟨q, 0, none⟩), .int .i64 m] w fun e w' => e = .returned (.string (tV' s b m d)) ∧ S2 W r q s a c (tA' s b m d) (tC' s b m d) w' :=
  (rText_any q b s m d w h.rr hb hs hm).mono fun _ _ ⟨h1, h2, h3⟩ => ⟨h1, h.right h2 h3⟩

theorem failL_S2 (e : Int) (h : S2 W r q s a c b d w) :
    Calls Tryd.prog 16 #[.pointer (some ⟨r, 0, none⟩), .int .i64 e] w fun x w' => x = .returned (.tuple #[]) ∧ S2 W r q s a (failC c e) b d w' :=
  (fail_any r a s c e w h.rd).mono fun _ _ ⟨h1, h2, h3⟩ => ⟨h1, h.left h2 h3⟩
theorem failR_S2 (e : Int) (h : S2 W r q s a c b d w) :
    Calls Tryd.prog 17 #[.pointer (some ⟨q, 0, none⟩), .int .i64 e] w fun x w' => x = .returned (.tuple #[]) ∧ S2 W r q s a c b (failC d e) w' :=
  (rfail_any q b s d e w h.rr).mono fun _ _ ⟨h1, h2, h3⟩ => ⟨h1, h.right h2 h3⟩

theorem atL_S2 (h : S2 W r q s a c b d w) :
    Calls Tryd.prog 18 #[.pointer (some ⟨r, 0, none⟩)] w fun e w' => e = .returned (.int .i64 a) ∧ S2 W r q s a c b d w' :=
  (at_any r a s c w h.rd).mono fun _ _ ⟨h1, h2⟩ => ⟨h1, h2 ▸ h⟩
theorem leftL_S2 (h : S2 W r q s a c b d w) (ha : a ≤ s.size) (hs : s.size ≤ 1048576) :
    Calls Tryd.prog 19 #[.pointer (some ⟨r, 0, none⟩)] w fun e w' => e = .returned (.int .i64 ((s.size : Int) - a)) ∧ S2 W r q s a c b d w' :=
  (left_any r a s c w h.rd ha hs).mono fun _ _ ⟨h1, n, h2⟩ => ⟨h1, by subst h2; exact h.drewN n⟩
theorem leftR_S2 (h : S2 W r q s a c b d w) (hb : b ≤ s.size) (hs : s.size ≤ 1048576) :
    Calls Tryd.prog 20 #[.pointer (some ⟨q, 0, none⟩)] w fun e w' => e = .returned (.int .i64 ((s.size : Int) - b)) ∧ S2 W r q s a c b d w' :=
  (rleft_any q b _ s d w h.rr hb hs).mono fun _ _ ⟨h1, n, h2⟩ => ⟨h1, by subst h2; exact h.drewN n⟩

theorem errL_none (h : S2 W r q s a 0 b d w) :
    Calls Tryd.prog 22 #[.pointer (some ⟨r, 0, none⟩)] w fun e w' => e = .returned .nilIface ∧ S2 W r q s a 0 b d w' :=
  (err_none r a s w h.rd).mono fun _ _ ⟨h1, h2⟩ => ⟨h1, h2 ▸ h⟩

/-- The world in which a fault lies that was just made. -/
structure S2F (W : World) (r q : Nat) (s : ByteArray) (a : Nat) (c : Int) (b : Nat) (d : Int) (f : Nat) (w : World) : Prop where
  s2 : S2 W r q s a c b d w
  fl : Blk w f (flt a c) 71

theorem errL_some (h : S2 W r q s a c b d w) (hc : ¬ c = 0) :
    Calls Tryd.prog 22 #[.pointer (some ⟨r, 0, none⟩)] w fun e w' => ∃ f, e = .returned (.iface 67 (.pointer (some ⟨f, 0, none⟩))) ∧ S2F W r q s a c b d f w' :=
  (err_some r a s c w h.rd hc).mono fun _ _ ⟨h1, h2, h3⟩ => ⟨_, h1, h.below h3, h2⟩

theorem seenN_S2 (h : S2 W r q s a c b d w) :
    Calls Tryd.prog 21 #[.nilIface] w fun e w' => e = .returned (.agg #[.int .i64 0, .int .i64 0]) ∧ S2 W r q s a c b d w' :=
  (seen_nil w).mono fun _ _ ⟨h1, h2⟩ => ⟨h1, h.below h2⟩

theorem seenF_S2 {f : Nat} (hg : Handle W) (h : S2F W r q s a c b d f w) (ha : a ≤ 1048576) (hc : ¬ c = 0) :
    Calls Tryd.prog 21 #[.iface 67 (.pointer (some ⟨f, 0, none⟩))] w fun e w' => e = .returned (.agg #[.int .i64 (a : Int), .int .i64 c]) ∧ S2 W r q s a c b d w' :=
  (seen_some f a c w (hg.below h.s2.bel hg.lt) h.fl ha hc).mono fun _ _ ⟨h1, h2⟩ => ⟨h1, h.s2.below h2⟩

/-- Behind End. -/
theorem endL_none (h : S2 W r q s a c b d w) (ha : a ≤ s.size) (hs : s.size ≤ 1048576) (he : endC s a c = 0) :
    Calls Tryd.prog 23 #[.pointer (some ⟨r, 0, none⟩)] w fun e w' => e = .returned .nilIface ∧ S2 W r q s a 0 b d w' :=
  (end_none r a s c w h.rd ha hs he).mono fun _ _ ⟨h1, h2, h3⟩ => ⟨h1, h.left h2 h3⟩
theorem endL_some (h : S2 W r q s a c b d w) (ha : a ≤ s.size) (hs : s.size ≤ 1048576) (he : ¬ endC s a c = 0) :
    Calls Tryd.prog 23 #[.pointer (some ⟨r, 0, none⟩)] w fun e w' => ∃ f, e = .returned (.iface 67 (.pointer (some ⟨f, 0, none⟩))) ∧ S2F W r q s a (endC s a c) b d f w' :=
  (end_some r a s c w h.rd ha hs he).mono fun _ _ ⟨f, h1, _, h3, h4, h5⟩ => ⟨f, h1, h.left h4 h5, h3⟩
theorem endR_S2 (h : S2 W r q s a c b d w) (hb : b ≤ s.size) (hs : s.size ≤ 1048576) :
    Calls Tryd.prog 24 #[.pointer (some ⟨q, 0, none⟩)] w fun e w' => e = .returned (.agg #[.int .i64 (fA b (endC s b d)), .int .i64 (endC s b d)]) ∧ S2 W r q s a c b (endC s b d) w' :=
  (rEnd_any q b s d w h.rr hb hs).mono fun _ _ ⟨h1, h2, h3⟩ => ⟨h1, h.right h2 h3⟩

/-- Behind End, where nothing is left and nothing is wrong. -/
theorem endL_keep0 (h : S2 W r q s a 0 b d w) (ha : a ≤ s.size) (hs : s.size ≤ 1048576) (he : endC s a 0 = 0) :
    Calls Tryd.prog 23 #[.pointer (some ⟨r, 0, none⟩)] w fun e w' => e = .returned .nilIface ∧ S2 W r q s a 0 b d w' :=
  endL_none h ha hs he
theorem endR_keep0 (h : S2 W r q s a c b 0 w) (hb : b ≤ s.size) (hs : s.size ≤ 1048576) (he : endC s b 0 = 0) :
    Calls Tryd.prog 24 #[.pointer (some ⟨q, 0, none⟩)] w fun e w' => e = .returned (.agg #[.int .i64 0, .int .i64 0]) ∧ S2 W r q s a c b 0 w' := by
  have h1 := endR_S2 h hb hs
  rw [he] at h1
  exact h1
theorem endC_bad {s : ByteArray} {a : Nat} {c : Int} (hc : ¬ c = 0) : endC s a c = c := by
  by_cases h : a < s.size
  · unfold endC; rw [if_pos h]; unfold failC; rw [if_neg hc]
  · unfold endC; rw [if_neg h]
/-- Behind End, where something is wrong already. -/
theorem endL_keep1 (h : S2 W r q s a c b d w) (ha : a ≤ s.size) (hs : s.size ≤ 1048576) (hc : ¬ c = 0) :
    Calls Tryd.prog 23 #[.pointer (some ⟨r, 0, none⟩)] w fun e w' => ∃ f, e = .returned (.iface 67 (.pointer (some ⟨f, 0, none⟩))) ∧ S2F W r q s a c b d f w' := by
  have h1 := endL_some h ha hs (by rw [endC_bad hc]; exact hc)
  rw [endC_bad hc] at h1
  exact h1
theorem endR_keep1 (h : S2 W r q s a c b d w) (hb : b ≤ s.size) (hs : s.size ≤ 1048576) (hd : ¬ d = 0) :
    Calls Tryd.prog 24 #[.pointer (some ⟨q, 0, none⟩)] w fun e w' => e = .returned (.agg #[.int .i64 (b : Int), .int .i64 d]) ∧ S2 W r q s a c b d w' := by
  have h1 := endR_S2 h hb hs
  rw [endC_bad hd] at h1
  have e1 : fA b d = b := by unfold fA; rw [if_neg hd]
  rw [e1] at h1
  exact h1

/-- Behind End, where nothing is wrong yet and something is left. -/
theorem endC_six {s : ByteArray} {a : Nat} (h : a < s.size) : endC s a 0 = 6 := by unfold endC; rw [if_pos h]; rfl
theorem endL6 (h : S2 W r q s a 0 b d w) (ha : a < s.size) (hs : s.size ≤ 1048576) :
    Calls Tryd.prog 23 #[.pointer (some ⟨r, 0, none⟩)] w fun e w' => ∃ f, e = .returned (.iface 67 (.pointer (some ⟨f, 0, none⟩))) ∧ S2F W r q s a 6 b d f w' := by
  have h1 := endL_some h (Nat.le_of_lt ha) hs (by rw [endC_six ha]; decide)
  rw [endC_six ha] at h1
  exact h1
theorem endR6 (h : S2 W r q s a c b 0 w) (hb : b < s.size) (hs : s.size ≤ 1048576) :
    Calls Tryd.prog 24 #[.pointer (some ⟨q, 0, none⟩)] w fun e w' => e = .returned (.agg #[.int .i64 (b : Int), .int .i64 6]) ∧ S2 W r q s a c b 6 w' := by
  have h1 := endR_S2 h (Nat.le_of_lt hb) hs
  rw [endC_six hb] at h1
  exact h1

/-- And a block of the call's own holds two numbers. -/
structure S3 (W : World) (r q : Nat) (s : ByteArray) (a : Nat) (c : Int) (b : Nat) (d : Int) (g : Nat) (x y : Int) (w : World) : Prop where
  s2 : S2 W r q s a c b d w
  wt : Blk w g #[.int .i64 x, .int .i64 y] 32
  gr : g ≠ r
  gq : g ≠ q

variable {g : Nat} {x y : Int}
theorem S3.drew (h : S3 W r q s a c b d g x y w) : S3 W r q s a c b d g x y w.drew := ⟨h.s2.drew, h.wt, h.gr, h.gq⟩
theorem S3.drewN (h : S3 W r q s a c b d g x y w) (n : Nat) : S3 W r q s a c b d g x y (w.drewN n) := ⟨h.s2.drewN n, h.wt, h.gr, h.gq⟩
theorem S3.c0 (h : S3 W r q s a c b d g x y w) : w.cell? ⟨g, 0, none⟩ = some (.int .i64 x) := by rw [Blk.cell h.wt]; rfl
theorem S3.c1 (h : S3 W r q s a c b d g x y w) : w.cell? ⟨g, 1, none⟩ = some (.int .i64 y) := by rw [Blk.cell h.wt]; rfl
theorem S3.new (h : S2 W r q s a c b d w) (x y : Int) : S3 W r q s a c b d w.heap.size x y (w.alloc (.cells #[.int .i64 x, .int .i64 y] 32)) :=
  ⟨h.alloc _, Blk.new _ _ _, by have := Blk.lt h.rd; omega, by have := Blk.lt h.rr; omega⟩
theorem S3.left {w' : World} {a' : Nat} {c' : Int} (h : S3 W r q s a c b d g x y w) (k : Rdr w' r s a' c') (o : Only r w w') : S3 W r q s a' c' b d g x y w' :=
  ⟨h.s2.left k o, Blk.only h.wt o h.gr, h.gr, h.gq⟩
theorem S3.right {w' : World} {b' : Nat} {d' : Int} (h : S3 W r q s a c b d g x y w) (k : RR w' q s b' (fA b' d') d') (o : Only q w w') : S3 W r q s a c b' d' g x y w' :=
  ⟨h.s2.right k o, Blk.only h.wt o h.gq, h.gr, h.gq⟩

theorem intL_S3 (h : S3 W r q s a c b d g x y w) (ha : a ≤ s.size) (hs : s.size ≤ 1048576) (hm : -9223372036854775808 ≤ y ∧ y ≤ 9223372036854775807) :
    Calls Tryd.prog 10 #[.pointer (some ⟨r, 0, none⟩), .int .i64 y] w fun e w' => e = .returned (.int .i64 (iV' s a y c)) ∧ S3 W r q s (iA' s a y c) (iC' s a y c) b d g x y w' :=
  (rdInt_any r a s y c w h.s2.rd ha hs hm).mono fun _ _ ⟨h1, h2, h3⟩ => ⟨h1, h.left h2 h3⟩
theorem intR_S3 (h : S3 W r q s a c b d g x y w) (hb : b ≤ s.size) (hs : s.size ≤ 1048576) (hm : -9223372036854775808 ≤ y ∧ y ≤ 9223372036854775807) :
    Calls Tryd.prog 11 #[.pointer (some ⟨q, 0, none⟩), .int .i64 y] w fun e w' => e = .returned (.int .i64 (iV' s b y d)) ∧ S3 W r q s a c (iA' s b y d) (iC' s b y d) g x y w' :=
  (rInt_any q b s y d w h.s2.rr hb hs hm).mono fun _ _ ⟨h1, h2, h3⟩ => ⟨h1, h.right h2 h3⟩
theorem txtL_S3 (h : S3 W r q s a c b d g x y w) (ha : a ≤ s.size) (hs : s.size ≤ 1048576) (hm : -9223372036854775808 ≤ y ∧ y ≤ 9223372036854775807) :
    Calls Tryd.prog 14 #[.pointer (some ⟨r, 0, none⟩), .int .i64 y] w fun e w' => e = .returned (.string (tV' s a y c)) ∧ S3 W r q s (tA' s a y c) (tC' s a y c) b d g x y w' :=
  (rdText_any r a s y c w h.s2.rd ha hs hm).mono fun _ _ ⟨h1, h2, h3⟩ => ⟨h1, h.left h2 h3⟩
theorem txtR_S3 (h : S3 W r q s a c b d g x y w) (hb : b ≤ s.size) (hs : s.size ≤ 1048576) (hm : -9223372036854775808 ≤ y ∧ y ≤ 9223372036854775807) :
    Calls Tryd.prog 15 #[.pointer (some ⟨q, 0, none⟩), .int .i64 y] w fun e w' => e = .returned (.string (tV' s b y d)) ∧ S3 W r q s a c (tA' s b y d) (tC' s b y d) g x y w' :=
  (rText_any q b s y d w h.s2.rr hb hs hm).mono fun _ _ ⟨h1, h2, h3⟩ => ⟨h1, h.right h2 h3⟩
theorem failL_S3 (h : S3 W r q s a c b d g x y w) :
    Calls Tryd.prog 16 #[.pointer (some ⟨r, 0, none⟩), .int .i64 y] w fun e w' => e = .returned (.tuple #[]) ∧ S3 W r q s a (failC c y) b d g x y w' :=
  (fail_any r a s c y w h.s2.rd).mono fun _ _ ⟨h1, h2, h3⟩ => ⟨h1, h.left h2 h3⟩
theorem failR_S3 (h : S3 W r q s a c b d g x y w) :
    Calls Tryd.prog 17 #[.pointer (some ⟨q, 0, none⟩), .int .i64 y] w fun e w' => e = .returned (.tuple #[]) ∧ S3 W r q s a c b (failC d y) g x y w' :=
  (rfail_any q b s d y w h.s2.rr).mono fun _ _ ⟨h1, h2, h3⟩ => ⟨h1, h.right h2 h3⟩

theorem nA'_le {s : ByteArray} {a : Nat} {c : Int} (ha : a ≤ s.size) : nA' s a c ≤ s.size := by
  unfold nA'
  split
  · exact nA_le ha
  · exact ha
theorem iA'_le {s : ByteArray} {a : Nat} {m c : Int} (ha : a ≤ s.size) : iA' s a m c ≤ s.size := by
  unfold iA'
  split
  · exact iA_le ha
  · exact ha
theorem tA'_le {s : ByteArray} {a : Nat} {m c : Int} (ha : a ≤ s.size) : tA' s a m c ≤ s.size := by
  unfold tA'
  split
  · unfold tA
    split
    · rename_i h
      unfold tC at h
      by_cases hi : iC s a m = 0
      · rw [if_pos hi] at h
        split at h
        · simp at h
        · omega
      · rw [if_neg hi] at h; exact absurd h hi
    · exact ha
  · exact ha
end Go.Proofs.YtpofgibolcmmlaaDoor
