/-
  The walk of the law VecSteps.
  Conditions: the library's own table of powers of ten holds what its text says.
-/
import Derived.Test.YtfmdmifpgmkohaaDoorVecN
import Derived.Test.YtfmdmifpgmkohaaDoorVecM
import Derived.Test.YtfmdmifpgmkohaaDoorVecX
namespace Go.Proofs.YtfmdmifpgmkohaaDoor
open Go.RowKit

/-- Whether the map has the name. -/
def InMap (tk : Bool) (p : Int × Int) (l : List (Int × Int)) : Prop := tk = true ↔ p ∈ l
/-- What the law holds from round to round: the vector, the map of the names taken, where the list's present name lies. -/
structure SI (w0 : World) (g3 r : Nat) (v : Nat → Int) (l : List (Int × Int)) (wr : World) : Prop where
  bel : Below w0.heap.size w0 wr
  a : Blk wr g3 #[.int .u32 (v 0), .int .u32 (v 1), .int .u32 (v 2), .int .u32 (v 3), .int .u32 (v 4), .int .u32 (v 5), .int .u32 (v 6), .int .u32 (v 7)] 24
  m : ∃ es clock, wr.heap[r]? = some (.map es clock) ∧ IdMap l es.toList
  hg : w0.heap.size ≤ g3
  hr : w0.heap.size ≤ r
  ne : g3 ≠ r
section
variable {w0 wr w' : World} {g3 r : Nat} {v u : Nat → Int} {l : List (Int × Int)}
theorem SI.rlt (h : SI w0 g3 r v l wr) : r < wr.heap.size := by
  obtain ⟨es, clock, hm, _⟩ := h.m
  rcases Nat.lt_or_ge r wr.heap.size with h1 | h1
  · exact h1
  · rw [Array.getElem?_eq_none h1] at hm; cases hm
theorem SI.drew (h : SI w0 g3 r v l wr) : SI w0 g3 r v l wr.drew := ⟨⟨h.bel.os, h.bel.tape, h.bel.output, h.bel.size, h.bel.block⟩, h.a, h.m, h.hg, h.hr, h.ne⟩
theorem SI.next (h : SI w0 g3 r v l wr) (hb : Below wr.heap.size wr w') : SI w0 g3 r v l w' :=
  ⟨below_then h.bel hb, h.a.below hb, by obtain ⟨es, clock, hm, hi⟩ := h.m; exact ⟨es, clock, (hb.block r h.rlt).trans hm, hi⟩, h.hg, h.hr, h.ne⟩
theorem SI.alloc (h : SI w0 g3 r v l wr) (x : Obj) : SI w0 g3 r v l (wr.alloc x) :=
  ⟨below_new h.bel x, h.a.alloc x, by obtain ⟨es, clock, hm, hi⟩ := h.m; exact ⟨es, clock, (Below.heap_alloc wr x r h.rlt).trans hm, hi⟩, h.hg, h.hr, h.ne⟩
theorem SI.set (h : SI w0 g3 r v l wr) (g : Nat) (hg : w0.heap.size ≤ g) (h3 : g3 ≠ g) (hr : r ≠ g) (j : Nat) (x : Value) : SI w0 g3 r v l (wr.setCell ⟨g, j, none⟩ x) :=
  ⟨h.bel.setCell (by simpa using hg) _, h.a.far h3 _ _, by obtain ⟨es, clock, hm, hi⟩ := h.m; exact ⟨es, clock, (Below.heap_setCell wr ⟨g, j, none⟩ x r hr).trans hm, hi⟩, h.hg, h.hr, h.ne⟩
end

theorem SI.update {w0 wr wu : World} {g3 r : Nat} {v : Nat → Int} {l : List (Int × Int)} {p : Int × Int} (h : SI w0 g3 r v l wr) {clock : Nat} (hm : ∃ es', wu.heap[r]? = some (.map es' (clock + 1)) ∧ IdMap (l ++ [p]) es'.toList)
    (e1 : wu.os = wr.os) (e2 : wu.tape = wr.tape) (e3 : wu.output = wr.output) (e4 : wu.heap.size = wr.heap.size) (e5 : ∀ k, k ≠ r → wu.heap[k]? = wr.heap[k]?) : SI w0 g3 r v (l ++ [p]) wu := by
  obtain ⟨es', hm1, hm2⟩ := hm
  exact ⟨⟨e1.trans h.bel.os, e2.trans h.bel.tape, e3.trans h.bel.output, by rw [e4]; exact h.bel.size, fun i hi => (e5 i (fun e => by have := h.hr; omega)).trans (h.bel.block i hi)⟩, (e5 g3 h.ne).trans h.a, ⟨es', clock + 1, hm1, hm2⟩, h.hg, h.hr, h.ne⟩
theorem SI.row {w0 wr : World} {g3 r : Nat} {v : Nat → Int} {l : List (Int × Int)} (h : SI w0 g3 r v l wr) (u : Nat → Int) : SI w0 g3 r u l (wr.setRow g3 #[.int .u32 (u 0), .int .u32 (u 1), .int .u32 (u 2), .int .u32 (u 3), .int .u32 (u 4), .int .u32 (u 5), .int .u32 (u 6), .int .u32 (u 7)]) := by
  obtain ⟨es, clock, hm, hi⟩ := h.m
  exact ⟨below_setRow h.bel h.hg _, setRow_heap _ _ _ _ _ _ h.a, ⟨es, clock, (setRow_other _ _ _ _ (fun e => h.ne e.symm)).trans hm, hi⟩, h.hg, h.hr, h.ne⟩

/-- .. within a round: the present name. -/
structure SK (w0 : World) (g3 r : Nat) (v : Nat → Int) (l : List (Int × Int)) (lb p : Nat) (o q : Int) (wr : World) : Prop where
  s : SI w0 g3 r v l wr
  i0 : w0.cell? ⟨lb, p, none⟩ = some (.int .i64 o)
  i1 : w0.cell? ⟨lb, p + 1, none⟩ = some (.int .u32 q)
section
variable {w0 wr w' : World} {g3 r : Nat} {v u : Nat → Int} {l : List (Int × Int)} {lb p : Nat} {o q : Int}
theorem SK.drew (h : SK w0 g3 r v l lb p o q wr) : SK w0 g3 r v l lb p o q wr.drew := ⟨h.s.drew, h.i0, h.i1⟩
theorem SK.next (h : SK w0 g3 r v l lb p o q wr) (hb : Below wr.heap.size wr w') : SK w0 g3 r v l lb p o q w' := ⟨h.s.next hb, h.i0, h.i1⟩
theorem SK.alloc (h : SK w0 g3 r v l lb p o q wr) (x : Obj) : SK w0 g3 r v l lb p o q (wr.alloc x) := ⟨h.s.alloc x, h.i0, h.i1⟩
theorem SK.set (h : SK w0 g3 r v l lb p o q wr) (g : Nat) (hg : w0.heap.size ≤ g) (h3 : g3 ≠ g) (hr : r ≠ g) (j : Nat) (x : Value) : SK w0 g3 r v l lb p o q (wr.setCell ⟨g, j, none⟩ x) := ⟨h.s.set g hg h3 hr j x, h.i0, h.i1⟩
theorem SK.c0 (h : SK w0 g3 r v l lb p o q wr) : wr.cell? ⟨lb, p, none⟩ = some (.int .i64 o) := (h.s.bel.cell (p := ⟨lb, p, none⟩) (block_lt_of_cell h.i0)).trans h.i0
theorem SK.c1 (h : SK w0 g3 r v l lb p o q wr) : wr.cell? ⟨lb, p + 1, none⟩ = some (.int .u32 q) := (h.s.bel.cell (p := ⟨lb, p + 1, none⟩) (block_lt_of_cell h.i1)).trans h.i1
theorem SK.all (h : SK w0 g3 r v l lb p o q wr) : wr.cell? ⟨g3, 0, none⟩ = some (.int .u32 (v 0)) ∧ wr.cell? ⟨g3, 1, none⟩ = some (.int .u32 (v 1)) ∧ wr.cell? ⟨g3, 2, none⟩ = some (.int .u32 (v 2)) ∧ wr.cell? ⟨g3, 3, none⟩ = some (.int .u32 (v 3)) ∧ wr.cell? ⟨g3, 4, none⟩ = some (.int .u32 (v 4)) ∧ wr.cell? ⟨g3, 5, none⟩ = some (.int .u32 (v 5)) ∧ wr.cell? ⟨g3, 6, none⟩ = some (.int .u32 (v 6)) ∧ wr.cell? ⟨g3, 7, none⟩ = some (.int .u32 (v 7)) ∧ wr.cell? ⟨lb, p, none⟩ = some (.int .i64 o) ∧ wr.cell? ⟨lb, p + 1, none⟩ = some (.int .u32 q) ∧ SK w0 g3 r v l lb p o q wr :=
  ⟨vec_cell h.s.a 0 (by omega), vec_cell h.s.a 1 (by omega), vec_cell h.s.a 2 (by omega), vec_cell h.s.a 3 (by omega), vec_cell h.s.a 4 (by omega), vec_cell h.s.a 5 (by omega), vec_cell h.s.a 6 (by omega), vec_cell h.s.a 7 (by omega), h.c0, h.c1, h⟩
theorem SK.held {c0 c1 c2 c3 c4 c5 c6 c7 d0 d1 : Prop} (h : c0 ∧ c1 ∧ c2 ∧ c3 ∧ c4 ∧ c5 ∧ c6 ∧ c7 ∧ d0 ∧ d1 ∧ SK w0 g3 r v l lb p o q wr) : SK w0 g3 r v l lb p o q wr := h.2.2.2.2.2.2.2.2.2.2
theorem take_SK (x u : Nat → Int) (a b c : Int) (hx : ∀ i, i < 8 → 0 ≤ x i ∧ x i ≤ 4294967295) (ht : takeV x a b = (u, c)) (h : SK w0 g3 r v l lb p o q wr) :
    Calls Tryd.prog 21 #[.agg #[.int .u32 (x 0), .int .u32 (x 1), .int .u32 (x 2), .int .u32 (x 3), .int .u32 (x 4), .int .u32 (x 5), .int .u32 (x 6), .int .u32 (x 7)], .agg #[.int .i64 a, .int .u32 b]] wr fun e w' => e = .returned (.tuple #[.agg #[.int .u32 (u 0), .int .u32 (u 1), .int .u32 (u 2), .int .u32 (u 3), .int .u32 (u 4), .int .u32 (u 5), .int .u32 (u 6), .int .u32 (u 7)], .int .i64 c]) ∧ SK w0 g3 r v l lb p o q w' ∧ Kept wr w' :=
  (take_any x a b wr hx).mono fun _ _ ⟨h1, h2⟩ => ⟨by rw [h1, ht], h.next h2, h2⟩
theorem SK.look {tk : Bool} (h : SK w0 g3 r v l lb p o q wr) (hm : InMap tk (o, q) l) : (Instr.lookup 48 (.map (some r)) (.agg #[.int .i64 o, .int .u32 q]) false).run Tryd.prog wr = .ok (.bool tk) wr := by
  obtain ⟨es, clock, hb, hi⟩ := h.s.m
  cases tk
  · exact lookup_no (p := (o, q)) hb hi (fun hh => by have := hm.2 hh; cases this)
  · exact lookup_yes (p := (o, q)) hb hi (hm.1 rfl)
end

/-- .. and what Take answered, in a block of its own. -/
structure SG (w0 : World) (g3 r : Nat) (v : Nat → Int) (l : List (Int × Int)) (lb p : Nat) (o q : Int) (g7 : Nat) (u : Nat → Int) (wr : World) : Prop where
  k : SK w0 g3 r v l lb p o q wr
  b : Blk wr g7 #[.int .u32 (u 0), .int .u32 (u 1), .int .u32 (u 2), .int .u32 (u 3), .int .u32 (u 4), .int .u32 (u 5), .int .u32 (u 6), .int .u32 (u 7)] 24
  h7 : w0.heap.size ≤ g7
  n3 : g3 ≠ g7
  nr : r ≠ g7
section
variable {w0 W w' : World} {g3 r : Nat} {v u : Nat → Int} {l : List (Int × Int)} {lb p : Nat} {o q : Int} {g7 : Nat}
theorem SG.drew (h : SG w0 g3 r v l lb p o q g7 u W) : SG w0 g3 r v l lb p o q g7 u W.drew := ⟨h.k.drew, h.b, h.h7, h.n3, h.nr⟩
theorem SG.next (h : SG w0 g3 r v l lb p o q g7 u W) (hb : Below W.heap.size W w') : SG w0 g3 r v l lb p o q g7 u w' := ⟨h.k.next hb, h.b.below hb, h.h7, h.n3, h.nr⟩
/-- The answer's block is made behind the call. -/
theorem SG.s1 (h : SK w0 g3 r v l lb p o q W) : SG w0 g3 r v l lb p o q W.heap.size u (W.alloc (.cells #[.int .u32 (u 0), .int .u32 (u 1), .int .u32 (u 2), .int .u32 (u 3), .int .u32 (u 4), .int .u32 (u 5), .int .u32 (u 6), .int .u32 (u 7)] 24)) :=
  ⟨h.alloc _, Blk.new _ _ _, h.s.bel.size, Nat.ne_of_lt h.s.a.lt, Nat.ne_of_lt h.s.rlt⟩
/-- .. ahead of it. -/
theorem SG.s2 {g : Nat} (h : SK w0 g3 r v l lb p o q W) (hg : w0.heap.size ≤ g) (h3 : g3 ≠ g) (hr : r ≠ g) (hz : Blk W g #[.int .u32 0, .int .u32 0, .int .u32 0, .int .u32 0, .int .u32 0, .int .u32 0, .int .u32 0, .int .u32 0] 24) : SG w0 g3 r v l lb p o q g u ((((((((W.setCell ⟨g, 0, none⟩ (.int .u32 (u 0))).setCell ⟨g, 1, none⟩ (.int .u32 (u 1))).setCell ⟨g, 2, none⟩ (.int .u32 (u 2))).setCell ⟨g, 3, none⟩ (.int .u32 (u 3))).setCell ⟨g, 4, none⟩ (.int .u32 (u 4))).setCell ⟨g, 5, none⟩ (.int .u32 (u 5))).setCell ⟨g, 6, none⟩ (.int .u32 (u 6))).setCell ⟨g, 7, none⟩ (.int .u32 (u 7))) :=
  ⟨(((((((h.set g hg h3 hr 0 _).set g hg h3 hr 1 _).set g hg h3 hr 2 _).set g hg h3 hr 3 _).set g hg h3 hr 4 _).set g hg h3 hr 5 _).set g hg h3 hr 6 _).set g hg h3 hr 7 _, set8_same u hz, hg, h3, hr⟩
theorem has_SG (x : Nat → Int) (a b : Int) (tk : Bool) (ht : hasV x a b = tk) (h : SG w0 g3 r v l lb p o q g7 u W) :
    Calls Tryd.prog 22 #[.agg #[.int .u32 (x 0), .int .u32 (x 1), .int .u32 (x 2), .int .u32 (x 3), .int .u32 (x 4), .int .u32 (x 5), .int .u32 (x 6), .int .u32 (x 7)], .agg #[.int .i64 a, .int .u32 b]] W fun e w' => e = .returned (.bool tk) ∧ SG w0 g3 r v l lb p o q g7 u w' :=
  (has_any x a b W).mono fun _ _ ⟨h1, h2⟩ => ⟨by rw [h1, ht], h.next h2⟩
theorem SG.all {tk : Bool} (hm : InMap tk (o, q) l) (h : SG w0 g3 r v l lb p o q g7 u W) : W.cell? ⟨g3, 0, none⟩ = some (.int .u32 (v 0)) ∧ W.cell? ⟨g3, 1, none⟩ = some (.int .u32 (v 1)) ∧ W.cell? ⟨g3, 2, none⟩ = some (.int .u32 (v 2)) ∧ W.cell? ⟨g3, 3, none⟩ = some (.int .u32 (v 3)) ∧ W.cell? ⟨g3, 4, none⟩ = some (.int .u32 (v 4)) ∧ W.cell? ⟨g3, 5, none⟩ = some (.int .u32 (v 5)) ∧ W.cell? ⟨g3, 6, none⟩ = some (.int .u32 (v 6)) ∧ W.cell? ⟨g3, 7, none⟩ = some (.int .u32 (v 7)) ∧ W.cell? ⟨lb, p, none⟩ = some (.int .i64 o) ∧ W.cell? ⟨lb, p + 1, none⟩ = some (.int .u32 q) ∧ (Instr.lookup 48 (.map (some r)) (.agg #[.int .i64 o, .int .u32 q]) false).run Tryd.prog W = .ok (.bool tk) W ∧ SG w0 g3 r v l lb p o q g7 u W :=
  ⟨vec_cell h.k.s.a 0 (by omega), vec_cell h.k.s.a 1 (by omega), vec_cell h.k.s.a 2 (by omega), vec_cell h.k.s.a 3 (by omega), vec_cell h.k.s.a 4 (by omega), vec_cell h.k.s.a 5 (by omega), vec_cell h.k.s.a 6 (by omega), vec_cell h.k.s.a 7 (by omega), h.k.c0, h.k.c1, h.k.look hm, h⟩
theorem SG.held {c0 c1 c2 c3 c4 c5 c6 c7 d0 d1 d2 : Prop} (h : c0 ∧ c1 ∧ c2 ∧ c3 ∧ c4 ∧ c5 ∧ c6 ∧ c7 ∧ d0 ∧ d1 ∧ d2 ∧ SG w0 g3 r v l lb p o q g7 u W) : SG w0 g3 r v l lb p o q g7 u W := h.2.2.2.2.2.2.2.2.2.2.2
end


set_option maxRecDepth 100000 in
set_option maxHeartbeats 4000000 in
theorem vecSteps_walk (al : Option Addr) (len cap : Nat) (w : World) (ht : Tab w) (hl : IdsAt w al len) :
    Calls Tryd.prog 5 #[.slice al len cap] w fun e w' => e = .returned (.bool true) ∧ Below w.heap.size w w' := by
  obtain ⟨hlen, hids⟩ := hl
  have HL := Lib.hid hids; clear hids
  have HT := Lib.hid ht; clear ht
  go_enter Tryd.func5, Tryd.ntmps5
  go_wp2_with fail
  refine (vworks_any _ HT.out).mono ?_
  rintro e w1 ⟨rfl, b1⟩
  have hs1 := b1.size
  have hS0 : SI w w1.heap.size (w1.heap.size + 1) zV [] ((w1.alloc (.cells #[.int .u32 0, .int .u32 0, .int .u32 0, .int .u32 0, .int .u32 0, .int .u32 0, .int .u32 0, .int .u32 0] 24)).alloc (.map #[] 0)) :=
    ⟨below_new (below_new b1 _) _, (Blk.new w1 _ _).alloc _, ⟨#[], 0, by have := heap_alloc_new (w1.alloc (.cells #[.int .u32 0, .int .u32 0, .int .u32 0, .int .u32 0, .int .u32 0, .int .u32 0, .int .u32 0, .int .u32 0] 24)) (.map #[] 0); simpa using this, trivial⟩, hs1, by omega, by omega⟩
  have HS0 := Lib.hid hS0; clear hS0 HT b1
  have hmm : ∀ W, (Instr.makeMap 48 none).run Tryd.prog W = .ok (.map (some W.heap.size)) (W.alloc (.map #[] 0)) := fun _ => rfl
  go_wp2
  clear hmm
  go_loopw [4, 6] (fun n i wr => ∃ (k : Nat) (v : Nat → Int) (l : List (Int × Int)), i = .int .i64 k ∧ n = .int .u64 (totV v 8) ∧ k ≤ 100 ∧ okV v = true ∧ (∀ i, i < 8 → 0 ≤ v i) ∧ (∀ o q, (o, q) ∈ l ↔ hasV v o q = true) ∧ SI w w1.heap.size (w1.heap.size + 1) v l wr) (fun _ i _ => 100 - (intOf i).toNat)
  case atStart => exact ⟨0, zV, [], rfl, rfl, by omega, by decide, fun _ _ => Int.le_refl _, fun o q => ⟨(fun h => by cases h), fun h => by have := (chk_zero (has_iff.1 h).1).2; have := (has_iff.1 h).2; unfold zV at this; omega⟩, HS0.out⟩
  case round =>
    obtain ⟨k, v, l, rfl, rfl, hk, hok, hnn, hmem, hS⟩ := hrel
    clear HS0
    have HO := Lib.hid hok; have HN := Lib.hid hnn; have HM := Lib.hid hmem; have HS := Lib.hid hS
    clear hok hnn hmem hS
    by_cases hkl : k < len
    · by_cases hk100 : k < 100
      · obtain ⟨lb, lo, o, q, rfl, i0, i1⟩ := HL.out k hkl
        obtain ⟨u, c, htk⟩ : ∃ u c, takeV v o q = (u, c) := ⟨_, _, rfl⟩
        have HTK := Lib.hid htk; clear htk
        have HK : SK w w1.heap.size (w1.heap.size + 1) v l lb (lo + k * 2) o q wr := ⟨HS.out, i0, i1⟩
        have hrl := HS.out.rlt
        have hsz := HS.out.bel.size
        clear i0 i1
        go_upto_region 9 with fail
        go_cut [7, 8] from 12 to 74 (fun s7 s8 wx => ∃ g7 : Nat, s7 = .pointer (some ⟨g7, 0, none⟩) ∧ s8 = .int .i64 c ∧ SG w w1.heap.size (w1.heap.size + 1) v l lb (lo + k * 2) o q g7 u wx)
        case first =>
          go_region_held3 (fun w' => w'.cell? ⟨w1.heap.size, 0, none⟩ = some (.int .u32 (v 0)) ∧ w'.cell? ⟨w1.heap.size, 1, none⟩ = some (.int .u32 (v 1)) ∧ w'.cell? ⟨w1.heap.size, 2, none⟩ = some (.int .u32 (v 2)) ∧ w'.cell? ⟨w1.heap.size, 3, none⟩ = some (.int .u32 (v 3)) ∧ w'.cell? ⟨w1.heap.size, 4, none⟩ = some (.int .u32 (v 4)) ∧ w'.cell? ⟨w1.heap.size, 5, none⟩ = some (.int .u32 (v 5)) ∧ w'.cell? ⟨w1.heap.size, 6, none⟩ = some (.int .u32 (v 6)) ∧ w'.cell? ⟨w1.heap.size, 7, none⟩ = some (.int .u32 (v 7)) ∧ w'.cell? ⟨lb, lo + k * 2, none⟩ = some (.int .i64 o) ∧ w'.cell? ⟨lb, lo + k * 2 + 1, none⟩ = some (.int .u32 q) ∧ SK w w1.heap.size (w1.heap.size + 1) v l lb (lo + k * 2) o q w') (exact SK.all (by repeat (first | (with_reducible assumption) | (with_reducible exact HK) | (with_reducible refine SK.alloc ?_ _) | (with_reducible refine SK.drew ?_) | (with_reducible refine SK.set ?_ _ (by omega) (by omega) (by omega) _ _)))) (first | (go_at_call 21; refine (take_SK (w0 := w) (g3 := w1.heap.size) (r := w1.heap.size + 1) (v := v) (l := l) (lb := lb) (p := lo + k * 2) (o := o) (q := q) _ u _ _ c (fun i hi => ⟨HN.out i hi, by have := okV_iff.1 HO.out i hi; omega⟩) HTK.out (by first | (with_reducible assumption) | exact SK.held (by assumption))).mono ?_; rintro e wj ⟨rfl, hJ, hkj⟩; have cj := hkj.cell; have fj := hkj.free; have zj := hkj.lt; (first | (have y1 : wr.heap.size < wj.heap.size := zj _ (by first | (with_reducible assumption) | omega | (simp; done) | (simp; omega))) | skip)))
          all_goals
            go_wp2_with fail
            go_meet
            first | (with_reducible exact ⟨_, rfl, rfl, SG.s1 hJ⟩) | ((with_reducible refine ⟨_, rfl, rfl, SG.s2 hJ ?_ ?_ ?_ ?_⟩); omega; omega; omega; exact (by repeat (first | (with_reducible exact Blk.new _ _ _) | (with_reducible exact blk_newS _ _ _ _) | (with_reducible refine Blk.alloc ?_ _) | (with_reducible refine Blk.drew1 ?_) | (with_reducible refine Kept.blk hkj ?_))))
        case rest =>
          obtain ⟨g7, rfl, rfl, hG⟩ := hcut
          clear HK hrl hsz
          rcases take_ways (o := o) (q := q) HO.out with ⟨hh, htw⟩ | ⟨hh, c', htw, hc⟩ | ⟨hh, k', hk', ho, hq, hch, htw⟩
          · obtain ⟨rfl, rfl⟩ := Prod.mk.inj (HTK.out.symm.trans htw)
            have HMM : Hid (InMap true (o, q) l) := Lib.hid ⟨fun _ => (HM.out o q).2 hh, fun _ => rfl⟩
            have HH := Lib.hid hh
            clear hh htw
            go_wp2_with fail
            go_region_held3 (fun w' => w'.cell? ⟨w1.heap.size, 0, none⟩ = some (.int .u32 (v 0)) ∧ w'.cell? ⟨w1.heap.size, 1, none⟩ = some (.int .u32 (v 1)) ∧ w'.cell? ⟨w1.heap.size, 2, none⟩ = some (.int .u32 (v 2)) ∧ w'.cell? ⟨w1.heap.size, 3, none⟩ = some (.int .u32 (v 3)) ∧ w'.cell? ⟨w1.heap.size, 4, none⟩ = some (.int .u32 (v 4)) ∧ w'.cell? ⟨w1.heap.size, 5, none⟩ = some (.int .u32 (v 5)) ∧ w'.cell? ⟨w1.heap.size, 6, none⟩ = some (.int .u32 (v 6)) ∧ w'.cell? ⟨w1.heap.size, 7, none⟩ = some (.int .u32 (v 7)) ∧ w'.cell? ⟨lb, lo + k * 2, none⟩ = some (.int .i64 o) ∧ w'.cell? ⟨lb, lo + k * 2 + 1, none⟩ = some (.int .u32 q) ∧ (Instr.lookup 48 (.map (some (w1.heap.size + 1))) (.agg #[.int .i64 o, .int .u32 q]) false).run Tryd.prog w' = .ok (.bool true) w' ∧ SG w w1.heap.size (w1.heap.size + 1) v l lb (lo + k * 2) o q g7 zV w') (first | exact SG.all HMM.out (by with_reducible assumption) | exact SG.all HMM.out (SG.drew (by with_reducible assumption))) (first | (go_at_call 22; refine (has_SG (w0 := w) (g3 := w1.heap.size) (r := w1.heap.size + 1) (v := v) (l := l) (lb := lb) (p := lo + k * 2) (o := o) (q := q) (g7 := g7) (u := zV) _ _ _ _ HH.out (by first | (with_reducible assumption) | exact SG.held (by assumption))).mono ?_; rintro e wh ⟨rfl, hH⟩))
            all_goals
              go_wp2
              go_roundw
              case rel => exact ⟨k + 1, v, l, by go_num, rfl, by omega, HO.out, HN.out, HM.out, (SG.k hH).s⟩
              case measure => simp [intOf]; omega
          · rcases hc with rfl | rfl
            all_goals
              obtain ⟨rfl, rfl⟩ := Prod.mk.inj (HTK.out.symm.trans htw)
              have HMM : Hid (InMap false (o, q) l) := Lib.hid ⟨(fun h => by cases h), fun h => by rw [(HM.out o q).1 h] at hh; cases hh⟩
              have HH := Lib.hid hh
              clear hh htw
              go_wp2_with fail
              go_region_held3 (fun w' => w'.cell? ⟨w1.heap.size, 0, none⟩ = some (.int .u32 (v 0)) ∧ w'.cell? ⟨w1.heap.size, 1, none⟩ = some (.int .u32 (v 1)) ∧ w'.cell? ⟨w1.heap.size, 2, none⟩ = some (.int .u32 (v 2)) ∧ w'.cell? ⟨w1.heap.size, 3, none⟩ = some (.int .u32 (v 3)) ∧ w'.cell? ⟨w1.heap.size, 4, none⟩ = some (.int .u32 (v 4)) ∧ w'.cell? ⟨w1.heap.size, 5, none⟩ = some (.int .u32 (v 5)) ∧ w'.cell? ⟨w1.heap.size, 6, none⟩ = some (.int .u32 (v 6)) ∧ w'.cell? ⟨w1.heap.size, 7, none⟩ = some (.int .u32 (v 7)) ∧ w'.cell? ⟨lb, lo + k * 2, none⟩ = some (.int .i64 o) ∧ w'.cell? ⟨lb, lo + k * 2 + 1, none⟩ = some (.int .u32 q) ∧ (Instr.lookup 48 (.map (some (w1.heap.size + 1))) (.agg #[.int .i64 o, .int .u32 q]) false).run Tryd.prog w' = .ok (.bool false) w' ∧ SG w w1.heap.size (w1.heap.size + 1) v l lb (lo + k * 2) o q g7 zV w') (first | exact SG.all HMM.out (by with_reducible assumption) | exact SG.all HMM.out (SG.drew (by with_reducible assumption))) (first | (go_at_call 22; refine (has_SG (w0 := w) (g3 := w1.heap.size) (r := w1.heap.size + 1) (v := v) (l := l) (lb := lb) (p := lo + k * 2) (o := o) (q := q) (g7 := g7) (u := zV) _ _ _ _ HH.out (by first | (with_reducible assumption) | exact SG.held (by assumption))).mono ?_; rintro e wh ⟨rfl, hH⟩))
              all_goals
                go_wp2
                go_roundw
                case rel => exact ⟨k + 1, v, l, by go_num, rfl, by omega, HO.out, HN.out, HM.out, (SG.k hH).s⟩
                case measure => simp [intOf]; omega
          · obtain ⟨rfl, rfl⟩ := Prod.mk.inj (HTK.out.symm.trans htw)
            have hnot : (o, q) ∉ l := fun h => by rw [(HM.out o q).1 h] at hh; cases hh
            have HMM : Hid (InMap false (o, q) l) := Lib.hid ⟨(fun h => by cases h), fun h => absurd h hnot⟩
            have HNOT := Lib.hid hnot
            have HH := Lib.hid hh
            have HEQ := Lib.hid (show o = (k' : Int) ∧ q = v k' + 1 ∧ chk o q = 0 from ⟨ho, hq, hch⟩)
            have hbd : ∀ i, i < 8 → 0 ≤ v i ∧ v i ≤ 4294967295 := fun i hi => ⟨HN.out i hi, by have := okV_iff.1 HO.out i hi; omega⟩
            have hT := totV_bd hbd 8 (Nat.le_refl _)
            have hT0 := hT.1
            have hT1 : totV v 8 ≤ 34359738360 := by have := hT.2; omega
            have HBD := Lib.hid hbd
            obtain ⟨u, hu⟩ : ∃ u, u = setV v k' (v k' + 1) := ⟨_, rfl⟩
            rw [← hu] at hG
            have HLE : Hid (leV v u = true) := Lib.hid (by rw [hu]; exact le_step v k')
            have HTT : Hid (totV u 8 = totV v 8 + 1) := Lib.hid (by rw [hu]; exact tot_step hk')
            have hcz := chk_zero hch
            have HOU : Hid (okV u = true) := Lib.hid (by rw [hu]; exact ok_step HO.out (by omega))
            have HNU : Hid (∀ i, i < 8 → 0 ≤ u i) := Lib.hid (by
              rw [hu]; intro i hi
              have := HN.out i hi
              unfold setV; split
              · have := hcz.2.1; omega
              · exact this)
            have HMU : Hid (∀ o' q', (o', q') ∈ l ++ [(o, q)] ↔ hasV u o' q' = true) := Lib.hid (by
              intro o' q'
              have hst := has_step (v := v) (k := k') (by rw [← ho, ← hq]; exact hch) o' q'
              rw [hu, hst, ← HM.out o' q', List.mem_append, List.mem_singleton, ho, hq])
            have HBU : Hid (∀ i, i < 8 → 0 ≤ u i ∧ u i ≤ 4294967295) := Lib.hid (fun i hi => ⟨HNU.out i hi, by have := okV_iff.1 HOU.out i hi; omega⟩)
            have HK8 := Lib.hid hk'
            clear hh htw hnot ho hq hch hbd hT hu hcz HTK hk'
            go_wp2_with fail
            go_region_held3 (fun w' => w'.cell? ⟨w1.heap.size, 0, none⟩ = some (.int .u32 (v 0)) ∧ w'.cell? ⟨w1.heap.size, 1, none⟩ = some (.int .u32 (v 1)) ∧ w'.cell? ⟨w1.heap.size, 2, none⟩ = some (.int .u32 (v 2)) ∧ w'.cell? ⟨w1.heap.size, 3, none⟩ = some (.int .u32 (v 3)) ∧ w'.cell? ⟨w1.heap.size, 4, none⟩ = some (.int .u32 (v 4)) ∧ w'.cell? ⟨w1.heap.size, 5, none⟩ = some (.int .u32 (v 5)) ∧ w'.cell? ⟨w1.heap.size, 6, none⟩ = some (.int .u32 (v 6)) ∧ w'.cell? ⟨w1.heap.size, 7, none⟩ = some (.int .u32 (v 7)) ∧ w'.cell? ⟨lb, lo + k * 2, none⟩ = some (.int .i64 o) ∧ w'.cell? ⟨lb, lo + k * 2 + 1, none⟩ = some (.int .u32 q) ∧ (Instr.lookup 48 (.map (some (w1.heap.size + 1))) (.agg #[.int .i64 o, .int .u32 q]) false).run Tryd.prog w' = .ok (.bool false) w' ∧ SG w w1.heap.size (w1.heap.size + 1) v l lb (lo + k * 2) o q g7 u w') (first | exact SG.all HMM.out (by with_reducible assumption) | exact SG.all HMM.out (SG.drew (by with_reducible assumption))) (first | (go_at_call 22; refine (has_SG (w0 := w) (g3 := w1.heap.size) (r := w1.heap.size + 1) (v := v) (l := l) (lb := lb) (p := lo + k * 2) (o := o) (q := q) (g7 := g7) (u := u) _ _ _ _ HH.out (by first | (with_reducible assumption) | exact SG.held (by assumption))).mono ?_; rintro e wh ⟨rfl, hH⟩))
            all_goals
              go_upto_region 13 with fail
              have HG := Lib.hid hH; clear hH hG
              obtain ⟨es, clock, hb, hi⟩ := HG.out.k.s.m
              obtain ⟨wu, hrun, hm', e1, e2, e3, e4, e5⟩ := update_new (p := (o, q)) hb hi HNOT.out
              have hrun' : (Instr.mapUpdate 48 (.map (some (w1.heap.size + 1))) (.agg #[.int .i64 o, .int .u32 q]) (.bool true)).run Tryd.prog wh = .ok () wu := hrun
              have HSU := Lib.hid (HG.out.k.s.update hm' e1 e2 e3 e4 e5)
              have HBU7 : Hid (Blk wu g7 #[.int .u32 (u 0), .int .u32 (u 1), .int .u32 (u 2), .int .u32 (u 3), .int .u32 (u 4), .int .u32 (u 5), .int .u32 (u 6), .int .u32 (u 7)] 24) := Lib.hid ((e5 g7 (fun e => HG.out.nr e.symm)).trans HG.out.b)
              have i0 := HG.out.k.c0
              have i1 := HG.out.k.c1
              obtain ⟨x0, x1, x2, x3, x4, x5, x6, x7⟩ := vec_cells HSU.out.a
              obtain ⟨z0, z1, z2, z3, z4, z5, z6, z7⟩ := vec_cells HBU7.out
              have H73 := Lib.hid HG.out.n3
              clear hrun hb hi hm' e1 e2 e3 e4 e5 HG
              go_wp2_with fail
              refine (le_any v u _).mono ?_
              rw [HLE.out]
              rintro e w5 ⟨rfl, b5⟩
              have HS5 := Lib.hid (HSU.out.next b5)
              have HB5 := Lib.hid (HBU7.out.below b5)
              clear hrun' i0 i1 x0 x1 x2 x3 x4 x5 x6 x7 z0 z1 z2 z3 z4 z5 z6 z7 b5 HSU HBU7
              obtain ⟨z0, z1, z2, z3, z4, z5, z6, z7⟩ := vec_cells HB5.out
              go_wp2_with fail
              refine (total_any u _ HBU.out).mono ?_
              rw [HTT.out]
              rintro e w6 ⟨rfl, b6⟩
              have HS6 := Lib.hid (HS5.out.next b6)
              have HB6 := Lib.hid (HB5.out.below b6)
              clear b6 z0 z1 z2 z3 z4 z5 z6 z7 HS5 HB5
              go_wp2_with (first | (refine wpList_load_row rfl 24 _ rfl g7 rfl 24 #[.int .u32 (u 0), .int .u32 (u 1), .int .u32 (u 2), .int .u32 (u 3), .int .u32 (u 4), .int .u32 (u 5), .int .u32 (u 6), .int .u32 (u 7)] (0, 0) _ HB6.out Tryd.underlying24 rfl (by kernel_rfl) ?_) | (refine wpList_store_row rfl 24 _ _ rfl w1.heap.size #[.int .u32 (u 0), .int .u32 (u 1), .int .u32 (u 2), .int .u32 (u 3), .int .u32 (u 4), .int .u32 (u 5), .int .u32 (u 6), .int .u32 (u 7)] rfl rfl 24 _ HS6.out.a (by kernel_rfl) rfl (vec_one _) ?_))
              go_roundw
              case rel => exact ⟨k + 1, u, l ++ [(o, q)], by go_num, by rw [HTT.out], by omega, HOU.out, HNU.out, HMU.out, HS6.out.row u⟩
              case measure => simp [intOf]; omega
      · go_wp2
        go_ret
        exact ⟨rfl, HS.out.bel⟩
    · go_wp2
      go_ret
      exact ⟨rfl, HS.out.bel⟩
end Go.Proofs.YtfmdmifpgmkohaaDoor

