/-
  The walk of the law TallyAnyhow: it returns true for any two lists and any two amounts.
  Conditions: the lists are nil, or lie in memory as the reader of the arguments says.
-/
import Derived.Test.YtfdmpahgoooepaaTallyH
namespace Go.Proofs.Ytfdmpahgoooepaa
open Go.RowKit

/-! ### Plain facts on sums -/

theorem sumV_comm (lo hi a b : Int) : sumV lo hi a b = sumV lo hi b a := by
  unfold sumV
  rw [show inB lo hi [a, b] = inB lo hi [b, a] from by simp [inB, Bool.and_comm], Int.add_comm]

theorem sumV_ok {lo hi a b : Int} (h : (sumV lo hi a b).2 = 0) : sumV lo hi a b = (a + b, 0) ∧ lo ≤ b ∧ b ≤ hi ∧ lo ≤ a + b ∧ a + b ≤ hi := by
  unfold sumV bndV at *
  by_cases h1 : inB lo hi [a, b] = true
  · rw [if_pos h1] at *
    have := inB_two h1
    by_cases h2 : inB lo hi [a + b] = true
    · rw [if_pos h2]
      have h3 : lo ≤ a + b ∧ a + b ≤ hi := by simpa [inB] using h2
      exact ⟨rfl, this.2.1, this.2.2, h3.1, h3.2⟩
    · rw [if_neg h2] at h; simp at h
  · rw [if_neg h1] at h; simp at h

theorem sumFrom_sum {l : List Int} : ∀ {t : Int}, 0 ≤ t → t ≤ 1048576 → (sumFrom t l).2 = 0 → (sumFrom t l).1 = t + l.sum ∧ 0 ≤ l.sum ∧ t + l.sum ≤ 1048576 := by
  induction l with
  | nil => intro t h0 h1 _; simp [sumFrom]; omega
  | cons n r ih =>
    intro t h0 h1 h
    rw [sumFrom] at h ⊢
    by_cases he : (sumV 0 1048576 t n).2 = 0
    · rw [if_pos he] at h ⊢
      obtain ⟨e, g1, g2, g3, g4⟩ := sumV_ok he
      rw [e] at h ⊢
      have := ih g3 g4 h
      simp only [List.sum_cons]
      omega
    · rw [if_neg he] at h
      exact absurd h he

theorem sumL_sum {l : List Int} (h : (sumL l).2 = 0) : (sumL l).1 = l.sum ∧ 0 ≤ l.sum ∧ l.sum ≤ 1048576 := by
  unfold sumL at *
  by_cases hl : 64 < l.length
  · rw [if_pos hl] at h; simp at h
  · rw [if_neg hl] at h ⊢
    have := sumFrom_sum (by omega) (by omega) h
    omega

theorem sumL_both {l m : List Int} (h1 : (sumL l).2 = 0) (h2 : (sumL m).2 = 0) (h3 : (sumL (l ++ m)).2 = 0) : sumV 0 1048576 (sumL l).1 (sumL m).1 = ((sumL (l ++ m)).1, 0) := by
  obtain ⟨e1, a1, b1⟩ := sumL_sum h1
  obtain ⟨e2, a2, b2⟩ := sumL_sum h2
  obtain ⟨e3, a3, b3⟩ := sumL_sum h3
  rw [List.sum_append] at e3 a3 b3
  rw [e1, e2, e3]
  unfold sumV bndV
  rw [if_pos (by simp [inB]; omega), if_pos (by simp [inB]; omega)]

/-! ### A slice whose elements are read, from whatever source -/

/-- The slice with this address, length and capacity holds these cells: it is nil, or its cells lie where it says. -/
def SrcAt (w : World) (a : Option Addr) (len cap : Nat) (news : List Value) : Prop :=
  (a = none ∧ len = 0 ∧ cap = 0 ∧ news = []) ∨
  ∃ ad, a = some ad ∧ news.length = len ∧ (∀ j u, news[j]? = some u → w.cell? (ad.add j) = some u) ∧ ∀ u ∈ news, u.oneCell' = true

theorem cell_lt {w : World} {p : Addr} {u : Value} (h : w.cell? p = some u) : p.block < w.heap.size := by
  by_cases hb : p.block < w.heap.size
  · exact hb
  · have : w.heap[p.block]? = none := by simp; omega
    simp [World.cell?, this] at h

theorem SrcAt.below {w w' : World} {a : Option Addr} {len cap : Nat} {news : List Value} (h : SrcAt w a len cap news) (hb : Below w.heap.size w w') : SrcAt w' a len cap news := by
  rcases h with h | ⟨ad, h1, h2, h3, h4⟩
  · exact .inl h
  · exact .inr ⟨ad, h1, h2, fun j u hj => by rw [hb.cell (cell_lt (h3 j u hj)), h3 j u hj], h4⟩

theorem wpList_append_src {P : Program} {w : World} {ops : Array Oper} {rest : List Oper} {o : Oper} {a : Act} {Q : Exit → Act → World → Prop} (hgd : o.guard = none) (s x : Operand) (t : TypeId)
    (ho : o.op = .call { callee := .builtin .append, args := #[s, x], argTypes := #[t, t] })
    (base : Nat) (e : TypeId) (i : TypeInfo) (z : Value) (bytes : Nat) (ht : P.underlying t = some (.slice e)) (hi : P.info? e = some i) (hz : i.zero = some z)
    (hsize : i.size = 1) (hby : i.bytes = bytes) (hzs : z.cells.size = 1)
    (v : Value) (n : Nat) (xs : List Value) (hs : a.eval s = v) (hown : w.ownsRow base e 1 v n xs) (hv : ¬ v = .slice none 0 0)
    (ad : Option Addr) (m c : Nat) (news : List Value) (hx : a.eval x = .slice ad m c) (hsrc : SrcAt w ad m c news)
    (h63 : n + m ≤ maxLen) (hbytes : (n + m) * bytes ≤ 140737488355328) (hbase : base ≤ w.heap.size)
    (h : ∀ g c' w', w'.ownsRow base e 1 (.slice (some ⟨g, 0, none⟩) (n + m) c') (n + m) (xs ++ news) → base ≤ g → w.grownBy w' v.ownBlock → wpList P ops Q rest (a.put o.dst (.slice (some ⟨g, 0, none⟩) (n + m) c')) w') : wpList P ops Q (o :: rest) a w := by
  rcases hsrc with ⟨rfl, rfl, rfl, rfl⟩ | ⟨ad, rfl, hl, hc, h1⟩
  · obtain ⟨g, c', hg, hgb⟩ := own_shape hown hv
    subst hg
    refine wpList_append_own_none hgd s x t ho base e i 1 ht hi _ n xs hs hown hx ?_
    exact h g c' w (by simpa using hown) hgb ⟨rfl, rfl, rfl, Nat.le_refl _, fun _ _ _ => rfl⟩
  · refine wpList_append_own w hgd s x t ho base e i z 1 bytes ht hi hz hsize hby hzs (by decide) v n xs hs hown ad m c news hx (by omega) hc h1 h63 hbytes hbase ?_
    intro v' w' hown' hgrow hnil
    have hn : ¬ v' = .slice none 0 0 := fun hh => hv (hnil.mp hh).1
    obtain ⟨g, c', hg, hgb⟩ := own_shape hown' hn
    subst hg
    exact h g c' w' hown' hgb hgrow

theorem IsRow.src {k : IntKind} {w : World} {a : Option Addr} {len cap : Nat} {z : List Int} (h : IsRow k w a len cap z) : SrcAt w a len cap ((z.take len).map (Value.int k)) ∧ (z.take len).length = len := by
  rcases h with ⟨rfl, rfl, rfl, rfl⟩ | ⟨x, rfl, hl, hm, hz, hc, hw⟩
  · exact ⟨.inl ⟨rfl, rfl, rfl, rfl⟩, rfl⟩
  · have hlen : (z.take len).length = len := by simp; omega
    refine ⟨.inr ⟨x, rfl, by simp; omega, ?_, ?_⟩, hlen⟩
    · intro j u hj
      rcases Nat.lt_or_ge j len with h | h
      · rw [List.getElem?_map, List.getElem?_take_of_lt h, List.getElem?_eq_getElem (by omega)] at hj
        simp at hj
        subst hj
        rw [hc j (by omega)]
        simp [show j < z.length by omega]
      · rw [List.getElem?_eq_none (by simp; omega)] at hj
        simp at hj
    · intro u hu
      obtain ⟨n, _, rfl⟩ := List.mem_map.mp hu
      rfl

/-- Sum over a row that the call itself made. -/
theorem sum_own {w : World} {base e g n c' : Nat} {L : List Int} {xs : List Value} (h : w.ownsRow base e 1 (.slice (some ⟨g, 0, none⟩) n c') n xs) (hx : xs = L.map (Value.int .u32)) (hn : n = L.length) (hbig : n ≤ 9223372036854775807) :
    Calls Try.prog 12 #[.slice (some ⟨g, 0, none⟩) n c'] w fun e w' => e = .returned (.tuple #[.int .u32 (sumL L).1, .int .i64 (sumL L).2]) ∧ Below w.heap.size w w' := by
  subst hx hn
  exact sum_any L g 0 c' _ hbig (own_lt h) (own_cell h)

set_option maxHeartbeats 1000000 in
theorem tallyAnyhow_core (a0 a1 : Option Addr) (cap0 cap1 : Nat) (L M : List Int) (a b : Int) (w : World) (hl : L.length ≤ 60) (hm : M.length ≤ 60)
    (h0 : SrcAt w a0 L.length cap0 (L.map (Value.int .u32))) (h1 : SrcAt w a1 M.length cap1 (M.map (Value.int .u32))) :
    Calls Try.prog 7 #[.slice a0 L.length cap0, .slice a1 M.length cap1, .int .i64 a, .int .i64 b] w fun e w' => e = .returned (.bool true) ∧ Below w.heap.size w w' := by
  obtain ⟨i0, hi, hz0, hz1, hz2⟩ := info_parts Try.infoU32
  have H0 := Lib.hid h0; clear h0
  have H1 := Lib.hid h1; clear h1
  go_enter Try.func7, Try.ntmps7
  go_wp2_with fail
  refine (works_any _).mono ?_
  rintro e w1 ⟨rfl, hb1⟩
  go_wp2_with fail
  refine (plus_any a b _).mono ?_
  rintro e w2 ⟨rfl, hb2⟩
  have g2 := below_then hb1 hb2
  clear hb1 hb2
  go_wp2_with fail
  refine (plus_any b a _).mono ?_
  rintro e w3 ⟨rfl, hb3⟩
  have g3 := below_then g2 hb3
  clear g2 hb3
  rw [sumV_comm _ _ b a]
  go_wp2_with (at_builtin; go_must (refine wpList_append_src rfl (.tmp 52) (.tmp 53) 28 rfl w3.heap.size 22 i0 (.int .u32 0) 4 Try.underlying28 hi hz0 hz1 hz2 rfl _ _ _ rfl (World.ownsRow_lit _ _ 0 (Nat.le_refl _) (by simp [maxLen]) rfl) nofun a0 L.length cap0 (L.map (Value.int .u32)) rfl (H0.out.below (below_new g3 _)) (by unfold maxLen; omega) (by omega) ((Below.refl 0 _).alloc (Nat.zero_le _) _).size ?_))
  intro r1 d1 w4 hown1 hgb1 hgrow1
  have g4 : Below w.heap.size w w4 := (below_new g3 _).grown hgrow1 (by have := g3.size; simp; omega) (fun k hk => by cases hk; exact g3.size)
  clear g3 hgrow1
  have O1 := Lib.hid hown1; clear hown1
  go_wp2_with fail
  refine (sum_own (L := L) O1.out (by simp) (by omega) (by omega)).mono ?_
  rintro e w5 ⟨rfl, hb5⟩
  have g5 := below_then g4 hb5
  clear g4 hb5
  go_wp2_with (at_builtin; refine wpList_append_src rfl (.tmp 59) (.tmp 60) 28 rfl w5.heap.size 22 i0 (.int .u32 0) 4 Try.underlying28 hi hz0 hz1 hz2 rfl _ _ _ rfl (World.ownsRow_lit _ _ 0 (Nat.le_refl _) (by simp [maxLen]) rfl) nofun a1 M.length cap1 (M.map (Value.int .u32)) rfl (H1.out.below (below_new g5 _)) (by unfold maxLen; omega) (by omega) ((Below.refl 0 _).alloc (Nat.zero_le _) _).size ?_)
  intro r2 d2 w6 hown2 hgb2 hgrow2
  have g6 : Below w.heap.size w w6 := (below_new g5 _).grown hgrow2 (by have := g5.size; simp; omega) (fun k hk => by cases hk; exact g5.size)
  clear g5 hgrow2
  have O2 := Lib.hid hown2; clear hown2
  go_wp2_with fail
  refine (sum_own (L := M) O2.out (by simp) (by omega) (by omega)).mono ?_
  rintro e w7 ⟨rfl, hb7⟩
  have g7 := below_then g6 hb7
  clear g6 hb7
  go_wp2_with (at_builtin; refine wpList_append_src rfl (.tmp 66) (.tmp 67) 28 rfl w7.heap.size 22 i0 (.int .u32 0) 4 Try.underlying28 hi hz0 hz1 hz2 rfl _ _ _ rfl (World.ownsRow_lit _ _ 0 (Nat.le_refl _) (by simp [maxLen]) rfl) nofun a0 L.length cap0 (L.map (Value.int .u32)) rfl (H0.out.below (below_new g7 _)) (by unfold maxLen; omega) (by omega) ((Below.refl 0 _).alloc (Nat.zero_le _) _).size ?_)
  intro r3 d3 w8 hown3 hgb3 hgrow3
  have g8 : Below w.heap.size w w8 := (below_new g7 _).grown hgrow3 (by have := g7.size; simp; omega) (fun k hk => by cases hk; exact g7.size)
  have z8 : w7.heap.size ≤ w8.heap.size := by have := hgrow3.size; simp at this; omega
  have z7 := g7.size
  clear g7 hgrow3
  have O3 := Lib.hid hown3; clear hown3
  go_wp2_with (at_builtin; refine wpList_append_src rfl (.tmp 68) (.tmp 69) 28 rfl w7.heap.size 22 i0 (.int .u32 0) 4 Try.underlying28 hi hz0 hz1 hz2 rfl _ _ _ rfl O3.out nofun a1 M.length cap1 (M.map (Value.int .u32)) rfl (H1.out.below g8) (by unfold maxLen; omega) (by omega) z8 ?_)
  intro r4 d4 w9 hown4 hgb4 hgrow4
  have g9 : Below w.heap.size w w9 := g8.grown hgrow4 (by omega) (fun k hk => by cases hk; exact Nat.le_trans z7 hgb3)
  clear g8 hgrow4
  have O4 := Lib.hid hown4; clear hown4
  go_wp2_with fail
  refine (sum_own (L := L ++ M) O4.out (by simp) (by simp) (by omega)).mono ?_
  rintro e w10 ⟨rfl, hb10⟩
  have g10 := below_then g9 hb10
  clear g9 hb10
  clear O1 O2 O3 O4 H0 H1 hgb1 hgb2 hgb3 hgb4 z7 z8
  by_cases e1 : (sumL L).2 = 0
  · have f1 : ((sumL L).2 != 0) = false := by simpa using e1
    by_cases e2 : (sumL M).2 = 0
    · have f2 : ((sumL M).2 != 0) = false := by simpa using e2
      by_cases e3 : (sumL (L ++ M)).2 = 0
      · have f3 : ((sumL (L ++ M)).2 != 0) = false := by simpa using e3
        have EE := Lib.hid (sumL_both e1 e2 e3)
        clear e1 e2 e3
        go_wp2_with fail
        refine (add_any _ _ _).mono ?_
        rintro e w11 ⟨rfl, hb11⟩
        rw [EE.out]
        go_wp2
        go_ret
        exact ⟨rfl, below_then g10 hb11⟩
      · have f3 : ((sumL (L ++ M)).2 != 0) = true := by simpa using e3
        clear e1 e2 e3
        go_wp2
        go_ret
        exact ⟨rfl, g10⟩
    · have f2 : ((sumL M).2 != 0) = true := by simpa using e2
      clear e1 e2
      go_wp2
      go_ret
      exact ⟨rfl, g10⟩
  · have f1 : ((sumL L).2 != 0) = true := by simpa using e1
    clear e1
    go_wp2
    go_ret
    exact ⟨rfl, g10⟩

/-- Either list is long. -/
theorem tallyAnyhow_long (a0 a1 : Option Addr) (len0 cap0 len1 cap1 : Nat) (a b : Int) (w : World) (h : 60 < len0 ∨ (¬ 60 < len0 ∧ 60 < len1)) :
    Calls Try.prog 7 #[.slice a0 len0 cap0, .slice a1 len1 cap1, .int .i64 a, .int .i64 b] w fun e w' => e = .returned (.bool true) ∧ Below w.heap.size w w' := by
  rcases h with h | ⟨h, h'⟩
  all_goals
    go_enter Try.func7, Try.ntmps7
    go_wp2_with fail
    refine (works_any _).mono ?_
    rintro e w1 ⟨rfl, hb1⟩
    go_wp2
    go_ret
    exact ⟨rfl, hb1⟩

theorem tallyAnyhow_walk (a0 : Option Addr) (len0 cap0 : Nat) (z0 : List Int) (a1 : Option Addr) (len1 cap1 : Nat) (z1 : List Int) (a2 a3 : Int) (w : World) (h0 : IsRow .u32 w a0 len0 cap0 z0) (h1 : IsRow .u32 w a1 len1 cap1 z1)
    (_w2 : (Lit.int .i64 a2).wf = true) (_w3 : (Lit.int .i64 a3).wf = true) :
    Calls Try.prog 7 #[.slice a0 len0 cap0, .slice a1 len1 cap1, .int .i64 a2, .int .i64 a3] w fun e w' => e = .returned (.bool true) ∧ Below w.heap.size w w' := by
  by_cases hl : 60 < len0
  · exact tallyAnyhow_long _ _ _ _ _ _ _ _ _ (.inl hl)
  · by_cases hm : 60 < len1
    · exact tallyAnyhow_long _ _ _ _ _ _ _ _ _ (.inr ⟨hl, hm⟩)
    · obtain ⟨s0, e0⟩ := h0.src
      obtain ⟨s1, e1⟩ := h1.src
      have := tallyAnyhow_core a0 a1 cap0 cap1 (z0.take len0) (z1.take len1) a2 a3 w (by omega) (by omega) (by rw [e0]; exact s0) (by rw [e1]; exact s1)
      rwa [e0, e1] at this

end Go.Proofs.Ytfdmpahgoooepaa
