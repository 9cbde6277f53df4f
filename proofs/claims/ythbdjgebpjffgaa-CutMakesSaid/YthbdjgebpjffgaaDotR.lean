/-
  The document's Union and Minus; and Beyond, package dots' and the document's.
  Conditions: none.
-/
import Derived.Test.YthbdjgebpjffgaaDotQ
import Derived.Test.YthbdjgebpjffgaaVecK
set_option linter.unusedVariables false
set_option linter.unusedSimpArgs false
namespace Go.Proofs.Ythbdjgebpjffgaa
open Go.RowKit Go.Shelf Go.Lib Go.Sort

/-- append of a list into a row of the call's own that is not nil. -/
theorem wpList_append_ids {w : World} {ops : Array Oper} {rest : List Oper} {o : Oper} {a : Act} {Q : Exit → Act → World → Prop} (hgd : o.guard = none) (s x : Operand)
    (ho : o.op = .call { callee := .builtin .append, args := #[s, x], argTypes := #[25, 25] })
    (base : Nat) (i : TypeInfo) (hi : Try.prog.info? 29 = some i) (hz : i.zero = some (.agg #[.int .i64 0, .int .u32 0])) (hsize : i.size = 2) (hby : i.bytes = 16)
    (v : Value) (n : Nat) (N : List (Int × Int)) (hs : a.eval s = v) (hown : w.ownsRow base 29 2 v n (idCs N)) (hv : ¬ v = .slice none 0 0)
    (ad : Option Addr) (m c : Nat) (L : List (Int × Int)) (hx : a.eval x = .slice ad m c) (hsrc : Ids w ad m c L)
    (hl : n + m ≤ 1048576) (hbase : base ≤ w.heap.size)
    (h : ∀ g c' w', w'.ownsRow base 29 2 (.slice (some ⟨g, 0, none⟩) (n + m) c') (n + m) (idCs (N ++ L)) → base ≤ g → w.grownBy w' v.ownBlock → wpList Try.prog ops Q rest (a.put o.dst (.slice (some ⟨g, 0, none⟩) (n + m) c')) w') : wpList Try.prog ops Q (o :: rest) a w := by
  cases ad with
  | none =>
    obtain rfl : m = 0 := by
      rcases Nat.eq_zero_or_pos m with e | e
      · exact e
      · obtain ⟨_, _, _, _, k, _⟩ := hsrc.nth 0 e; cases k
    obtain rfl : c = 0 := hsrc.nn rfl
    obtain rfl : L = [] := List.length_eq_zero_iff.1 hsrc.ln.symm
    obtain ⟨g, c', hg, hgb⟩ := own_shape hown hv
    subst hg
    refine wpList_append_own_none hgd s x 25 ho base 29 i 2 Try.underlying25 hi _ n (idCs N) hs hown hx ?_
    exact h g c' w (by simpa using hown) hgb ⟨rfl, rfl, rfl, Nat.le_refl _, fun _ _ _ => rfl⟩
  | some ad =>
    refine wpList_append_own w hgd s x 25 ho base 29 i (.agg #[.int .i64 0, .int .u32 0]) 2 16 Try.underlying25 hi hz hsize hby rfl (by decide) v n (idCs N) hs hown ad m c (idCs L) hx (by rw [idCs_len, hsrc.ln]) hsrc.src (idCs_one L) (by unfold maxLen; omega) (by omega) hbase ?_
    intro v' w' hown' hgrow hnil
    have hne : ¬ v' = .slice none 0 0 := fun e => hv (hnil.1 e).1
    obtain ⟨g, c', rfl, hgb⟩ := own_shape hown' hne
    exact h g c' w' (by rw [idCs_app]; exact hown') hgb hgrow

/-! ### The document's -/
end Go.Proofs.Ythbdjgebpjffgaa
