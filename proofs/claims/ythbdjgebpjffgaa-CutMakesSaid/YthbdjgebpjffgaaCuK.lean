/-
  What the laws of layer 8 do inline: append of a list to a literal, within a region that draws its order; boxes filled later.
  Conditions: none.
-/
import Derived.Test.YthbdjgebpjffgaaCuJ
set_option linter.unusedVariables false
set_option linter.unusedSimpArgs false
namespace Go.Proofs.Ythbdjgebpjffgaa
open Go.RowKit Go.Shelf Go.Lib Go.Sort

theorem KS.ne {w0 W : World} {Bs : List Bx} {Rs : List Rl} (h : KS w0 Bs Rs W) : (∀ x, x ∈ Bs → x.1 ≠ W.heap.size) ∧ w0.heap.size ≤ W.heap.size :=
  ⟨fun x hx => by have := (h.bs x hx).lt; omega, h.bel.size⟩
theorem wp_append_list {w : World} {o : Oper} {a : Act} {K : Act → World → Prop} {Q : Exit → Act → World → Prop} (s x : Operand)
    (ho : o.op = .call { callee := .builtin .append, args := #[s, x], argTypes := #[25, 25] })
    (base : Nat) (i : TypeInfo) (hi : Try.prog.info? 29 = some i) (hz : i.zero = some (.agg #[.int .i64 0, .int .u32 0])) (hsize : i.size = 2) (hby : i.bytes = 16)
    (v : Value) (n : Nat) (N : List (Int × Int)) (hs : a.eval s = v) (hown : w.ownsRow base 29 2 v n (idCs N))
    (ad : Option Addr) (m c : Nat) (L : List (Int × Int)) (hx : a.eval x = .slice ad m c) (hsrc : Ids w ad m c L)
    (hl : n + m ≤ 1048576) (hbase : base ≤ w.heap.size)
    (h : ∀ v' w', w'.ownsRow base 29 2 v' (n + m) (idCs (N ++ L)) → w.grownBy w' v.ownBlock → K (a.put o.dst v') w') : o.wp Try.prog a w K Q := by
  cases ad with
  | none =>
    obtain rfl : m = 0 := by
      rcases Nat.eq_zero_or_pos m with e | e
      · exact e
      · obtain ⟨_, _, _, _, k, _⟩ := hsrc.nth 0 e; cases k
    obtain rfl : c = 0 := hsrc.nn rfl
    obtain rfl : L = [] := List.length_eq_zero_iff.1 hsrc.ln.symm
    have hrun := run_append_owned_none (P := Try.prog) (w := w) base 25 o.type 29 i 2 Try.underlying25 hi v n (idCs N) hown
    unfold Oper.wp
    simp [execOp, ho, resolve, invoke, builtin, hs, hx, hrun, Result.andThen]
    exact h v w (by simpa using hown) ⟨rfl, rfl, rfl, Nat.le_refl _, fun _ _ _ => rfl⟩
  | some ad =>
    refine wp_append_own w s x 25 ho base 29 i (.agg #[.int .i64 0, .int .u32 0]) 2 16 Try.underlying25 hi hz hsize hby rfl (by decide) v n (idCs N) hs hown ad m c (idCs L) hx (by rw [idCs_len, hsrc.ln]) hsrc.src (idCs_one L) (by unfold maxLen; omega) (by omega) hbase ?_
    intro v' w' hown' hgrow _
    exact h v' w' (by rw [idCs_app]; exact hown') hgrow
/-- What the append gives, and what it leaves. -/
theorem app_got {w : World} {B : Nat} {v : Value} {n : Nat} {L : List (Int × Int)} (h : w.ownsRow B 29 2 v (0 + n) (idCs ([] ++ L))) : ∃ al cap, v = .slice al n cap ∧ Ids w al n cap L ∧ Flat al := by
  obtain ⟨h1, al, cap, h2, h3, h4⟩ := own_ids (L := L) h
  have : n = L.length := by omega
  subst this
  exact ⟨al, cap, h2, h3, h4⟩
theorem lit_block {g n c : Nat} {B : Nat} (h : g ≠ B) : some g ≠ (Value.slice (some ⟨B, 0, none⟩) n c).ownBlock := fun e => h (by simpa [Value.ownBlock] using e)
end Go.Proofs.Ythbdjgebpjffgaa
