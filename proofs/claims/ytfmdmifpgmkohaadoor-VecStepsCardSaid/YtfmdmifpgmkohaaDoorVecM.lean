/-
  A map from names to true: what its look-ups and its updates answer.
  Conditions: none.
-/
import Derived.Test.YtfmdmifpgmkohaaDoorVecA
import Derived.Test.YtfmdmifpgmkohaaDoorIdE
import Derived.WideKeyElems
import Derived.WideKeyRuns
import Derived.Laws.StructEq
namespace Go.Proofs.YtfmdmifpgmkohaaDoor
open Go.RowKit

def idV (p : Int × Int) : Value := .agg #[.int .i64 p.1, .int .u32 p.2]
/-- The map's entries are these names, each with true. -/
def IdMap : List (Int × Int) → List MapEntry → Prop
  | [], [] => True
  | p :: l, e :: es => e.key = idV p ∧ e.val = .bool true ∧ IdMap l es
  | _, _ => False
theorem IdMap.snoc {p : Int × Int} {b : Nat} : ∀ {l : List (Int × Int)} {es : List MapEntry}, IdMap l es → IdMap (l ++ [p]) (es ++ [{ key := idV p, val := .bool true, born := b }])
  | [], [], _ => ⟨rfl, rfl, trivial⟩
  | _ :: _, _ :: _, ⟨h1, h2, h3⟩ => ⟨h1, h2, IdMap.snoc h3⟩

theorem part_id0 (p : Int × Int) (w : World) : (part 3 #[.int .i64 p.1, .int .u32 p.2] 0).run Tryd.prog w = .ok (.int .i64 p.1) w := by kernel_rfl
theorem part_id1 (p : Int × Int) (w : World) : (part 22 #[.int .i64 p.1, .int .u32 p.2] 1).run Tryd.prog w = .ok (.int .u32 p.2) w := by kernel_rfl
theorem eql_int (d : Nat) (x y : Int) (w : World) : (Op.equalIn (d + 1) 3 (.int .i64 x) (.int .i64 y)).run Tryd.prog w = .ok (x == y) w :=
  run_equalIn_int w d 3 .i64 .i64 x y Tryd.underlying3
theorem eql_u32m (d : Nat) (x y : Int) (w : World) : (Op.equalIn (d + 1) 22 (.int .u32 x) (.int .u32 y)).run Tryd.prog w = .ok (x == y) w :=
  run_equalIn_int w d 22 .u32 .u32 x y Tryd.underlying22
theorem eql_id (p p' : Int × Int) (w : World) : (Op.equal 52 (idV p) (idV p')).run Tryd.prog w = .ok (decide (p = p')) w := by
  have h : (Op.equalIn (9998 + 2) 52 (idV p) (idV p')).run Tryd.prog w = .ok (p.1 == p'.1 && p.2 == p'.2) w := by
    unfold idV
    rw [run_equalIn_agg (P := Tryd.prog) w 9999 52 _ _ (by kernel_rfl) (by kernel_rfl)]
    simp only [Program.fieldsOf, Tryd.underlying52]
    simp only [Op.eqFields]
    rw [if_pos (by decide), if_pos (by decide)]
    simp only [Sem.run_bind, part_id0, Result.andThen_ok, eql_int 9998]
    cases h1 : (p.1 == p'.1)
    · simp
    · cases h2 : (p.2 == p'.2) <;> simp [part_id1, eql_u32m 9998, h2]
  rw [show (decide (p = p')) = (p.1 == p'.1 && p.2 == p'.2) by rw [Bool.eq_iff_iff]; simp [Prod.ext_iff]]
  exact h

theorem find_no {p : Int × Int} (w : World) : ∀ {l : List (Int × Int)} {es : List MapEntry} (i : Nat), IdMap l es → p ∉ l → (Instr.findAsking 52 (idV p) es i).run Tryd.prog w = .ok none w
  | [], [], _, _, _ => by simp [Instr.findAsking]
  | p' :: l, e :: es, i, ⟨h1, h2, h3⟩, hn => by
    have hne : ¬ p = p' := fun e => hn (by rw [e]; exact List.mem_cons_self)
    rw [Instr.findAsking, Sem.run_bind, h1, eql_id, decide_eq_false hne]
    simp only [Result.andThen_ok, Bool.false_eq_true, if_false]
    exact find_no w (i + 1) h3 (fun hm => hn (List.mem_cons_of_mem _ hm))
theorem find_yes {p : Int × Int} (w : World) : ∀ {l : List (Int × Int)} {es : List MapEntry} (i : Nat), IdMap l es → p ∈ l → ∃ j, (Instr.findAsking 52 (idV p) es i).run Tryd.prog w = .ok (some (j, .bool true)) w
  | p' :: l, e :: es, i, ⟨h1, h2, h3⟩, hm => by
    rw [Instr.findAsking, Sem.run_bind, h1, eql_id]
    by_cases he : p = p'
    · rw [decide_eq_true he]
      exact ⟨i, by simp [h2]⟩
    · rw [decide_eq_false he]
      simp only [Result.andThen_ok, Bool.false_eq_true, if_false]
      exact find_yes w (i + 1) h3 (by rcases List.mem_cons.1 hm with h | h; exact absurd h he; exact h)

theorem check_id (em : Bool) (p : Int × Int) (w : World) : (Instr.checkKey em 10000 52 (idV p)).run Tryd.prog w = .ok () w := by
  cases em <;> (unfold idV; kernel_rfl)

theorem lookup_no {p : Int × Int} {w : World} {r clock : Nat} {l : List (Int × Int)} {es : Array MapEntry} (hb : w.heap[r]? = some (.map es clock)) (h : IdMap l es.toList) (hn : p ∉ l) :
    (Instr.lookup 48 (.map (some r)) (idV p) false).run Tryd.prog w = .ok (.bool false) w := by
  have hf := (run_findKey_eq (P := Tryd.prog) w (k := 52) (by kernel_rfl) (idV p) es.toList).trans (find_no w 0 h hn)
  have hz : (zeroValue 4).run Tryd.prog w = .ok (.bool false) w := by kernel_rfl
  simp [Instr.lookup, run_underlying Tryd.underlying48, MapKept.run_getObj_map hb, check_id, hf, hz, Result.andThen]
theorem lookup_yes {p : Int × Int} {w : World} {r clock : Nat} {l : List (Int × Int)} {es : Array MapEntry} (hb : w.heap[r]? = some (.map es clock)) (h : IdMap l es.toList) (hn : p ∈ l) :
    (Instr.lookup 48 (.map (some r)) (idV p) false).run Tryd.prog w = .ok (.bool true) w := by
  obtain ⟨j, hf0⟩ := find_yes w 0 h hn
  have hf := (run_findKey_eq (P := Tryd.prog) w (k := 52) (by kernel_rfl) (idV p) es.toList).trans hf0
  simp [Instr.lookup, run_underlying Tryd.underlying48, MapKept.run_getObj_map hb, check_id, hf, Result.andThen]
/-- The map with one name more. -/
theorem update_new {p : Int × Int} {w : World} {r clock : Nat} {l : List (Int × Int)} {es : Array MapEntry} (hb : w.heap[r]? = some (.map es clock)) (h : IdMap l es.toList) (hn : p ∉ l) :
    ∃ w', (Instr.mapUpdate 48 (.map (some r)) (idV p) (.bool true)).run Tryd.prog w = .ok () w' ∧ (∃ es', w'.heap[r]? = some (.map es' (clock + 1)) ∧ IdMap (l ++ [p]) es'.toList) ∧ w'.os = w.os ∧ w'.tape = w.tape ∧ w'.output = w.output ∧ w'.heap.size = w.heap.size ∧ ∀ k, k ≠ r → w'.heap[k]? = w.heap[k]? := by
  have hf := (run_findKey_eq (P := Tryd.prog) w (k := 52) (by kernel_rfl) (idV p) es.toList).trans (find_no w 0 h hn)
  have hlt : r < w.heap.size := by
    rcases Nat.lt_or_ge r w.heap.size with h1 | h1
    · exact h1
    · rw [Array.getElem?_eq_none h1] at hb; cases hb
  refine ⟨{ w with heap := w.heap.setIfInBounds r (.map (es.push { key := idV p, val := .bool true, born := clock }) (clock + 1)) }, ?_, ⟨es.push { key := idV p, val := .bool true, born := clock }, ?_, ?_⟩, rfl, rfl, rfl, ?_, ?_⟩
  · simp [Instr.mapUpdate, run_underlying Tryd.underlying48, MapKept.run_getObj_map hb, check_id, hf, Result.andThen, MapKept.run_setObj_map _ hb]
  · simp [hlt]
  · rw [Array.toList_push]; exact h.snoc
  · simp
  · intro k hk
    simp [Ne.symm hk]
end Go.Proofs.YtfmdmifpgmkohaaDoor
