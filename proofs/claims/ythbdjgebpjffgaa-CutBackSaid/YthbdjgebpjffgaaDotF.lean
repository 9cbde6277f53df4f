/-
  The library's Clone, SortFunc and Compact at a list of names, and package dots' Make.
  Conditions: none.
-/
import Derived.Test.YthbdjgebpjffgaaDotE
import Derived.Shelf.GgSortFunc.RowK
set_option linter.unusedVariables false
set_option linter.unusedSimpArgs false
namespace Go.Proofs.Ythbdjgebpjffgaa
open Go.RowKit Go.Shelf Go.Lib Go.Sort

/-! ### Clone -/
/-- A copy of the call's own: nil, of nothing; or a row that may be written. -/
def Own (w0 w : World) (v : Value) (L : List (Int × Int)) : Prop :=
  (v = .slice none 0 0 ∧ L = []) ∨ ∃ g cap, v = .slice (some ⟨g, 0, none⟩) L.length cap ∧ w0.heap.size ≤ g ∧ g < w.heap.size ∧ L.length ≤ cap ∧ cap ≤ 9223372036854775807 ∧ Row w g L.toArray
theorem own_own {w0 w : World} {e : TypeId} {v : Value} {n : Nat} {L : List (Int × Int)} (h : w.ownsRow w0.heap.size e 2 v n (idCs L)) : Own w0 w v L := by
  have hn : n * 2 = L.length * 2 := by rw [← h.1, idCs_len]
  have hn' : n = L.length := by omega
  subst hn'
  rcases h.2 with ⟨h1, h2⟩ | ⟨g, cap, cur, rfl, h2, h3, h4, h5, h6⟩
  · exact .inl ⟨h1, List.length_eq_zero_iff.1 h2⟩
  · have hr : w.ownsRow w0.heap.size e 2 (.slice (some ⟨g, 0, none⟩) L.length cap) L.length (idCs L) := ⟨h.1, .inr ⟨g, cap, cur, rfl, h2, h3, h4, h5, h6⟩⟩
    exact .inr ⟨g, cap, rfl, h2, Blk.lt h3, h4, by unfold maxLen at h5; omega, own_row hr⟩
theorem clone_any (al : Option Addr) (len cap : Nat) (L : List (Int × Int)) (w : World) (h : Ids w al len cap L) (hF : Flat al) (hl : len ≤ 1048576) :
    Calls Try.prog 59 #[.slice al len cap] w fun e w' => ∃ v, e = .returned v ∧ Own w w' v L ∧ Below w.heap.size w w' := by
  obtain ⟨i0, hi, hz0, hz1, hz2⟩ := info_parts Try.infoId
  have hln := h.ln
  cases al with
  | none =>
    obtain rfl : len = 0 := by
      rcases Nat.eq_zero_or_pos len with e | e
      · exact e
      · obtain ⟨_, _, _, _, k, _⟩ := h.nth 0 e; cases k
    obtain rfl : L = [] := List.length_eq_zero_iff.1 hln.symm
    exact (AnyE.slices_Clone_nil Try.layClone 0 cap w).mono fun _ _ ⟨h1, h2⟩ => ⟨_, h1, .inl ⟨rfl, rfl⟩, h2 ▸ Below.refl _ _⟩
  | some ad =>
    obtain ⟨b, off, e⟩ : ∃ b off, ad = ⟨b, off, none⟩ := by
      rcases hF with e | ⟨b, off, e⟩
      · cases e
      · cases e; exact ⟨b, off, rfl⟩
    subst e
    refine (AnyE.slices_Clone Try.layClone i0 (.agg #[.int .i64 0, .int .u32 0]) 2 16 hi hz0 hz1 hz2 rfl (by decide) Try.sizeOf29 b off len cap (idCs L) w (by rw [idCs_len, hln]) (by unfold maxLen; omega) (by omega) (fun j u hu => by have := h.src j u hu; rwa [addPlain] at this) (idCs_one L)).mono ?_
    rintro e w' ⟨v, h1, h2, _, h4⟩
    exact ⟨v, h1, own_own h2, h4⟩

/-! ### SortFunc -/
theorem hold_of_row {w : World} {g : Nat} {d : Array (Int × Int)} (h : Row w g d) : HoldsK encId 2 w g 0 d := by
  intro t ht
  have ht' : t < d.size * 2 := by simpa using ht
  obtain ⟨c0, c1, f0, f1⟩ := h (t / 2) (by omega)
  rw [get_flatK encId 2 d t ht', Nat.zero_add]
  by_cases e : t % 2 = 0
  · rw [e]
    have : t = t / 2 * 2 := by omega
    rw [← this] at c0 f0
    exact ⟨c0, f0⟩
  · have e1 : t % 2 = 1 := by omega
    rw [e1]
    have : t = t / 2 * 2 + 1 := by omega
    rw [← this] at c1 f1
    exact ⟨c1, f1⟩
theorem row_of_hold {w : World} {g : Nat} {d : Array (Int × Int)} (h : HoldsK encId 2 w g 0 d) : Row w g d := by
  intro j hj
  have h0 := h (j * 2) (by simp; omega)
  have h1 := h (j * 2 + 1) (by simp; omega)
  rw [get_flatK encId 2 d _ (by omega), Nat.zero_add] at h0 h1
  rw [show j * 2 / 2 = j by omega, show j * 2 % 2 = 0 by omega] at h0
  rw [show (j * 2 + 1) / 2 = j by omega, show (j * 2 + 1) % 2 = 1 by omega] at h1
  exact ⟨h0.1, h1.1, h0.2, h1.2⟩
theorem cmpLays (g : Nat) (d : Nat) (w : World) : CmpLays Try.prog 61 #[] encId 2 cf g 0 d w := fun _ _ _ _ x y =>
  (compare_Gr x.1 x.2 y.1 y.2 _).mono fun _ _ ⟨h1, h2⟩ => ⟨h1, h2.eq⟩
theorem below_sort {w : World} {B g n : Nat} {d : Array (Int × Int)} {os : Array Obj} (hB : B ≤ w.heap.size) (hg : B ≤ g) : Below B w (sortWorldK encId 2 w g 0 n d os) := by
  refine ⟨rfl, rfl, rfl, by simp [sortWorldK, grow, putRowK, putRow, mapBlock], fun k hk => ?_⟩
  show ((w.heap.modify g _) ++ os)[k]? = w.heap[k]?
  rw [Array.getElem?_append_left (by simp; omega), Array.getElem?_modify, if_neg (by omega)]
/-- The names of a list, sorted. -/
def srtS (L : List (Int × Int)) : List (Int × Int) := L.mergeSort fun x y => !(ltOf cf) y x
theorem sort_any {w0 : World} (v : Value) (L : List (Int × Int)) (w : World) (h : Own w0 w v L) (hl : L.length ≤ 1048576) (h0 : w0.heap.size ≤ w.heap.size) :
    Calls Try.prog 60 #[v, .func (.func 61) #[] #[]] w fun e w' => e = .returned (.tuple #[]) ∧ Own w0 w' v (srtS L) ∧ Below w0.heap.size w w' := by
  rcases h with ⟨rfl, rfl⟩ | ⟨g, cap, rfl, hg, hg2, hc, hcap, hr⟩
  · exact (AnyF.slices_SortFunc_none Try.laySort none 0 _ w).mono fun _ _ ⟨h1, h2⟩ => ⟨h1, h2 ▸ .inl ⟨rfl, by simp [srtS]⟩, h2 ▸ Below.refl _ _⟩
  · have eg : ∀ args w, (callFunc 61 args).run Try.prog w = .ok (.enter 61 args) w := enters_of Try.func61 (by kernel_rfl) rfl
    have hcon := AnyQ.slices_SortFunc_total Try.laySort 2 Try.isAgg29 Try.sizeOf29 encId encId_len encId_one cf swoId 61 #[] g 0 cap L.toArray w eg (cmpLays g L.toArray.size w) (hold_of_row hr) hg2 (by simp; omega) totId
    refine hcon.mono ?_
    rintro e w' ⟨h1, n, os, rfl⟩
    have hlen : (srtS L).length = L.length := by unfold srtS; simp
    refine ⟨h1, .inr ⟨g, cap, by rw [hlen], hg, ?_, by rw [hlen]; exact hc, hcap, ?_⟩, below_sort h0 hg⟩
    · exact lt_sortWorldK encId 2 w g 0 n _ os hg2
    · exact row_of_hold (holdsK_sortWorldK encId 2 w g 0 n L.toArray _ os hg2 (hold_of_row hr) (by simp))

/-! ### Compact -/
theorem frozen_setCells (g : Nat) : ∀ (vs : List Value) (o : Nat) (w : World) (x : Addr), (w.setCells g o vs).frozen? x = w.frozen? x
  | [], _, _, _ => rfl
  | v :: r, o, w, x => by rw [World.setCells, frozen_setCells g r]; exact World.frozen?_setCell _ _ _ _
theorem below_setCells (g : Nat) : ∀ (vs : List Value) (o : Nat) (w : World) {B : Nat}, B ≤ g → Below B w (w.setCells g o vs)
  | [], _, w, B, _ => Below.refl B w
  | v :: r, o, w, B, h => ((Below.refl B w).setCell (p := ⟨g, o, none⟩) h v).trans (below_setCells g r (o + 1) _ h)
theorem Row.clear {w : World} {g kk : Nat} {d : Array (Int × Int)} (h : Row w g d) (hk : kk < d.size) : ∃ vs : List Value, ∀ (ty : TypeId) (c : Nat),
    (Builtin.clear_ #[25] ty #[.slice (some ⟨g, kk * 2, none⟩) (d.size - kk) c]).run Try.prog w = .ok (.tuple #[]) (w.setCells g (kk * 2) vs) := by
  refine ⟨(Builtin.zeroCells (Value.agg #[.int .i64 0, .int .u32 0]).cells (d.size - kk)).toList, fun ty c => ?_⟩
  have hz : (Builtin.zeroCells (Value.agg #[.int .i64 0, .int .u32 0]).cells (d.size - kk)).toList.length = (d.size - kk) * 2 := by simp [Builtin.zeroCells, Value.cells]
  have hst := run_storeCells_cells (P := Try.prog) g (kk * 2) (Builtin.zeroCells (Value.agg #[.int .i64 0, .int .u32 0]).cells (d.size - kk)).toList 0 w
    (fun j hj => by
      obtain ⟨c0, c1, _, _⟩ := h (kk + j / 2) (by omega)
      by_cases e : j % 2 = 0
      · rw [show kk * 2 + 0 + j = (kk + j / 2) * 2 by omega, c0]; rfl
      · rw [show kk * 2 + 0 + j = (kk + j / 2) * 2 + 1 by omega, c1]; rfl)
    (fun j hj => by
      obtain ⟨_, _, f0, f1⟩ := h (kk + j / 2) (by omega)
      by_cases e : j % 2 = 0
      · rw [show kk * 2 + 0 + j = (kk + j / 2) * 2 by omega]; exact f0
      · rw [show kk * 2 + 0 + j = (kk + j / 2) * 2 + 1 by omega]; exact f1)
    (by
      intro v hv
      simp [Builtin.zeroCells, Value.cells] at hv
      obtain ⟨t, _, rfl⟩ := hv
      rcases Nat.mod_two_eq_zero_or_one t with e | e <;> simp [e, Value.oneCell'])
  simp only [Nat.add_zero] at hst
  obtain ⟨m, hm⟩ : ∃ m, d.size - kk = m + 1 := ⟨d.size - kk - 1, by omega⟩
  have hv := Try.zeroValue29
  rw [hm] at hst ⊢
  simp [Builtin.clear_, run_underlying Try.underlying25, hv, hst]
theorem Row.cut {w : World} {g kk : Nat} {d : Array (Int × Int)} (h : Row w g d) (hk : kk ≤ d.size) (vs : List Value) : Row (w.setCells g (kk * 2) vs) g (d.extract 0 kk) := fun j hj => by
  have hj' : j < kk := by simp at hj; omega
  obtain ⟨c0, c1, f0, f1⟩ := h j (by omega)
  have he : (d.extract 0 kk)[j]! = d[j]! := by
    rw [getElem!_pos _ j hj, getElem!_pos d j (by omega)]; simp
  rw [he]
  refine ⟨?_, ?_, ?_, ?_⟩
  · rw [World.cell?_setCells_out g vs (kk * 2) w _ (fun _ _ => .inl (by simp; omega))]; exact c0
  · rw [World.cell?_setCells_out g vs (kk * 2) w _ (fun _ _ => .inl (by simp; omega))]; exact c1
  · rw [frozen_setCells]; exact f0
  · rw [frozen_setCells]; exact f1
end Go.Proofs.Ythbdjgebpjffgaa
