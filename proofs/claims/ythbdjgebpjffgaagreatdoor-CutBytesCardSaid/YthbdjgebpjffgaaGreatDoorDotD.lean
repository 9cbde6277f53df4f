/-
  A row of names that may be written: what it holds; the library's Has, Clone and SortFunc at lists of names; own.
  Conditions: none.
-/
import Derived.Test.YthbdjgebpjffgaaGreatDoorDotC
import Derived.Laws.AppendOwnNone
import Derived.Lib.SlicesCompact
import Derived.Lib.SliceRun
set_option linter.unusedVariables false
set_option linter.unusedSimpArgs false
namespace Go.Proofs.YthbdjgebpjffgaaGreatDoor
open Go.RowKit Go.Shelf Go.Lib Go.Sort

/-! ### Has -/
theorem Ids.cells {w : World} {b off len cap : Nat} {L : List (Int × Int)} (h : Ids w (some ⟨b, off, none⟩) len cap L) : ∀ j, j < L.length → ∀ i v, (encId L[j]!)[i]? = some v → w.cell? ⟨b, off + j * 2 + i, none⟩ = some v := by
  intro j hj i v hv
  obtain ⟨b', off', o, q, e, hx, h0, h1⟩ := h.nth j (by rw [h.ln]; exact hj)
  simp only [Option.some.injEq, Addr.mk.injEq, and_true] at e
  obtain ⟨rfl, rfl⟩ := e
  have hL : L[j]! = (o, q) := by rw [List.getElem!_eq_getElem?_getD, hx]; rfl
  rw [hL] at hv
  match i, hv with
  | 0, hv => rw [Nat.add_zero, h0]; simpa [encId] using hv
  | 1, hv => rw [h1]; simpa [encId] using hv
theorem any_has (L : List (Int × Int)) (x : Int × Int) : (L.any fun y => decide (x = y)) = hasS L x := by
  unfold hasS
  rw [Bool.eq_iff_iff, List.any_eq_true, decide_eq_true_iff]
  constructor
  · rintro ⟨y, hy, e⟩; rw [decide_eq_true_iff] at e; exact e ▸ hy
  · intro h; exact ⟨x, h, decide_eq_true rfl⟩
/-! ### A row that may be written -/
theorem csSame {w : World} {a : Addr} {v u : Value} (h : w.cell? a = some u) : (w.setCell a v).cell? a = some v := by apply World.cell?_setCell_same; exact h
theorem csOther {w : World} {a b : Addr} {v : Value} (h : a ≠ b) : (w.setCell a v).cell? b = w.cell? b := by apply World.cell?_setCell_other; exact h
/-- Block g holds the names d from its first cell on; none of these cells is frozen. -/
def Row (w : World) (g : Nat) (d : Array (Int × Int)) : Prop := ∀ j, j < d.size →
  w.cell? ⟨g, j * 2, none⟩ = some (.int .i64 d[j]!.1) ∧ w.cell? ⟨g, j * 2 + 1, none⟩ = some (.int .u32 d[j]!.2) ∧ w.frozen? ⟨g, j * 2, none⟩ = false ∧ w.frozen? ⟨g, j * 2 + 1, none⟩ = false
theorem Row.below {w w' : World} {g : Nat} {d : Array (Int × Int)} (h : Row w g d) (hb : Below w.heap.size w w') : Row w' g d := fun j hj => by
  obtain ⟨h0, h1, f0, f1⟩ := h j hj
  have hg := cellLt h0
  exact ⟨(hb.cell (p := ⟨g, j * 2, none⟩) hg).trans h0, (hb.cell (p := ⟨g, j * 2 + 1, none⟩) hg).trans h1, (hb.frozen (p := ⟨g, j * 2, none⟩) hg).trans f0, (hb.frozen (p := ⟨g, j * 2 + 1, none⟩) hg).trans f1⟩
theorem Row.put {w : World} {g : Nat} {d : Array (Int × Int)} (h : Row w g d) {i : Nat} (_hi : i < d.size) (o q : Int) : Row ((w.setCell ⟨g, i * 2, none⟩ (.int .i64 o)).setCell ⟨g, i * 2 + 1, none⟩ (.int .u32 q)) g (d.setIfInBounds i (o, q)) := fun j hj => by
  have hj' : j < d.size := by simpa using hj
  obtain ⟨h0, h1, f0, f1⟩ := h j hj'
  refine ⟨?_, ?_, by rw [World.frozen?_setCell, World.frozen?_setCell]; exact f0, by rw [World.frozen?_setCell, World.frozen?_setCell]; exact f1⟩
  · by_cases e : j = i
    · subst e
      rw [csOther (by simp), csSame h0, getElem!_set_same d j _ hj']
    · rw [csOther (by intro k; have := congrArg Addr.off k; simp only at this; omega), csOther (by intro k; have := congrArg Addr.off k; simp only at this; omega), h0, getElem!_set_other d i j _ e]
  · by_cases e : j = i
    · subst e
      rw [csSame (by rw [csOther (by simp)]; exact h1), getElem!_set_same d j _ hj']
    · rw [csOther (by intro k; have := congrArg Addr.off k; simp only at this; omega), csOther (by intro k; have := congrArg Addr.off k; simp only at this; omega), h1, getElem!_set_other d i j _ e]
theorem Row.ids {w : World} {g n cap : Nat} {d : Array (Int × Int)} {L : List (Int × Int)} (h : Row w g d) (hl : n = L.length) (hn : n ≤ d.size) (hc : n ≤ cap) (hcap : cap ≤ 9223372036854775807) (hL : ∀ j, j < n → L[j]? = some d[j]!) : Ids w (some ⟨g, 0, none⟩) n cap L :=
  ⟨hl, hc, hcap, nofun, fun k hk => ⟨g, 0, d[k]!.1, d[k]!.2, rfl, hL k hk, by rw [Nat.zero_add]; exact (h k (by omega)).1, by rw [Nat.zero_add]; exact (h k (by omega)).2.1⟩⟩

/-- The cells of a list. -/
def idCs (L : List (Int × Int)) : List Value := L.flatMap encId
theorem idCs_len (L : List (Int × Int)) : (idCs L).length = L.length * 2 := by
  induction L with
  | nil => rfl
  | cons p r ih => simp [idCs, encId] at ih ⊢; omega
theorem idCs_app (L M : List (Int × Int)) : idCs (L ++ M) = idCs L ++ idCs M := by simp [idCs]
theorem idCs_one (L : List (Int × Int)) : ∀ u ∈ idCs L, u.oneCell' = true := by
  intro u hu
  simp only [idCs, List.mem_flatMap] at hu
  obtain ⟨x, _, hx⟩ := hu
  exact encId_one x u hx
theorem idCs_get {L : List (Int × Int)} {i : Nat} {x : Int × Int} (h : L[i]? = some x) : (idCs L)[i * 2]? = some (.int .i64 x.1) ∧ (idCs L)[i * 2 + 1]? = some (.int .u32 x.2) := by
  induction L generalizing i with
  | nil => simp at h
  | cons p r ih =>
    have e : idCs (p :: r) = Value.int .i64 p.1 :: Value.int .u32 p.2 :: idCs r := by simp [idCs, encId]
    cases i with
    | zero => rw [e]; simp at h; subst h; exact ⟨rfl, rfl⟩
    | succ j =>
      have := ih (i := j) (by simpa using h)
      rw [e, show (j + 1) * 2 = (j * 2) + 1 + 1 by omega, show j * 2 + 1 + 1 + 1 = (j * 2 + 1) + 1 + 1 by omega]
      simpa using this
/-- Cell number t of a list lies in name number t / 2. -/
theorem idCs_at {L : List (Int × Int)} {t : Nat} {u : Value} (h : (idCs L)[t]? = some u) : ∃ k x, L[k]? = some x ∧ ((t = k * 2 ∧ u = .int .i64 x.1) ∨ (t = k * 2 + 1 ∧ u = .int .u32 x.2)) := by
  have ht : t < L.length * 2 := by rw [← idCs_len]; exact (List.getElem?_eq_some_iff.1 h).1
  have hk : L[t / 2]? = some L[t / 2] := List.getElem?_eq_getElem (by omega)
  obtain ⟨g0, g1⟩ := idCs_get hk
  refine ⟨t / 2, _, hk, ?_⟩
  by_cases e : t % 2 = 0
  · have : t = t / 2 * 2 := by omega
    rw [← this] at g0
    exact .inl ⟨this, Option.some.inj (h.symm.trans g0)⟩
  · have : t = t / 2 * 2 + 1 := by omega
    rw [← this] at g1
    exact .inr ⟨this, Option.some.inj (h.symm.trans g1)⟩
theorem addPlain (b off j : Nat) : (⟨b, off, none⟩ : Addr).add j = ⟨b, off + j, none⟩ := by
  by_cases h : j = 0
  · subst h; simp [Addr.add]
  · simp [Addr.add, h]
theorem Ids.src {w : World} {ad : Addr} {len cap : Nat} {L : List (Int × Int)} (h : Ids w (some ad) len cap L) : ∀ j u, (idCs L)[j]? = some u → w.cell? (ad.add j) = some u := by
  intro j u hu
  obtain ⟨k, x, hx, hh⟩ := idCs_at hu
  obtain ⟨b', off', o, q, e, hx', h0, h1⟩ := h.nth k (by rw [h.ln]; exact (List.getElem?_eq_some_iff.1 hx).1)
  cases e
  rw [hx] at hx'
  cases hx'
  rw [addPlain]
  rcases hh with ⟨rfl, rfl⟩ | ⟨rfl, rfl⟩
  · exact h0
  · rw [← Nat.add_assoc]; exact h1
/-- A row of the call's own holds its names, and may be written. -/
theorem own_row {w : World} {B e g n cap : Nat} {L : List (Int × Int)} (h : w.ownsRow B e 2 (.slice (some ⟨g, 0, none⟩) n cap) n (idCs L)) : Row w g L.toArray := fun j hj => by
  have hj' : j < L.length := by simpa using hj
  have hn : n * 2 = L.length * 2 := by rw [← h.1, idCs_len]
  have hx : L[j]? = some L.toArray[j]! := by
    rw [List.getElem?_eq_getElem hj', getElem!_pos _ j hj]; simp
  obtain ⟨g0, g1⟩ := idCs_get hx
  exact ⟨by rw [h.cellAt (j * 2) (by omega), g0], by rw [h.cellAt (j * 2 + 1) (by omega), g1], h.frozenAt _, h.frozenAt _⟩
/-- A slice's address is that of a plain cell. -/
def Flat (al : Option Addr) : Prop := al = none ∨ ∃ g off, al = some ⟨g, off, none⟩
theorem own_ids {w : World} {B e : Nat} {v : Value} {n : Nat} {L : List (Int × Int)} (h : w.ownsRow B e 2 v n (idCs L)) : n = L.length ∧ ∃ al cap, v = .slice al L.length cap ∧ Ids w al L.length cap L ∧ Flat al := by
  have hn : n * 2 = L.length * 2 := by rw [← h.1, idCs_len]
  have hn' : n = L.length := by omega
  subst hn'
  refine ⟨rfl, ?_⟩
  rcases h.2 with ⟨h1, h2⟩ | ⟨g, cap, cur, rfl, h2, h3, h4, h5, h6⟩
  · obtain rfl : L = [] := List.length_eq_zero_iff.1 h2
    exact ⟨none, 0, h1, Ids.nil w, .inl rfl⟩
  · have hr : w.ownsRow B e 2 (.slice (some ⟨g, 0, none⟩) L.length cap) L.length (idCs L) := ⟨h.1, .inr ⟨g, cap, cur, rfl, h2, h3, h4, h5, h6⟩⟩
    refine ⟨_, cap, rfl, (own_row hr).ids rfl (by simp) h4 (by unfold maxLen at h5; omega) (fun j hj => ?_), .inr ⟨g, 0, rfl⟩⟩
    rw [List.getElem?_eq_getElem hj, getElem!_pos _ j (by simpa using hj)]; simp

theorem Tryz.infoId : (Tryz.prog.info? 83).map (fun i => (i.zero, i.size, i.bytes)) = some (some (.agg #[.int .i64 0, .int .u32 0]), 2, 16) := by kernel_rfl

/-! ### own -/
theorem own_base {w : World} {B e size n : Nat} {v : Value} {xs : List Value} (h : w.ownsRow B e size v n xs) (k : Nat) (hk : v.ownBlock = some k) : B ≤ k := by
  rcases h.2 with ⟨rfl, _⟩ | ⟨g, cap, cur, rfl, h2, _⟩
  · cases hk
  · cases hk; exact h2
theorem own_below {w w' : World} {B e size n : Nat} {v : Value} {xs : List Value} (h : w.ownsRow B e size v n xs) (hb : Below w.heap.size w w') : w'.ownsRow B e size v n xs := by
  refine ⟨h.1, ?_⟩
  rcases h.2 with h2 | ⟨g, cap, cur, h1, h2, h3, h4⟩
  · exact .inl h2
  · exact .inr ⟨g, cap, cur, h1, h2, (hb.block g (Blk.lt h3)).trans h3, h4⟩
theorem lit_own (w : World) : (w.alloc (.cells #[] 83)).ownsRow w.heap.size 83 2 (.slice (some ⟨w.heap.size, 0, none⟩) 0 0) 0 (idCs []) :=
  World.ownsRow_lit w #[] 0 (Nat.le_refl _) (by unfold maxLen; omega) rfl
end Go.Proofs.YthbdjgebpjffgaaGreatDoor
