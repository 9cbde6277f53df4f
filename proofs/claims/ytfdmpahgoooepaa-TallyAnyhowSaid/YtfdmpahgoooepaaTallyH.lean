/-
  The walk of the law TallySums: it returns true for every list of uint32 numbers.
  Conditions: the list is nil, or lies in memory as the reader of the arguments says.
-/
import Derived.Test.YtfdmpahgoooepaaTallyG
import Derived.Laws.AppendOwnNone
import Derived.Deep.QuietTactic
import Derived.BigQuiet
namespace Go.Proofs.Ytfdmpahgoooepaa
open Go.RowKit

theorem Try.infoU32 : (Try.prog.info? 22).map (fun i => (i.zero, i.size, i.bytes)) = some (some (.int .u32 0), 1, 4) := by kernel_rfl

/-- What is told of a slice of integers that came in: it is nil; or it leads to a row of cap cells, the numbers zs, of which the first len are its elements. -/
def IsRow (k : IntKind) (w : World) (a : Option Addr) (len cap : Nat) (zs : List Int) : Prop :=
  (a = none ∧ len = 0 ∧ cap = 0 ∧ zs = []) ∨
  ∃ x, a = some x ∧ len ≤ cap ∧ cap ≤ maxLen ∧ zs.length = cap ∧ (∀ i, i < zs.length → w.cell? (x.add i) = some (.int k (zs.getD i 0))) ∧ ∀ n ∈ zs, (Lit.int k n).wf = true

theorem add_plain (b off j : Nat) : (⟨b, off, none⟩ : Addr).add j = ⟨b, off + j, none⟩ := by
  by_cases h : j = 0
  · subst h; simp [Addr.add]
  · simp [Addr.add, h]

/-- A row that is the call's own and not nil: its value's shape. -/
theorem own_shape {w : World} {base : Nat} {e : TypeId} {size : Nat} {v : Value} {n : Nat} {xs : List Value} (h : w.ownsRow base e size v n xs) (hn : ¬ v = .slice none 0 0) : ∃ g cap, v = .slice (some ⟨g, 0, none⟩) n cap ∧ base ≤ g := by
  rcases h.2 with ⟨h1, _⟩ | ⟨g, cap, cur, h1, h2, _⟩
  · exact absurd h1 hn
  · exact ⟨g, cap, h1, h2⟩

theorem own_lt {w : World} {base : Nat} {e : TypeId} {size : Nat} {g cap n : Nat} {xs : List Value} (h : w.ownsRow base e size (.slice (some ⟨g, 0, none⟩) n cap) n xs) : g < w.heap.size := (h.lt g rfl).2

theorem own_cell {k : IntKind} {w : World} {base : Nat} {e : TypeId} {g cap : Nat} {L : List Int} (h : w.ownsRow base e 1 (.slice (some ⟨g, 0, none⟩) L.length cap) L.length (L.map (Value.int k))) (j : Nat) (hj : j < L.length) :
    w.cell? ⟨g, 0 + j, none⟩ = some (.int k (L.getD j 0)) := by
  rw [Nat.zero_add, h.cellAt j (by omega)]
  simp [List.getElem?_eq_getElem hj]

set_option maxHeartbeats 400000 in
theorem tallySums_core (L : List Int) (b off cap : Nat) (w : World) (hlen : L.length ≤ 1000) (hb : b < w.heap.size) (hz : ∀ n ∈ L, (Lit.int .u32 n).wf = true)
    (hc : ∀ j, j < L.length → w.cell? ⟨b, off + j, none⟩ = some (.int .u32 (L.getD j 0))) :
    Calls Try.prog 4 #[.slice (some ⟨b, off, none⟩) L.length cap] w fun e w' => e = .returned (.bool true) ∧ Below w.heap.size w w' := by
  obtain ⟨i0, hi, hz0, hz1, hz2⟩ := info_parts Try.infoU32
  have HC := Lib.hid hc; clear hc
  have HZ := Lib.hid hz; clear hz
  go_enter Try.func4, Try.ntmps4
  go_wp2_with (at_builtin; refine wpList_append_own _ rfl _ _ 28 rfl w.heap.size 22 i0 (.int .u32 0) 1 4 Try.underlying28 hi hz0 hz1 hz2 rfl (by decide) _ _ _ rfl (World.ownsRow_lit _ _ 0 (Nat.le_refl _) (by simp [maxLen]) rfl) ⟨b, off, none⟩ L.length cap (L.map (Value.int .u32)) rfl (by simp) ?c1 ?c2 ?c3 ?c4 ?c5 ?_)
  case c1 =>
    intro j u hj
    rw [List.getElem?_map] at hj
    rcases Nat.lt_or_ge j L.length with h | h
    · have h1 := HC.out j h
      rw [List.getElem?_eq_getElem h] at hj
      simp [List.getElem?_eq_getElem h] at hj h1
      subst hj
      rw [← h1]
      rw [add_plain]
      exact ((Below.refl w.heap.size w).alloc (Nat.le_refl _) _).cell (p := ⟨b, off + j, none⟩) hb
    · rw [List.getElem?_eq_none h] at hj
      simp at hj
  case c2 =>
    intro u hu
    obtain ⟨n, _, rfl⟩ := List.mem_map.mp hu
    rfl
  case c3 => unfold maxLen; omega
  case c4 => omega
  case c5 => simp
  intro v' w1 hown hgrow hnn
  have hb1 : Below w.heap.size w w1 := ((Below.refl _ _).alloc (Nat.le_refl _) _).grown hgrow (by simp) (fun k hk => by cases hk; exact Nat.le_refl _)
  obtain ⟨g, cap', hv, hg⟩ := own_shape hown hnn
  rw [hv] at hown
  rw [hv]
  clear hv hnn hgrow
  have HO := Lib.hid hown; clear hown
  go_wp2_with fail
  refine (sum_any L g 0 cap' _ (by omega) (own_lt HO.out) (own_cell HO.out)).mono ?_
  rintro e w2 ⟨rfl, hb2⟩
  have hb12 := below_then hb1 hb2
  go_wp2_with fail
  refine (rsum_any L b off cap _ (by omega) HZ.out (fun j hj => (hb12.cell hb).trans (HC.out j hj))).mono ?_
  rintro e w' ⟨rfl, rfl⟩
  go_wp2
  go_loopw [8] (fun i wr => ∃ k : Nat, k ≤ L.length ∧ i = .int .i64 k ∧ Below w2.heap.size w2 wr) (fun i _ => L.length - (intOf i).toNat)
  case atStart => exact ⟨0, Nat.zero_le _, rfl, Below.refl _ _⟩
  case round =>
    obtain ⟨k, hk, rfl, hbr⟩ := hrel
    by_cases hlk : k < L.length
    · have c1 : wr.cell? ⟨g, k, none⟩ = some (.int .u32 L[k]) := by
        have h1 := own_cell HO.out k hlk
        rw [Nat.zero_add] at h1
        rw [hbr.cell (Nat.lt_of_lt_of_le (own_lt HO.out) hb2.size), hb2.cell (own_lt HO.out), h1]
        simp [hlk]
      have c2 : wr.cell? ⟨b, off + k, none⟩ = some (.int .u32 L[k]) := by
        rw [hbr.cell (Nat.lt_of_lt_of_le hb hb12.size), hb12.cell hb, HC.out k hlk]
        simp [hlk]
      go_wp2
      go_quiet (fail)
      go_wp2
      go_roundw
      case rel => exact ⟨k + 1, by omega, by go_num, below_drewN hbr _⟩
      case measure => simp [intOf]; omega
    · go_wp2
      go_ret
      exact ⟨rfl, below_then hb12 hbr⟩

/-- A list of no elements: nil, or not. -/
theorem tallySums_nil (w : World) :
    Calls Try.prog 4 #[.slice none 0 0] w fun e w' => e = .returned (.bool true) ∧ Below w.heap.size w w' := by
  obtain ⟨i0, hi, hz0, hz1, hz2⟩ := info_parts Try.infoU32
  go_enter Try.func4, Try.ntmps4
  go_wp2_with (at_builtin; refine wpList_append_own_none rfl _ _ 28 rfl w.heap.size 22 i0 1 Try.underlying28 hi _ _ _ rfl (World.ownsRow_lit _ _ 0 (Nat.le_refl _) (by simp [maxLen]) rfl) rfl ?_)
  refine (sum_none _ _ _).mono ?_
  rintro e w2 ⟨rfl, hb2⟩
  go_wp2_with fail
  refine (rsum_none _ _ _).mono ?_
  rintro e w' ⟨rfl, rfl⟩
  go_wp2
  go_loop [8] (fun i => i = .int .i64 0) (fun _ => 0)
  case atStart => rfl
  case round =>
    subst hrel
    go_wp2
    go_ret
    exact ⟨rfl, below_then ((Below.refl _ _).alloc (Nat.le_refl _) _) hb2⟩

theorem tallySums_bare (ad : Addr) (cap : Nat) (w : World) :
    Calls Try.prog 4 #[.slice (some ad) 0 cap] w fun e w' => e = .returned (.bool true) ∧ Below w.heap.size w w' := by
  obtain ⟨i0, hi, hz0, hz1, hz2⟩ := info_parts Try.infoU32
  go_enter Try.func4, Try.ntmps4
  go_wp2_with (at_builtin; refine wpList_append_own _ rfl _ _ 28 rfl w.heap.size 22 i0 (.int .u32 0) 1 4 Try.underlying28 hi hz0 hz1 hz2 rfl (by decide) _ _ _ rfl (World.ownsRow_lit _ _ 0 (Nat.le_refl _) (by simp [maxLen]) rfl) ad 0 cap [] rfl (by simp) (by simp) (by simp) (by simp [maxLen]) (by simp) (by simp) ?_)
  intro v' w1 hown hgrow hnn
  have hb1 : Below w.heap.size w w1 := ((Below.refl _ _).alloc (Nat.le_refl _) _).grown hgrow (by simp) (fun k hk => by cases hk; exact Nat.le_refl _)
  obtain ⟨g, cap', hv, hg⟩ := own_shape hown hnn
  rw [hv]
  clear hv hnn hgrow hown
  go_wp2_with fail
  refine (sum_none _ _ _).mono ?_
  rintro e w2 ⟨rfl, hb2⟩
  go_wp2_with fail
  refine (rsum_none _ _ _).mono ?_
  rintro e w' ⟨rfl, rfl⟩
  go_wp2
  go_loop [8] (fun i => i = .int .i64 0) (fun _ => 0)
  case atStart => rfl
  case round =>
    subst hrel
    go_wp2
    go_ret
    exact ⟨rfl, below_then hb1 hb2⟩

/-- A list of more than 1000 elements. -/
theorem tallySums_long (a : Option Addr) (len cap : Nat) (w : World) (h : 1000 < len) :
    Calls Try.prog 4 #[.slice a len cap] w fun e w' => e = .returned (.bool true) ∧ Below w.heap.size w w' := by
  go_enter Try.func4, Try.ntmps4
  go_wp2
  go_ret
  exact ⟨rfl, Below.refl _ _⟩

/-- What a list's numbers are, by their cells: the address is plain wherever there is one. -/
theorem row_at {k : IntKind} {w : World} {x : Addr} {zs : List Int} (h : ∀ i, i < zs.length → w.cell? (x.add i) = some (.int k (zs.getD i 0))) (h0 : 0 < zs.length) :
    ∃ b off, x = ⟨b, off, none⟩ ∧ b < w.heap.size ∧ ∀ i, i < zs.length → w.cell? ⟨b, off + i, none⟩ = some (.int k (zs.getD i 0)) := by
  obtain ⟨b, off, spot⟩ := x
  have hc := h 0 h0
  have hspot : spot = none := by simpa [Addr.add] using World.cell?_spot hc
  subst hspot
  have h' : ∀ i, i < zs.length → w.cell? ⟨b, off + i, none⟩ = some (.int k (zs.getD i 0)) := fun i hi => by rw [← add_plain]; exact h i hi
  refine ⟨b, off, rfl, ?_, h'⟩
  have hc0 := h' 0 h0
  by_cases hb : b < w.heap.size
  · exact hb
  · have : w.heap[b]? = none := by simp; omega
    simp [World.cell?, this] at hc0

theorem tallySums_walk (a : Option Addr) (len cap : Nat) (z : List Int) (w : World) (h : IsRow .u32 w a len cap z) :
    Calls Try.prog 4 #[.slice a len cap] w fun e w' => e = .returned (.bool true) ∧ Below w.heap.size w w' := by
  rcases h with ⟨rfl, rfl, rfl, rfl⟩ | ⟨x, rfl, hl, hm, hz, hcell, hwz⟩
  · exact tallySums_nil w
  · by_cases h1 : 1000 < len
    · exact tallySums_long _ _ _ _ h1
    · by_cases h0 : len = 0
      · subst h0
        exact tallySums_bare _ _ _
      · obtain ⟨b, off, rfl, hb, hc⟩ := row_at hcell (by omega)
        have hlen : (z.take len).length = len := by simp; omega
        have := tallySums_core (z.take len) b off cap w (by omega) hb (fun n hn => hwz n (List.mem_of_mem_take hn)) (fun j hj => by
          rw [hc j (by omega)]
          simp [show j < len by omega])
        rwa [hlen] at this

end Go.Proofs.Ytfdmpahgoooepaa
