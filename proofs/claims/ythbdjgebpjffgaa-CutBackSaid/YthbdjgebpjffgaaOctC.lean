/-
  What the document's own Num, Signed and Text of layer 2 answer, whatever they are given.
  Conditions: the numbers fit their kinds; a text is no longer than Go allows.
-/
import Derived.Test.YthbdjgebpjffgaaOctB
import Derived.Laws.AppendOwnNone
set_option linter.unusedVariables false
set_option linter.unusedSimpArgs false
namespace Go.Proofs.Ythbdjgebpjffgaa
open Go.RowKit

/-- A row that is the call's own and not nil: its value's shape. -/
theorem own_shape {w : World} {base : Nat} {e : TypeId} {size : Nat} {v : Value} {n : Nat} {xs : List Value} (h : w.ownsRow base e size v n xs) (hn : ¬ v = .slice none 0 0) : ∃ g cap, v = .slice (some ⟨g, 0, none⟩) n cap ∧ base ≤ g := by
  rcases h.2 with ⟨h1, _⟩ | ⟨g, cap, cur, h1, h2, _⟩
  · exact absurd h1 hn
  · exact ⟨g, cap, h1, h2⟩

theorem Try.infoU8 : (Try.prog.info? 5).map (fun i => (i.zero, i.size, i.bytes)) = some (some (.int .u8 0), 1, 1) := by kernel_rfl

/-- The cells of some bytes. -/
def bcells (L : List UInt8) : List Value := L.map fun b => Value.int .u8 (b.toNat : Int)

/-- What the document's own Num has made after k rounds. -/
def RN (v : Nat) (w : World) (k : Nat) (b : Value) (wr : World) : Prop :=
  Below w.heap.size w wr ∧ ((v / 256 ^ (8 - k) = 0 ∧ b = .slice none 0 0) ∨ (0 < v / 256 ^ (8 - k) ∧ ∃ g c n, n = (digs (v / 256 ^ (8 - k))).length ∧ b = .slice (some ⟨g, 0, none⟩) n c ∧ w.heap.size ≤ g ∧
    wr.ownsRow w.heap.size 5 1 (.slice (some ⟨g, 0, none⟩) n c) n (bcells (digs (v / 256 ^ (8 - k))))))

theorem one_at (w : World) (u : Value) (T : TypeId) : ∀ (j : Nat) (x : Value), [u][j]? = some x → (w.alloc (.cells #[u] T)).cell? ((⟨w.heap.size, 0, none⟩ : Addr).add j) = some x := by
  intro j x h
  match j, h with
  | 0, h => simpa [Addr.add] using h

theorem rn_start {v : Nat} {w : World} (hv : v < 18446744073709551616) : RN v w 0 (.slice none 0 0) w :=
  ⟨Below.refl _ _, .inl ⟨by rw [Nat.sub_zero, pow8]; exact Nat.div_eq_of_lt hv, rfl⟩⟩

theorem div_next (v k : Nat) (hk : k < 8) : v / 256 ^ (8 - k) = v / 256 ^ (7 - k) / 256 := by
  rw [show 8 - k = (7 - k) + 1 by omega, Nat.pow_succ, Nat.div_div_eq_div_mul]

theorem shr_byte (v k : Nat) : ((v : Int) / 2 ^ (8 * (7 - k)) % 256) = ((UInt8.ofNat (v / 256 ^ (7 - k))).toNat : Int) := by
  have e : ((2 : Int) ^ (8 * (7 - k))) = ((256 ^ (7 - k) : Nat) : Int) := by
    rw [Int.pow_mul, Int.natCast_pow]; rfl
  rw [e, UInt8.toNat_ofNat', ← Int.natCast_ediv]
  generalize v / 256 ^ (7 - k) = x
  omega

theorem byte_zero {x : Nat} (hc : (((UInt8.ofNat x).toNat : Int) != 0) = false) : x % 256 = 0 := by
  rw [UInt8.toNat_ofNat'] at hc
  have h2 : (((x % 2 ^ 8 : Nat) : Int)) = 0 := by simpa using hc
  omega

theorem byte_some {x : Nat} (hc : ¬ (((UInt8.ofNat x).toNat : Int) != 0) = false) : 0 < x := by
  rcases Nat.eq_zero_or_pos x with h | h
  · subst h; exact absurd rfl hc
  · exact h

theorem rn_keep {v k : Nat} {w wr : World} (hk : k < 8) (hb : Below w.heap.size w wr) (h0 : v / 256 ^ (8 - k) = 0) (hc : ((v : Int) / 2 ^ (8 * (7 - k)) % 256 != 0) = false) : RN v w (k + 1) (.slice none 0 0) wr := by
  refine ⟨hb, .inl ⟨?_, rfl⟩⟩
  rw [shr_byte] at hc
  have h1 := byte_zero hc
  rw [div_next v k hk] at h0
  rw [show 8 - (k + 1) = 7 - k by omega]
  revert h0 h1
  generalize v / 256 ^ (7 - k) = x
  omega

theorem rn_push {v k m : Nat} {w w1 : World} {v' : Value} {xs : List Value} (hk : k < 8) (hb : Below w.heap.size w w1) (hx : 0 < v / 256 ^ (7 - k)) (hown : w1.ownsRow w.heap.size 5 1 v' m xs)
    (hm : m = (digs (v / 256 ^ (8 - k))).length + 1) (hxs : xs = bcells (digs (v / 256 ^ (8 - k))) ++ [.int .u8 ((v : Int) / 2 ^ (8 * (7 - k)) % 256)]) (hn : ¬ v' = .slice none 0 0) : RN v w (k + 1) v' w1 := by
  subst hm hxs
  obtain ⟨g, c, rfl, hg⟩ := own_shape hown hn
  have e : digs (v / 256 ^ (7 - k)) = digs (v / 256 ^ (8 - k)) ++ [UInt8.ofNat (v / 256 ^ (7 - k))] := by rw [digs_pos hx, div_next v k hk]
  have e1 : (digs (v / 256 ^ (8 - k))).length + 1 = (digs (v / 256 ^ (7 - k))).length := by rw [e]; simp
  have e2 : bcells (digs (v / 256 ^ (8 - k))) ++ [.int .u8 ((v : Int) / 2 ^ (8 * (7 - k)) % 256)] = bcells (digs (v / 256 ^ (7 - k))) := by rw [e, shr_byte]; simp [bcells]
  rw [e1, e2] at hown
  rw [e1]
  refine ⟨hb, .inr ⟨by rw [show 8 - (k + 1) = 7 - k by omega]; exact hx, g, c, _, ?_, rfl, hg, ?_⟩⟩
  · rw [show 8 - (k + 1) = 7 - k by omega]
  · rw [show 8 - (k + 1) = 7 - k by omega]; exact hown

theorem rn_zero {v k : Nat} (hc : ¬ ((v : Int) / 2 ^ (8 * (7 - k)) % 256 != 0) = false) : 0 < v / 256 ^ (7 - k) := by
  rw [shr_byte] at hc
  exact byte_some hc

theorem rn_pos {v k : Nat} (hk : k < 8) (h0 : 0 < v / 256 ^ (8 - k)) : 0 < v / 256 ^ (7 - k) := by
  rw [div_next v k hk] at h0
  omega

theorem conv_one (w : World) : (convert 99 9 (.slice (some ⟨w.heap.size, 0, none⟩) 1 1)).run Try.prog (w.alloc (.cells #[.int .u8 0] 5))
      = .ok (.string ⟨#[0]⟩) (w.alloc (.cells #[.int .u8 0] 5)) := by
  exact run_convert_bytes_back (P := Try.prog) (w.alloc (.cells #[.int .u8 0] 5)) 99 9 5 ⟨w.heap.size, 0, none⟩ 1 [0] (by kernel_rfl) (by kernel_rfl) (by kernel_rfl)
    (fun j hj => by
      match j, hj with
      | 0, _ => simp [Addr.add])

theorem num_zero {v : Nat} (h : v / 256 ^ (8 - 8) = 0) : numS v = ⟨#[0]⟩ := by
  have : v = 0 := by simpa using h
  subst this
  simp [numS, numL, digs_zero]

theorem bcells_one (L : List UInt8) : ∀ u ∈ bcells L, u.oneCell' = true := by
  intro u hu
  obtain ⟨b, _, rfl⟩ := List.mem_map.mp hu
  rfl

theorem add_plain (b off j : Nat) : (⟨b, off, none⟩ : Addr).add j = ⟨b, off + j, none⟩ := by
  by_cases h : j = 0
  · subst h; simp [Addr.add]
  · simp [Addr.add, h]

theorem own_src {w : World} {base : Nat} {e : TypeId} {g n c : Nat} {xs : List Value} (h : w.ownsRow base e 1 (.slice (some ⟨g, 0, none⟩) n c) n xs) (o : Obj) (j : Nat) (u : Value) (hj : xs[j]? = some u) : (w.alloc o).cell? ((⟨g, 0, none⟩ : Addr).add j) = some u := by
  have hlt := (List.getElem?_eq_some_iff.1 hj).1
  have hl := h.1
  rw [add_plain, Nat.zero_add]
  have := (h.alloc o).cellAt j (by omega)
  rw [this, hj]

theorem conv_row {w : World} {base : Nat} {g n c : Nat} {xs : List Value} {s : ByteArray} (h : w.ownsRow base 5 1 (.slice (some ⟨g, 0, none⟩) n c) n xs) (hs : xs = bcells s.data.toList) :
    (convert 99 9 (.slice (some ⟨g, 0, none⟩) n c)).run Try.prog w = .ok (.string s) w := by
  subst hs
  have hl : s.data.toList.length = n := by have := h.1; simpa [bcells] using this
  have := run_convert_bytes_back (P := Try.prog) w 99 9 5 ⟨g, 0, none⟩ c s.data.toList (by kernel_rfl) (by kernel_rfl) (by kernel_rfl)
    (fun j hj => by
      rw [add_plain, Nat.zero_add, h.cellAt j (by omega)]
      simp only [bcells, List.getElem?_map, List.getElem?_eq_getElem hj, Option.map_some])
  rw [hl] at this
  exact this

theorem num_row {v n : Nat} (hv : v < 18446744073709551616) (h : n = (digs (v / 256 ^ (8 - 8))).length) : Value.int .u8 (n : Int) :: bcells (digs v) = bcells (numS v).data.toList := by
  have e : v / 256 ^ (8 - 8) = v := by simp
  rw [e] at h
  have h8 := digs_le8 hv
  subst h
  simp only [numS, numL, bcells, List.map_cons, UInt8.toNat_ofNat']
  rw [Nat.mod_eq_of_lt (by omega)]

theorem sgnN_pos2 {v : Int} (h : 0 ≤ v) : 2 * v = (sgnN v : Int) := by rw [← sgnN_pos h]; omega

end Go.Proofs.Ythbdjgebpjffgaa
