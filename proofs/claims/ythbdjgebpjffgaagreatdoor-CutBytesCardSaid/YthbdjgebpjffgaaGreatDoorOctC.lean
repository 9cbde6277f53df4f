/-
  What the document's own Num, Signed and Text of layer 2 answer, whatever they are given.
  Conditions: the numbers fit their kinds; a text is no longer than Go allows.
-/
import Derived.Test.YthbdjgebpjffgaaGreatDoorOctB
import Derived.Laws.AppendOwnNone
set_option linter.unusedVariables false
set_option linter.unusedSimpArgs false
namespace Go.Proofs.YthbdjgebpjffgaaGreatDoor
open Go.RowKit

/-- A row that is the call's own and not nil: its value's shape. -/
theorem own_shape {w : World} {base : Nat} {e : TypeId} {size : Nat} {v : Value} {n : Nat} {xs : List Value} (h : w.ownsRow base e size v n xs) (hn : ¬ v = .slice none 0 0) : ∃ g cap, v = .slice (some ⟨g, 0, none⟩) n cap ∧ base ≤ g := by
  rcases h.2 with ⟨h1, _⟩ | ⟨g, cap, cur, h1, h2, _⟩
  · exact absurd h1 hn
  · exact ⟨g, cap, h1, h2⟩

theorem Tryz.infoU8 : (Tryz.prog.info? 5).map (fun i => (i.zero, i.size, i.bytes)) = some (some (.int .u8 0), 1, 1) := by kernel_rfl

/-- The cells of some bytes. -/
def bcells (L : List UInt8) : List Value := L.map fun b => Value.int .u8 (b.toNat : Int)

/-- What the document's own Num has made after k rounds. -/
def RN (v : Nat) (w : World) (k : Nat) (b : Value) (wr : World) : Prop :=
  Below w.heap.size w wr ∧ ((v / 256 ^ (8 - k) = 0 ∧ b = .slice none 0 0) ∨ (0 < v / 256 ^ (8 - k) ∧ ∃ g c n, n = (digs (v / 256 ^ (8 - k))).length ∧ b = .slice (some ⟨g, 0, none⟩) n c ∧ w.heap.size ≤ g ∧
    wr.ownsRow w.heap.size 5 1 (.slice (some ⟨g, 0, none⟩) n c) n (bcells (digs (v / 256 ^ (8 - k))))))

theorem one_at (w : World) (u : Value) (T : TypeId) : ∀ (j : Nat) (x : Value), [u][j]? = some x → (w.alloc (.cells #[u] T)).cell? ((⟨w.heap.size, 0, none⟩ : Addr).add j) = some x := by
  intro j x h
  match j, h with
  | 0, h => simpa [Addr.add] using h

theorem rn_start {v : Nat} {w : World} (hv : v < 18446744073709551616) : RN v w 0 (.slice none 0 0) w :=
  ⟨Below.refl _ _, .inl ⟨by rw [Nat.sub_zero, pow8]; exact Nat.div_eq_of_lt hv, rfl⟩⟩

theorem div_next (v k : Nat) (hk : k < 8) : v / 256 ^ (8 - k) = v / 256 ^ (7 - k) / 256 := by
  rw [show 8 - k = (7 - k) + 1 by omega, Nat.pow_succ, Nat.div_div_eq_div_mul]

theorem shr_byte (v k : Nat) : ((v : Int) / 2 ^ (8 * (7 - k)) % 256) = ((UInt8.ofNat (v / 256 ^ (7 - k))).toNat : Int) := by
  have e : ((2 : Int) ^ (8 * (7 - k))) = ((256 ^ (7 - k) : Nat) : Int) := by
    rw [Int.pow_mul, Int.natCast_pow]; rfl
  rw [e, UInt8.toNat_ofNat', ← Int.natCast_ediv]
  generalize v / 256 ^ (7 - k) = x
  omega

theorem byte_zero {x : Nat} (hc : (((UInt8.ofNat x).toNat : Int) != 0) = false) : x % 256 = 0 := by
  rw [UInt8.toNat_ofNat'] at hc
  have h2 : (((x % 2 ^ 8 : Nat) : Int)) = 0 := by simpa using hc
  omega

theorem byte_some {x : Nat} (hc : ¬ (((UInt8.ofNat x).toNat : Int) != 0) = false) : 0 < x := by
  rcases Nat.eq_zero_or_pos x with h | h
  · subst h; exact absurd rfl hc
  · exact h

theorem rn_keep {v k : Nat} {w wr : World} (hk : k < 8) (hb : Below w.heap.size w wr) (h0 : v / 256 ^ (8 - k) = 0) (hc : ((v : Int) / 2 ^ (8 * (7 - k)) % 256 != 0) = false) : RN v w (k + 1) (.slice none 0 0) wr := by
  refine ⟨hb, .inl ⟨?_, rfl⟩⟩
  rw [shr_byte] at hc
  have h1 := byte_zero hc
  rw [div_next v k hk] at h0
  rw [show 8 - (k + 1) = 7 - k by omega]
  revert h0 h1
  generalize v / 256 ^ (7 - k) = x
  omega

theorem rn_push {v k m : Nat} {w w1 : World} {v' : Value} {xs : List Value} (hk : k < 8) (hb : Below w.heap.size w w1) (hx : 0 < v / 256 ^ (7 - k)) (hown : w1.ownsRow w.heap.size 5 1 v' m xs)
    (hm : m = (digs (v / 256 ^ (8 - k))).length + 1) (hxs : xs = bcells (digs (v / 256 ^ (8 - k))) ++ [.int .u8 ((v : Int) / 2 ^ (8 * (7 - k)) % 256)]) (hn : ¬ v' = .slice none 0 0) : RN v w (k + 1) v' w1 := by
  subst hm hxs
  obtain ⟨g, c, rfl, hg⟩ := own_shape hown hn
  have e : digs (v / 256 ^ (7 - k)) = digs (v / 256 ^ (8 - k)) ++ [UInt8.ofNat (v / 256 ^ (7 - k))] := by rw [digs_pos hx, div_next v k hk]
  have e1 : (digs (v / 256 ^ (8 - k))).length + 1 = (digs (v / 256 ^ (7 - k))).length := by rw [e]; simp
  have e2 : bcells (digs (v / 256 ^ (8 - k))) ++ [.int .u8 ((v : Int) / 2 ^ (8 * (7 - k)) % 256)] = bcells (digs (v / 256 ^ (7 - k))) := by rw [e, shr_byte]; simp [bcells]
  rw [e1, e2] at hown
  rw [e1]
  refine ⟨hb, .inr ⟨by rw [show 8 - (k + 1) = 7 - k by omega]; exact hx, g, c, _, ?_, rfl, hg, ?_⟩⟩
  · rw [show 8 - (k + 1) = 7 - k by omega]
  · rw [show 8 - (k + 1) = 7 - k by omega]; exact hown

theorem rn_zero {v k : Nat} (hc : ¬ ((v : Int) / 2 ^ (8 * (7 - k)) % 256 != 0) = false) : 0 < v / 256 ^ (7 - k) := by
  rw [shr_byte] at hc
  exact byte_some hc

theorem rn_pos {v k : Nat} (hk : k < 8) (h0 : 0 < v / 256 ^ (8 - k)) : 0 < v / 256 ^ (7 - k) := by
  rw [div_next v k hk] at h0
  omega

theorem conv_one (w : World) : (convert 75 9 (.slice (some ⟨w.heap.size, 0, none⟩) 1 1)).run Tryz.prog (w.alloc (.cells #[.int .u8 0] 5))
      = .ok (.string ⟨#[0]⟩) (w.alloc (.cells #[.int .u8 0] 5)) := by
  exact run_convert_bytes_back (P := Tryz.prog) (w.alloc (.cells #[.int .u8 0] 5)) 75 9 5 ⟨w.heap.size, 0, none⟩ 1 [0] (by kernel_rfl) (by kernel_rfl) (by kernel_rfl)
    (fun j hj => by
      match j, hj with
      | 0, _ => simp [Addr.add])

theorem num_zero {v : Nat} (h : v / 256 ^ (8 - 8) = 0) : numS v = ⟨#[0]⟩ := by
  have : v = 0 := by simpa using h
  subst this
  simp [numS, numL, digs_zero]

theorem bcells_one (L : List UInt8) : ∀ u ∈ bcells L, u.oneCell' = true := by
  intro u hu
  obtain ⟨b, _, rfl⟩ := List.mem_map.mp hu
  rfl

theorem add_plain (b off j : Nat) : (⟨b, off, none⟩ : Addr).add j = ⟨b, off + j, none⟩ := by
  by_cases h : j = 0
  · subst h; simp [Addr.add]
  · simp [Addr.add, h]

theorem own_src {w : World} {base : Nat} {e : TypeId} {g n c : Nat} {xs : List Value} (h : w.ownsRow base e 1 (.slice (some ⟨g, 0, none⟩) n c) n xs) (o : Obj) (j : Nat) (u : Value) (hj : xs[j]? = some u) : (w.alloc o).cell? ((⟨g, 0, none⟩ : Addr).add j) = some u := by
  have hlt := (List.getElem?_eq_some_iff.1 hj).1
  have hl := h.1
  rw [add_plain, Nat.zero_add]
  have := (h.alloc o).cellAt j (by omega)
  rw [this, hj]

theorem conv_row {w : World} {base : Nat} {g n c : Nat} {xs : List Value} {s : ByteArray} (h : w.ownsRow base 5 1 (.slice (some ⟨g, 0, none⟩) n c) n xs) (hs : xs = bcells s.data.toList) :
    (convert 75 9 (.slice (some ⟨g, 0, none⟩) n c)).run Tryz.prog w = .ok (.string s) w := by
  subst hs
  have hl : s.data.toList.length = n := by have := h.1; simpa [bcells] using this
  have := run_convert_bytes_back (P := Tryz.prog) w 75 9 5 ⟨g, 0, none⟩ c s.data.toList (by kernel_rfl) (by kernel_rfl) (by kernel_rfl)
    (fun j hj => by
      rw [add_plain, Nat.zero_add, h.cellAt j (by omega)]
      simp only [bcells, List.getElem?_map, List.getElem?_eq_getElem hj, Option.map_some])
  rw [hl] at this
  exact this

theorem num_row {v n : Nat} (hv : v < 18446744073709551616) (h : n = (digs (v / 256 ^ (8 - 8))).length) : Value.int .u8 (n : Int) :: bcells (digs v) = bcells (numS v).data.toList := by
  have e : v / 256 ^ (8 - 8) = v := by simp
  rw [e] at h
  have h8 := digs_le8 hv
  subst h
  simp only [numS, numL, bcells, List.map_cons, UInt8.toNat_ofNat']
  rw [Nat.mod_eq_of_lt (by omega)]

set_option maxRecDepth 4000 in
set_option maxHeartbeats 400000 in
theorem rnum_any (v : Nat) (w : World) (hv : v < 18446744073709551616) :
    Calls Tryz.prog 41 #[.int .u64 v] w fun e w' => e = .returned (.string (numS v)) ∧ Below w.heap.size w w' := by
  obtain ⟨i0, hi, hz0, hz1, hz2⟩ := info_parts Tryz.infoU8
  have hv' : (v : Int) ≤ 18446744073709551615 := by omega
  go_enter Tryz.func41, Tryz.ntmps41
  go_wp2
  go_loopw [3, 4, 5] (fun b i c wr => ∃ k : Nat, k ≤ 8 ∧ i = .int .i64 (7 - k) ∧ RN v w k b wr) (fun _ i _ _ => (intOf i + 1).toNat)
  case atStart => exact ⟨0, by omega, rfl, rn_start hv⟩
  case round =>
    obtain ⟨k, hk, rfl, hrn⟩ := hrel
    by_cases hk8 : k < 8
    · have hk7 : (k : Int) ≤ 7 := by omega
      obtain ⟨hbel, ⟨h0, rfl⟩ | ⟨h0, g, c, n, hn, rfl, hg, hown⟩⟩ := hrn
      · have H0 := Lib.hid h0; clear h0
        by_cases hc : ((v : Int) / 2 ^ (8 * (7 - k)) % 256 != 0) = false
        · go_wp2
          go_roundw
          case rel => exact ⟨k + 1, by omega, by go_num, rn_keep hk8 hbel H0.out hc⟩
          case measure => simp [intOf]; omega
        · have HX := Lib.hid (rn_zero hc)
          have hc' : ((v : Int) / 2 ^ (8 * (7 - k)) % 256 != 0) = true := by simpa using hc
          clear hc
          go_wp2_with (at_builtin; refine wpList_append_own _ rfl (.tmp 23) (.tmp 25) 75 rfl w.heap.size 5 i0 (.int .u8 0) 1 1 Tryz.underlying75 hi hz0 hz1 hz2 rfl (by decide) _ _ _ rfl (World.ownsRow_nil _ _ _ _) ⟨wr.heap.size, 0, none⟩ 1 1 [.int .u8 ((v : Int) / 2 ^ (8 * (7 - k)) % 256)] rfl rfl ?c1 ?c2 ?c3 ?c4 ?c5 ?_)
          case c1 => exact one_at _ _ _
          case c2 => intro u hu; simp at hu; subst hu; rfl
          case c3 => simp [maxLen]
          case c4 => omega
          case c5 => have := hbel.size; simp; omega
          intro v' w1 hown1 hgrow1 hn1
          have hb1 : Below w.heap.size w w1 := (below_new hbel _).grown hgrow1 (by have := hbel.size; simp; omega) (fun k hk => nomatch hk)
          have HR := Lib.hid (rn_push hk8 hb1 HX.out hown1 (by rw [H0.out, digs_zero]; rfl) (by rw [H0.out, digs_zero]; rfl) hn1)
          clear hown1 hgrow1 hb1
          go_wp2
          go_roundw
          case rel => exact ⟨k + 1, by omega, by go_num, HR.out⟩
          case measure => simp [intOf]; omega
      · have h01 := rn_pos hk8 h0
        have HX := Lib.hid h01
        have hn1 : 1 ≤ n := by
          have := digs_ne h0
          have h2 : (digs (v / 256 ^ (8 - k))).length ≠ 0 := by simpa using this
          omega
        have hn8 : n ≤ 8 := by
          rw [hn]
          exact digs_le8 (Nat.lt_of_le_of_lt (Nat.div_le_self _ _) hv)
        have HN := Lib.hid hn; clear hn h0 h01
        have HO := Lib.hid hown; clear hown
        go_wp2_with (at_builtin; refine wpList_append_own _ rfl (.tmp 23) (.tmp 25) 75 rfl w.heap.size 5 i0 (.int .u8 0) 1 1 Tryz.underlying75 hi hz0 hz1 hz2 rfl (by decide) _ _ _ rfl (HO.out.alloc _) ⟨wr.heap.size, 0, none⟩ 1 1 [.int .u8 ((v : Int) / 2 ^ (8 * (7 - k)) % 256)] rfl rfl ?c1 ?c2 ?c3 ?c4 ?c5 ?_)
        case c1 => exact one_at _ _ _
        case c2 => intro u hu; simp at hu; subst hu; rfl
        case c3 => unfold maxLen; omega
        case c4 => omega
        case c5 => have := hbel.size; simp; omega
        intro v' w1 hown1 hgrow1 hn2
        have hb1 : Below w.heap.size w w1 := (below_new hbel _).grown hgrow1 (by have := hbel.size; simp; omega) (fun k hk => by cases hk; exact hg)
        have HR := Lib.hid (rn_push hk8 hb1 HX.out hown1 (by rw [HN.out]) rfl hn2)
        clear hown1 hgrow1 hb1
        go_wp2
        go_roundw
        case rel => exact ⟨k + 1, by omega, by go_num, HR.out⟩
        case measure => simp [intOf]; omega
    · have hk8' : k = 8 := by omega
      subst hk8'
      obtain ⟨hbel, ⟨h0, rfl⟩ | ⟨h0, g, c, n, hn, rfl, hg, hown⟩⟩ := hrn
      · have H0 := Lib.hid h0; clear h0
        have hcv := conv_one wr
        go_wp2_with (at_builtin; go_must (refine wpList_append_own_none rfl (.tmp 30) (.tmp 31) 75 rfl wr.heap.size 5 i0 1 Tryz.underlying75 hi _ _ _ rfl (World.ownsRow_lit _ _ 1 (Nat.le_refl _) (by simp [maxLen]) rfl) rfl ?_))
        go_ret
        exact ⟨ret_str (num_zero H0.out).symm, below_new hbel _⟩
      · have hn8 : n ≤ 8 := by
          rw [hn]
          exact digs_le8 (Nat.lt_of_le_of_lt (Nat.div_le_self _ _) hv)
        have HN := Lib.hid hn; clear hn
        have H0 := Lib.hid h0; clear h0
        have HO := Lib.hid hown; clear hown
        go_wp2_with (at_builtin; refine wpList_append_own _ rfl (.tmp 30) (.tmp 31) 75 rfl wr.heap.size 5 i0 (.int .u8 0) 1 1 Tryz.underlying75 hi hz0 hz1 hz2 rfl (by decide) _ _ _ rfl (World.ownsRow_lit _ _ 1 (Nat.le_refl _) (by simp [maxLen]) rfl) ⟨g, 0, none⟩ n c (bcells (digs (v / 256 ^ (8 - 8)))) rfl ?c0 ?c1 ?c2 ?c3 ?c4 ?c5 ?_)
        case c0 => exact HO.out.1
        case c1 => exact fun j u hj => own_src HO.out _ j u hj
        case c2 => exact bcells_one _
        case c3 => unfold maxLen; omega
        case c4 => omega
        case c5 => simp
        intro v' w1 hown1 hgrow1 hn2
        have hb1 : Below w.heap.size w w1 := (below_new hbel _).grown hgrow1 (by have := hbel.size; simp; omega) (fun k hk => by cases hk; exact hbel.size)
        obtain ⟨g1, c1, rfl, hg1⟩ := own_shape hown1 hn2
        have hcv := conv_row hown1 (num_row hv HN.out)
        clear hown1 hgrow1 hn2
        go_wp2
        go_ret
        exact ⟨rfl, hb1⟩

theorem sgnN_pos2 {v : Int} (h : 0 ≤ v) : 2 * v = (sgnN v : Int) := by rw [← sgnN_pos h]; omega

end Go.Proofs.YthbdjgebpjffgaaGreatDoor
