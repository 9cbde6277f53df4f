/-
  A list of names in memory, and what is answered of it by the functions that only read it: valid, Check, Has, Same.
  Conditions: none.
-/
import Derived.Test.YthbdjgebpjffgaaGreatDoorDotA
import Derived.Test.YthbdjgebpjffgaaGreatDoorIdD
import Derived.Laws.StructEq
import Derived.Deep.RegionHeld3
import Derived.Deep.QuietTactic
import Derived.BigQuiet
set_option linter.unusedVariables false
set_option linter.unusedSimpArgs false
namespace Go.Proofs.YthbdjgebpjffgaaGreatDoor
open Go.RowKit

/-- Name number k of the list L lies at this address. -/
def IdN (w : World) (al : Option Addr) (L : List (Int × Int)) (k : Nat) : Prop :=
  ∃ (b off : Nat) (o q : Int), al = some ⟨b, off, none⟩ ∧ L[k]? = some (o, q) ∧ w.cell? ⟨b, off + k * 2, none⟩ = some (.int .i64 o) ∧ w.cell? ⟨b, off + k * 2 + 1, none⟩ = some (.int .u32 q)
/-- The slice holds the list. -/
structure Ids (w : World) (al : Option Addr) (len cap : Nat) (L : List (Int × Int)) : Prop where
  ln : len = L.length
  fit : len ≤ cap
  bd : cap ≤ 9223372036854775807
  nn : al = none → cap = 0
  nth : ∀ k, k < len → IdN w al L k
theorem cellLt {w : World} {p : Addr} {u : Value} (h : w.cell? p = some u) : p.block < w.heap.size := by
  by_cases hb : p.block < w.heap.size
  · exact hb
  · have : w.heap[p.block]? = none := by simp; omega
    simp [World.cell?, this] at h
theorem Ids.below {w w' : World} {al : Option Addr} {len cap : Nat} {L : List (Int × Int)} (h : Ids w al len cap L) (hb : Below w.heap.size w w') : Ids w' al len cap L :=
  ⟨h.ln, h.fit, h.bd, h.nn, fun k hk => by
    obtain ⟨b, off, o, q, h1, h2, h3, h4⟩ := h.nth k hk
    exact ⟨b, off, o, q, h1, h2, (hb.cell (p := ⟨b, off + k * 2, none⟩) (cellLt h3)).trans h3, (hb.cell (p := ⟨b, off + k * 2 + 1, none⟩) (cellLt h4)).trans h4⟩⟩
theorem Ids.nil (w : World) : Ids w none 0 0 [] := ⟨rfl, Nat.le_refl _, by omega, fun _ => rfl, fun k hk => by omega⟩

/-- Two names are one. -/
theorem same_id (o q o' q' : Int) (T1 T2 : Operand) (w : World) :
    (binOp .eql 83 (.agg #[.int .i64 o, .int .u32 q]) (.agg #[.int .i64 o', .int .u32 q'])).run Tryz.prog w = .ok (.bool (decide ((o, q) = (o', q')))) w ∧
    (binOp .neq 83 (.agg #[.int .i64 o, .int .u32 q]) (.agg #[.int .i64 o', .int .u32 q'])).run Tryz.prog w = .ok (.bool (!decide ((o, q) = (o', q')))) w ∧
    (eqGuard .eql 83 T1 T2 (.agg #[.int .i64 o, .int .u32 q]) (.agg #[.int .i64 o', .int .u32 q'])).run Tryz.prog w = .ok () w ∧
    (eqGuard .neq 83 T1 T2 (.agg #[.int .i64 o, .int .u32 q]) (.agg #[.int .i64 o', .int .u32 q'])).run Tryz.prog w = .ok () w := by
  have e : (Op.equalIn 10000 83 (.agg #[.int .i64 o, .int .u32 q]) (.agg #[.int .i64 o', .int .u32 q'])).run Tryz.prog w = .ok (decide ((o, q) = (o', q'))) w := by
    have u3 := Tryz.underlying3
    have a3 := Tryz.isAgg3
    have z3 := Tryz.sizeOf3
    have u4 := Tryz.underlying22
    have a4 := Tryz.isAgg22
    have z4 := Tryz.sizeOf22
    have hS : Tryz.prog.underlying 83 = some (.struct (Tryz.prog.fieldsOf 83)) := by kernel_rfl
    have hp : Tryz.prog.stoodInHeld 83 = false := by kernel_rfl
    rw [show (10000 : Nat) = 9999 + 1 from rfl, run_equalIn_agg w 9999 83 _ _ hS hp]
    simp only [Program.fieldsOf, Tryz.underlying83]
    go_simp
    by_cases h1 : o = o' <;> by_cases h2 : q = q' <;> simp [h1, h2]
  refine ⟨?_, ?_, run_eqGuard_agg w .eql 83 T1 T2 _ _ (by kernel_rfl), run_eqGuard_agg w .neq 83 T1 T2 _ _ (by kernel_rfl)⟩
  · rw [run_eql_struct, e]; rfl
  · rw [run_neq_struct, e]; rfl

/-! ### Valid -/
set_option maxHeartbeats 400000 in
theorem valid_any (al : Option Addr) (len cap : Nat) (L : List (Int × Int)) (w : World) (h : Ids w al len cap L) :
    Calls Tryz.prog 57 #[.slice al len cap] w fun e w' => e = .returned (.bool (valS L)) ∧ Below w.heap.size w w' := by
  have hcap := h.bd
  have hle := h.fit
  have HLL := Lib.hid h.ln
  have HI := Lib.hid h; clear h
  go_enter Tryz.func57, Tryz.ntmps57
  go_wp2
  go_loopw [7] (fun i wr => ∃ k : Nat, i = .int .i64 k ∧ k ≤ len ∧ (∀ j x, j < k → L[j]? = some x → chk x.1 x.2 = 0) ∧ Below w.heap.size w wr) (fun i _ => len - (intOf i).toNat)
  case atStart => exact ⟨0, rfl, by omega, fun j x hj => by omega, Below.refl _ _⟩
  case round =>
    obtain ⟨k, rfl, hk, hold, hb⟩ := hrel
    have HV := Lib.hid hold; clear hold
    have HB := Lib.hid hb; clear hb
    by_cases hkl : k < len
    · obtain ⟨b, off, o, q, rfl, hx, i0, i1⟩ := ((HI.out.below HB.out).nth k hkl)
      have HX := Lib.hid hx; clear hx
      have hs := HB.out.size
      have hnb : Below w.heap.size w (wr.alloc (.cells #[.int .i64 o, .int .u32 q] 83)) := HB.out.alloc hs _
      have HNB := Lib.hid hnb; clear hnb
      by_cases hc : chk o q = 0
      · have HC := Lib.hid hc; clear hc
        go_wp2_with fail
        refine (idCheck_any o q _).mono ?_
        rw [HC.out]
        rintro e w1 ⟨rfl, b1⟩
        have HB1 : Hid (Below w.heap.size w w1) := Lib.hid (below_then HNB.out b1); clear b1
        go_wp2
        go_roundw
        case rel => exact ⟨k + 1, by go_num, by omega, fun j x hj hx => by
          by_cases e : j = k
          · subst e; rw [HX.out] at hx; cases hx; exact HC.out
          · exact HV.out j x (by omega) hx, HB1.out⟩
        case measure => simp [intOf]; omega
      · have hv : Hid (valS L = false) := Lib.hid (valS_no HX.out hc)
        have hc2 := Lib.hid (chk_two hc); clear hc
        go_wp2_with fail
        refine (idCheck_any o q _).mono ?_
        rw [hc2.out]
        rintro e w1 ⟨rfl, b1⟩
        have HB1 : Hid (Below w.heap.size w w1) := Lib.hid (below_then HNB.out b1); clear b1
        go_wp2
        go_ret
        exact ⟨by rw [hv.out]; rfl, HB1.out⟩
    · have hv : Hid (valS L = true) := Lib.hid (valS_yes fun j x hj hx => HV.out j x (by have := HLL.out; omega) hx)
      have hkk : (len : Int) ≤ k := by omega
      go_wp2
      go_ret
      exact ⟨by rw [hv.out]; rfl, HB.out⟩

set_option maxHeartbeats 400000 in
theorem names_any (al : Option Addr) (len cap : Nat) (L : List (Int × Int)) (w : World) (h : Ids w al len cap L) :
    Calls Tryz.prog 61 #[.slice al len cap] w fun e w' => e = .returned (.bool (valS L)) ∧ Below w.heap.size w w' := by
  have hcap := h.bd
  have hle := h.fit
  have HLL := Lib.hid h.ln
  have HI := Lib.hid h; clear h
  go_enter Tryz.func61, Tryz.ntmps61
  go_wp2
  go_loopw [3] (fun i wr => ∃ k : Nat, i = .int .i64 k ∧ k ≤ len ∧ (∀ j x, j < k → L[j]? = some x → chk x.1 x.2 = 0) ∧ Below w.heap.size w wr) (fun i _ => len - (intOf i).toNat)
  case atStart => exact ⟨0, rfl, by omega, fun j x hj => by omega, Below.refl _ _⟩
  case round =>
    obtain ⟨k, rfl, hk, hold, hb⟩ := hrel
    have HV := Lib.hid hold; clear hold
    have HB := Lib.hid hb; clear hb
    by_cases hkl : k < len
    · obtain ⟨b, off, o, q, rfl, hx, i0, i1⟩ := ((HI.out.below HB.out).nth k hkl)
      have HX := Lib.hid hx; clear hx
      by_cases hc : chk o q = 0
      · have HC := Lib.hid hc; clear hc
        go_wp2_with fail
        refine (ridCheck_any o q _).mono ?_
        rw [HC.out]
        rintro e w1 ⟨rfl, b1⟩
        have HB1 : Hid (Below w.heap.size w w1) := Lib.hid (below_then HB.out b1); clear b1
        go_wp2
        go_roundw
        case rel => exact ⟨k + 1, by go_num, by omega, fun j x hj hx => by
          by_cases e : j = k
          · subst e; rw [HX.out] at hx; cases hx; exact HC.out
          · exact HV.out j x (by omega) hx, HB1.out⟩
        case measure => simp [intOf]; omega
      · have hv : Hid (valS L = false) := Lib.hid (valS_no HX.out hc)
        have hc2 := Lib.hid (chk_two hc); clear hc
        go_wp2_with fail
        refine (ridCheck_any o q _).mono ?_
        rw [hc2.out]
        rintro e w1 ⟨rfl, b1⟩
        have HB1 : Hid (Below w.heap.size w w1) := Lib.hid (below_then HB.out b1); clear b1
        go_wp2
        go_ret
        exact ⟨by rw [hv.out]; rfl, HB1.out⟩
    · have hv : Hid (valS L = true) := Lib.hid (valS_yes fun j x hj hx => HV.out j x (by have := HLL.out; omega) hx)
      have hkk : (len : Int) ≤ k := by omega
      go_wp2
      go_ret
      exact ⟨by rw [hv.out]; rfl, HB.out⟩

/-! ### Has, Same: the document's -/
set_option maxHeartbeats 400000 in
theorem rHas_any (al : Option Addr) (len cap : Nat) (L : List (Int × Int)) (o q : Int) (w : World) (h : Ids w al len cap L) :
    Calls Tryz.prog 79 #[.slice al len cap, .agg #[.int .i64 o, .int .u32 q]] w fun e w' => e = .returned (.bool (hasS L (o, q))) ∧ Below w.heap.size w w' := by
  have hcap := h.bd
  have hle := h.fit
  have HLL := Lib.hid h.ln
  have hb0 := (Below.refl w.heap.size w).alloc (Nat.le_refl _) (.cells #[.int .i64 o, .int .u32 q] 83)
  have hblk := Blk.new w #[.int .i64 o, .int .u32 q] 83
  have HI := Lib.hid h; clear h
  have HB0 := Lib.hid hb0; clear hb0
  have HK0 := Lib.hid hblk; clear hblk
  go_enter Tryz.func79, Tryz.ntmps79
  go_wp2
  go_loopw [5] (fun i wr => ∃ k : Nat, i = .int .i64 k ∧ k ≤ len ∧ (∀ j y, j < k → L[j]? = some y → ¬ y = (o, q)) ∧ Below w.heap.size w wr ∧ Blk wr w.heap.size #[.int .i64 o, .int .u32 q] 83) (fun i _ => len - (intOf i).toNat)
  case atStart => exact ⟨0, rfl, by omega, fun j x hj => by omega, HB0.out, HK0.out⟩
  case round =>
    obtain ⟨k, rfl, hk, hold, hb, hkb⟩ := hrel
    have HV := Lib.hid hold; clear hold
    have HB := Lib.hid hb; clear hb
    have c0 : wr.cell? ⟨w.heap.size, 0, none⟩ = some (.int .i64 o) := by rw [Blk.cell hkb]; rfl
    have c1 : wr.cell? ⟨w.heap.size, 1, none⟩ = some (.int .u32 q) := by rw [Blk.cell hkb]; rfl
    have HKB := Lib.hid hkb; clear hkb
    by_cases hkl : k < len
    · obtain ⟨b, off, o', q', rfl, hx, i0, i1⟩ := ((HI.out.below HB.out).nth k hkl)
      have HX := Lib.hid hx; clear hx
      have heq := fun W => (same_id o' q' o q (.tmp 15) (.tmp 16) W).1
      have hgd := fun W => (same_id o' q' o q (.tmp 15) (.tmp 16) W).2.2.1
      by_cases hc : (o', q') = (o, q)
      · have hv : Hid (hasS L (o, q) = true) := Lib.hid (hasS_yes (hc ▸ HX.out))
        have hd : decide ((o', q') = (o, q)) = true := decide_eq_true hc
        simp only [hd] at heq
        clear hc hd
        go_wp2_with fail
        go_quiet (fail)
        go_wp2
        go_ret
        exact ⟨by rw [hv.out]; rfl, below_drewN HB.out _⟩
      · have hd : decide ((o', q') = (o, q)) = false := decide_eq_false hc
        simp only [hd] at heq
        have HC := Lib.hid hc
        clear hc hd
        go_wp2_with fail
        go_quiet (fail)
        go_wp2
        go_roundw
        case rel => exact ⟨k + 1, by go_num, by omega, fun j x hj hx => by
          by_cases e : j = k
          · subst e; rw [HX.out] at hx; cases hx; exact HC.out
          · exact HV.out j x (by omega) hx, below_drewN HB.out _, HKB.out⟩
        case measure => simp [intOf]; omega
    · have hv : Hid (hasS L (o, q) = false) := Lib.hid (hasS_no fun j x hj hx => HV.out j x (by have := HLL.out; omega) hx)
      have hkk : (len : Int) ≤ k := by omega
      go_wp2
      go_ret
      exact ⟨by rw [hv.out]; rfl, HB.out⟩

set_option maxHeartbeats 400000 in
theorem same_any (al al' : Option Addr) (len cap len' cap' : Nat) (L M : List (Int × Int)) (w : World) (h : Ids w al len cap L) (h' : Ids w al' len' cap' M) :
    Calls Tryz.prog 22 #[.slice al len cap, .slice al' len' cap'] w fun e w' => e = .returned (.bool (decide (L = M))) ∧ Below w.heap.size w w' := by
  have hcap := h.bd
  have hle := h.fit
  have HLL := Lib.hid h.ln
  have hcap' := h'.bd
  have hle' := h'.fit
  have HLL' := Lib.hid h'.ln
  have HI := Lib.hid h; clear h
  have HJ := Lib.hid h'; clear h'
  by_cases hlen : len = len'
  · subst hlen
    go_enter Tryz.func22, Tryz.ntmps22
    go_wp2
    go_loopw [5] (fun i wr => ∃ k : Nat, i = .int .i64 k ∧ k ≤ len ∧ (∀ j x y, j < k → L[j]? = some x → M[j]? = some y → x = y) ∧ Below w.heap.size w wr) (fun i _ => len - (intOf i).toNat)
    case atStart => exact ⟨0, rfl, by omega, fun j x y hj => by omega, Below.refl _ _⟩
    case round =>
      obtain ⟨k, rfl, hk, hold, hb⟩ := hrel
      have HV := Lib.hid hold; clear hold
      have HB := Lib.hid hb; clear hb
      by_cases hkl : k < len
      · obtain ⟨b, off, o, q, rfl, hx, i0, i1⟩ := ((HI.out.below HB.out).nth k hkl)
        obtain ⟨b', off', o', q', rfl, hy, j0, j1⟩ := ((HJ.out.below HB.out).nth k hkl)
        have HX := Lib.hid hx; clear hx
        have HY := Lib.hid hy; clear hy
        have heq := fun W => (same_id o q o' q' (.tmp 20) (.tmp 24) W).2.1
        have hgd := fun W => (same_id o q o' q' (.tmp 20) (.tmp 24) W).2.2.2
        by_cases hc : (o, q) = (o', q')
        · have hd : decide ((o, q) = (o', q')) = true := decide_eq_true hc
          simp only [hd, Bool.not_true] at heq
          have HC := Lib.hid hc
          clear hc hd
          go_wp2_with fail
          go_quiet (fail)
          go_wp2
          go_roundw
          case rel => exact ⟨k + 1, by go_num, by omega, fun j x y hj hx hy => by
            by_cases e : j = k
            · subst e; rw [HX.out] at hx; rw [HY.out] at hy; cases hx; cases hy; exact HC.out
            · exact HV.out j x y (by omega) hx hy, below_drewN HB.out _⟩
          case measure => simp [intOf]; omega
        · have hd : decide ((o, q) = (o', q')) = false := decide_eq_false hc
          simp only [hd, Bool.not_false] at heq
          have hv : Hid (decide (L = M) = false) := Lib.hid (decide_eq_false (list_ne HX.out HY.out hc))
          clear hc hd
          go_wp2_with fail
          go_quiet (fail)
          go_wp2
          go_ret
          exact ⟨by rw [hv.out]; rfl, below_drewN HB.out _⟩
      · have hv : Hid (decide (L = M) = true) := Lib.hid (decide_eq_true (list_eq (by have := HLL.out; have := HLL'.out; omega) fun j x y hj hx hy => HV.out j x y (by have := HLL.out; omega) hx hy))
        have hkk : (len : Int) ≤ k := by omega
        go_wp2
        go_ret
        exact ⟨by rw [hv.out]; rfl, HB.out⟩
  · have hv : Hid (decide (L = M) = false) := Lib.hid (decide_eq_false fun e => hlen (by rw [HLL.out, HLL'.out, e]))
    have hn : ((len : Int) != len') = true := by simp; omega
    clear hlen
    go_enter Tryz.func22, Tryz.ntmps22
    go_wp2
    go_ret
    exact ⟨by rw [hv.out]; rfl, Below.refl _ _⟩
end Go.Proofs.YthbdjgebpjffgaaGreatDoor
