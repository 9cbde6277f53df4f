/-
  The library's Compact at a row of names: what is told, whatever the row.
  Conditions: none.
-/
import Derived.Test.YthbdjgebpjffgaaDotF
set_option linter.unusedVariables false
set_option linter.unusedSimpArgs false
namespace Go.Proofs.Ythbdjgebpjffgaa
open Go.RowKit Go.Shelf Go.Lib Go.Sort

theorem bang_at {d : Array (Int × Int)} {k : Nat} {a b : Int} (h : d[k]! = (a, b)) {w : World} {g : Nat} (hk : k < d.size) (hr : Row w g d) : w.cell? ⟨g, k * 2, none⟩ = some (.int .i64 a) ∧ w.cell? ⟨g, k * 2 + 1, none⟩ = some (.int .u32 b) ∧ w.frozen? ⟨g, k * 2, none⟩ = false ∧ w.frozen? ⟨g, k * 2 + 1, none⟩ = false := by
  have := hr k hk
  rw [h] at this
  exact this

set_option maxRecDepth 100000 in
set_option maxHeartbeats 2000000 in
theorem compact_row (g cap : Nat) (d : Array (Int × Int)) (w0 w : World) (h : Row w g d) (hc : d.size ≤ cap) (hcap : cap ≤ 9223372036854775807) (hg : w0.heap.size ≤ g) :
    Calls Try.prog 62 #[.slice (some ⟨g, 0, none⟩) d.size cap] w fun e w' => ∃ d', e = .returned (.slice (some ⟨g, 0, none⟩) (compactUpTo d d.size).length cap) ∧ Row w' g d' ∧ d'.toList = compactUpTo d d.size ∧ Below w0.heap.size w w' := by
  have HR := Lib.hid h; clear h
  have HG := Lib.hid hg; clear hg
  have same : (∀ j, j < d.size → keeps d j = true) → compactUpTo d d.size = d.toList := fun hall => by rw [compactUpTo_all d _ hall, range_map_get]
  have HS := Lib.hid same; clear same
  by_cases h2 : d.size < 2
  · go_enter Try.func62, Try.ntmps62
    go_wp2
    go_ret
    have e := HS.out (fun j hj => keeps_lt_one d j (by omega))
    exact ⟨d, by rw [e]; rfl, HR.out, e.symm, Below.refl _ _⟩
  · go_enter Try.func62, Try.ntmps62
    go_wp2
    go_loopw [3] (fun s3 wr => ∃ k : Nat, s3 = .int .i64 k ∧ 1 ≤ k ∧ k ≤ d.size ∧ (∀ j, j < k → keeps d j = true) ∧ Row wr g d ∧ Below w0.heap.size w wr) (fun s3 _ => d.size - (intOf s3).toNat)
    case atStart => exact ⟨1, rfl, Nat.le_refl _, by omega, keeps_lt_one d, HR.out, Below.refl _ _⟩
    case round =>
      obtain ⟨k, rfl, hk1, hk, hall, hrow, hb⟩ := hrel
      have HA := Lib.hid hall; clear hall
      have HW := Lib.hid hrow; clear hrow
      have HB := Lib.hid hb; clear hb
      by_cases hlt : k < d.size
      · obtain ⟨m, hm⟩ : ∃ m, k = m + 1 := ⟨k - 1, by omega⟩
        have hmk : m < d.size := by omega
        have hw : IntKind.i64.wrap ((k : Int) - 1) = (m : Int) := by rw [IntKind.wrap_i64]; omega
        have HM := Lib.hid hm; clear hm
        obtain ⟨⟨o, q⟩, hx⟩ : ∃ x, d[k]! = x := ⟨_, rfl⟩
        obtain ⟨⟨o', q'⟩, hy⟩ : ∃ y, d[m]! = y := ⟨_, rfl⟩
        obtain ⟨c0, c1, _, _⟩ := bang_at hx hlt HW.out
        obtain ⟨p0, p1, _, _⟩ := bang_at hy hmk HW.out
        have HX := Lib.hid hx; clear hx
        have HY := Lib.hid hy; clear hy
        have heq := fun W => (same_id o q o' q' (.tmp 19) (.tmp 24) W).1
        have hgd := fun W => (same_id o q o' q' (.tmp 19) (.tmp 24) W).2.2.1
        by_cases hdup : (o, q) = (o', q')
        · have hd : decide ((o, q) = (o', q')) = true := decide_eq_true hdup
          simp only [hd] at heq
          have hneg : Hid (keeps d k = false) := Lib.hid (keeps_neg (by omega) (by rw [HX.out, show k - 1 = m by have := HM.out; omega, HY.out, hdup]))
          clear hdup hd
          have hck : (k : Int) ≤ cap := by omega
          go_wp2_with fail
          go_quiet (fail)
          go_wp2
          clear c0 c1 p0 p1 heq hgd hw
          go_loopw [3, 5] (fun s3 s5 wr => ∃ (kk k2 : Nat) (dk : Array (Int × Int)), s3 = .int .i64 kk ∧ s5 = .int .i64 k2 ∧ 1 ≤ k2 ∧ k + k2 ≤ d.size ∧ CompInv d (k + k2) kk dk ∧ Row wr g dk ∧ Below w0.heap.size w wr) (fun _ s5 _ => d.size - (intOf s5).toNat)
          case atStart => exact ⟨k, 1, d, rfl, rfl, Nat.le_refl _, by omega, CompInv.start HA.out hneg.out, HW.out, below_drewN HB.out _⟩
          case round =>
            obtain ⟨kk, k2, dk, rfl, rfl, h1, hle, hI, hRk, hB2⟩ := hrel
            have hkk := hI.lt
            have hds := hI.size
            have HDS := Lib.hid hds; clear hds
            have HI := Lib.hid hI; clear hI
            have HRK := Lib.hid hRk; clear hRk
            have HB2 := Lib.hid hB2; clear hB2
            by_cases hlt2 : k + k2 < d.size
            · obtain ⟨m2, hm2⟩ : ∃ m2, k2 = m2 + 1 := ⟨k2 - 1, by omega⟩
              have hw2 : IntKind.i64.wrap ((k2 : Int) - 1) = (m2 : Int) := by rw [IntKind.wrap_i64]; omega
              have hl2 : k2 < d.size - k := by omega
              have hl3 : m2 < d.size - k := by omega
              have hl4 : kk < d.size := by omega
              have HM2 := Lib.hid hm2; clear hm2
              obtain ⟨⟨o2, q2⟩, hx2⟩ : ∃ x, d[k + k2]! = x := ⟨_, rfl⟩
              obtain ⟨⟨o3, q3⟩, hy2⟩ : ∃ y, d[k + m2]! = y := ⟨_, rfl⟩
              obtain ⟨⟨o4, q4⟩, hz2⟩ : ∃ y, dk[kk]! = y := ⟨_, rfl⟩
              obtain ⟨c0, c1, _, _⟩ := bang_at (d := dk) (k := k + k2) (by rw [HI.out.high _ (by omega), hx2]) (by rw [HDS.out]; exact hlt2) HRK.out
              obtain ⟨p0, p1, _, _⟩ := bang_at (d := dk) (k := k + m2) (by rw [HI.out.high _ (by have := HM2.out; omega), hy2]) (by rw [HDS.out]; omega) HRK.out
              obtain ⟨z0, z1, f0, f1⟩ := bang_at (d := dk) (k := kk) hz2 (by rw [HDS.out]; exact hl4) HRK.out
              rw [Nat.add_mul] at c0 c1 p0 p1
              have HX2 := Lib.hid hx2; clear hx2
              have HY2 := Lib.hid hy2; clear hy2
              clear hz2
              have heq := fun W => (same_id o2 q2 o3 q3 (.tmp 38) (.tmp 43) W).2.1
              have hgd := fun W => (same_id o2 q2 o3 q3 (.tmp 38) (.tmp 43) W).2.2.2
              by_cases huv : (o2, q2) = (o3, q3)
              · have hd : decide ((o2, q2) = (o3, q3)) = true := decide_eq_true huv
                simp only [hd, Bool.not_true] at heq
                have hsk : Hid (keeps d (k + k2) = false) := Lib.hid (keeps_neg (by omega) (by rw [HX2.out, show k + k2 - 1 = k + m2 by have := HM2.out; omega, HY2.out, huv]))
                clear huv hd
                go_wp2_with fail
                go_quiet (fail)
                go_wp2
                go_roundw
                case rel => exact ⟨kk, k2 + 1, dk, rfl, by go_num, by omega, by omega, HI.out.skip hsk.out, HRK.out, below_drewN HB2.out _⟩
                case measure => simp [intOf]; omega
              · have hd : decide ((o2, q2) = (o3, q3)) = false := decide_eq_false huv
                simp only [hd, Bool.not_false] at heq
                have hsk : Hid (keeps d (k + k2) = true) := Lib.hid (keeps_pos (by rw [HX2.out, show k + k2 - 1 = k + m2 by have := HM2.out; omega, HY2.out]; exact huv))
                clear huv hd
                go_wp2_with fail
                go_quiet (fail)
                go_wp2
                go_roundw
                case rel => exact ⟨kk + 1, k2 + 1, dk.setIfInBounds kk (o2, q2), by go_num, by go_num, by omega, by omega, by have := HI.out.keep hlt2 hsk.out; rwa [HX2.out] at this, Row.put (w := wr.drewN _) HRK.out (by rw [HDS.out]; exact hl4) o2 q2, ((below_drewN HB2.out _).setCell (p := ⟨g, kk * 2, none⟩) HG.out _).setCell (p := ⟨g, kk * 2 + 1, none⟩) HG.out _⟩
                case measure => simp [intOf]; omega
            · have hend : k + k2 = d.size := by omega
              have HE := Lib.hid hend
              have hl4 : kk < d.size := by omega
              obtain ⟨vs, hcl⟩ := Row.clear HRK.out (kk := kk) (by rw [HDS.out]; exact hl4)
              rw [HDS.out] at hcl
              have hcl2 := fun ty => hcl ty (cap - kk)
              clear hcl hend
              go_wp2
              go_ret
              have hI := HI.out
              rw [HE.out] at hI
              have hsz : (dk.extract 0 kk).toList = compactUpTo d d.size := by
                apply List.ext_getElem?
                intro j
                by_cases hj : j < kk
                · rw [hI.low j hj]
                  have hjd : j < dk.size := by rw [HDS.out]; omega
                  rw [getElem!_pos dk j hjd]
                  simp [hj, hjd]
                · rw [List.getElem?_eq_none (by simp; omega), List.getElem?_eq_none (by rw [hI.len]; omega)]
              exact ⟨_, by rw [hI.len]; rfl, HRK.out.cut (by rw [HDS.out]; omega) vs, hsz, HB2.out.trans (below_setCells g vs (kk * 2) _ HG.out)⟩
        · have hd : decide ((o, q) = (o', q')) = false := decide_eq_false hdup
          simp only [hd] at heq
          have hpos : Hid (keeps d k = true) := Lib.hid (keeps_pos (by rw [HX.out, show k - 1 = m by have := HM.out; omega, HY.out]; exact hdup))
          clear hdup hd
          go_wp2_with fail
          go_quiet (fail)
          go_wp2
          go_roundw
          case rel => exact ⟨k + 1, by go_num, by omega, by omega, fun j hj => by
            by_cases e : j = k
            · subst e; exact hpos.out
            · exact HA.out j (by omega), HW.out, below_drewN HB.out _⟩
          case measure => simp [intOf]; omega
      · have hkd : (d.size : Int) ≤ k := by omega
        have e := HS.out (fun j hj => HA.out j (by omega))
        have HE := Lib.hid e; clear e
        go_wp2
        go_ret
        exact ⟨d, by rw [HE.out]; rfl, HW.out, HE.out.symm, HB.out⟩
end Go.Proofs.Ythbdjgebpjffgaa
