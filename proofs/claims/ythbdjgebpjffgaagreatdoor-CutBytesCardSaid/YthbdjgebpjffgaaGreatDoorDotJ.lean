/-
  The document's Make: the walk.
  Conditions: none.
-/
import Derived.Test.YthbdjgebpjffgaaGreatDoorDotI
import Derived.Test.YthbdjgebpjffgaaGreatDoorOctC
import Derived.Lib.SmallJoins
set_option linter.unusedVariables false
set_option linter.unusedSimpArgs false
namespace Go.Proofs.YthbdjgebpjffgaaGreatDoor
open Go.RowKit Go.Shelf Go.Lib Go.Sort

theorem take_mem {L : List (Int × Int)} {k : Nat} {x : Int × Int} (hx : L[k]? = some x) (z : Int × Int) : z ∈ L.take (k + 1) ↔ z ∈ L.take k ∨ z = x := by
  have hk := (List.getElem?_eq_some_iff.1 hx).1
  have e := (List.getElem?_eq_some_iff.1 hx).2
  rw [List.take_succ_eq_append_getElem hk, e, List.mem_append, List.mem_singleton]
theorem newId_at (w : World) (o q : Int) (b : Nat) (hb : b = w.heap.size) : ∀ (j : Nat) (x : Value), [Value.int .i64 o, Value.int .u32 q][j]? = some x → (w.alloc (.cells #[.int .i64 o, .int .u32 q] 83)).cell? ((⟨b, 0, none⟩ : Addr).add j) = some x := by
  intro j x h
  subst hb
  match j, h with
  | 0, h => simpa [Addr.add] using h
  | 1, h => simpa [Addr.add] using h

set_option maxRecDepth 100000 in
set_option maxHeartbeats 4000000 in
theorem rMake_any (al : Option Addr) (len cap : Nat) (L : List (Int × Int)) (w : World) (h : Ids w al len cap L) :
    Calls Tryz.prog 63 #[.slice al len cap] w fun e w' => ∃ al' cap', e = .returned (.tuple #[.slice al' (mkR L).length cap', .int .i64 (mkC L)]) ∧ Ids w' al' (mkR L).length cap' (mkR L) ∧ Below w.heap.size w w' := by
  obtain ⟨ti, hi, hz0, hz1, hz2⟩ := info_parts Tryz.infoId
  have hcap := h.bd
  have hfit := h.fit
  have HLL := Lib.hid h.ln
  have HI := Lib.hid h; clear h
  by_cases h1024 : 1024 < len
  · have HC := Lib.hid (mkC_long (L := L) (by rw [← HLL.out]; exact h1024))
    go_enter Tryz.func63, Tryz.ntmps63
    go_wp2
    go_ret2
    exact ⟨none, 0, by rw [HC.out.1, HC.out.2]; rfl, by rw [HC.out.2]; exact Ids.nil _, Below.refl _ _⟩
  · have h1024' : ¬ 1024 < L.length := by rw [← HLL.out]; exact h1024
    have H1 := Lib.hid h1024'; clear h1024'
    cases hv : valS L with
    | false =>
      have HV := Lib.hid hv; clear hv
      have HC := Lib.hid (mkC_range (L := L) H1.out HV.out)
      go_enter Tryz.func63, Tryz.ntmps63
      go_wp2_with fail
      refine (names_any al len cap L w HI.out).mono ?_
      rw [HV.out]
      rintro e w1 ⟨rfl, b1⟩
      go_wp2
      go_ret2
      exact ⟨none, 0, by rw [HC.out.1, HC.out.2]; rfl, by rw [HC.out.2]; exact Ids.nil _, b1⟩
    | true =>
      have HV := Lib.hid hv; clear hv
      go_enter Tryz.func63, Tryz.ntmps63
      go_wp2_with fail
      refine (names_any al len cap L w HI.out).mono ?_
      rw [HV.out]
      rintro e w1 ⟨rfl, b1⟩
      have HB1 := Lib.hid b1; clear b1
      go_wp2
      go_loopw [4, 5] (fun v s5 wr => ∃ (k : Nat) (M : List (Int × Int)), s5 = .int .i64 k ∧ k ≤ len ∧ Asc M ∧ (∀ z, z ∈ M ↔ z ∈ L.take k) ∧ wr.ownsRow w.heap.size 83 2 v M.length (idCs M) ∧ Below w.heap.size w wr) (fun _ s5 _ => len - (intOf s5).toNat)
      case atStart => exact ⟨0, [], rfl, by omega, List.Pairwise.nil, fun z => by simp, World.ownsRow_nil _ _ _ _, HB1.out⟩
      case round =>
        obtain ⟨k, M, rfl, hk, hM, hmem, hown, hb⟩ := hrel
        have HM := Lib.hid hM; clear hM
        have HMM := Lib.hid hmem; clear hmem
        have HO := Lib.hid hown
        have HB := Lib.hid hb; clear hb
        obtain ⟨_, al4, cap4, rfl, hI4, hF4⟩ := own_ids hown
        have HI4 := Lib.hid hI4; clear hI4 hown hF4
        by_cases hkl : k < len
        · obtain ⟨b, off, o, q, rfl, hx, i0, i1⟩ := (HI.out.below HB.out).nth k hkl
          have HX := Lib.hid hx; clear hx
          have HQ := Lib.hid (seq_bd (valS_at HV.out HX.out))
          cases hhas : hasS M (o, q) with
          | true =>
            have HH := Lib.hid hhas; clear hhas
            go_wp2_with fail
            refine (rHas_any al4 M.length cap4 M o q _ HI4.out).mono ?_
            rw [HH.out]
            rintro e w2 ⟨rfl, b2⟩
            have HO2 := Lib.hid (own_below HO.out b2)
            have HB2 := Lib.hid (HB.out.trans (b2.mono HB.out.size)); clear b2
            go_wp2
            go_roundw
            case rel => exact ⟨k + 1, M, by go_num, by omega, HM.out, fun z => by
              rw [take_mem HX.out, HMM.out]
              have : (o, q) ∈ M := by have := HH.out; unfold hasS at this; rwa [decide_eq_true_iff] at this
              rw [HMM.out] at this
              exact ⟨fun hz => .inl hz, fun hz => by rcases hz with hz | e; exact hz; rw [e]; exact this⟩, HO2.out, HB2.out⟩
            case measure => simp [intOf]; omega
          | false =>
            have hnot : (o, q) ∉ M := by unfold hasS at hhas; rwa [decide_eq_false_iff_not] at hhas
            have HN := Lib.hid hnot; clear hnot
            have HH := Lib.hid hhas; clear hhas
            have hMl : M.length ≤ 1024 := by
              have e := setS_is HM.out HMM.out
              have := setS_len (L.take k)
              rw [← e, List.length_take] at this
              omega
            go_wp2_with fail
            refine (rHas_any al4 M.length cap4 M o q _ HI4.out).mono ?_
            rw [HH.out]
            rintro e w2 ⟨rfl, b2⟩
            obtain ⟨b', off', o', q', e', hx', i0', i1'⟩ := (HI.out.below (HB.out.trans (b2.mono HB.out.size))).nth k hkl
            cases e'
            rw [HX.out] at hx'
            cases hx'
            have HO2 := Lib.hid (own_below HO.out b2)
            have HB2 := Lib.hid (HB.out.trans (b2.mono HB.out.size)); clear b2
            have HBA : Hid (Below w.heap.size w (w2.alloc (.cells #[.int .i64 o, .int .u32 q] 83))) := Lib.hid (HB2.out.alloc HB2.out.size _)
            go_wp2_with (at_builtin; go_must (refine wpList_append_own _ rfl (.tmp 28) (.tmp 33) 25 rfl w.heap.size 83 ti (.agg #[.int .i64 0, .int .u32 0]) 2 16 Tryz.underlying25 hi hz0 hz1 hz2 rfl (by decide) _ _ _ rfl (HO2.out.alloc _) ⟨w2.heap.size, 0, none⟩ 1 1 [.int .i64 o, .int .u32 q] rfl rfl ?c1 ?c2 ?c3 ?c4 ?c5 ?_))
            case c1 => exact newId_at _ _ _ _ rfl
            case c2 => intro u hu; simp at hu; rcases hu with rfl | rfl <;> rfl
            case c3 => unfold maxLen; omega
            case c4 => omega
            case c5 => have := HB2.out.size; simp; omega
            intro v' w3 hown' hgrow hn'
            have HB3 : Hid (Below w.heap.size w w3) := Lib.hid (HBA.out.grown hgrow (by have := HB2.out.size; simp; omega) (fun k hk => own_base HO2.out k hk))
            have hne : ¬ v' = .slice none 0 0 := hn'
            obtain ⟨g, c3, rfl, _⟩ := own_shape hown' hne
            have hown3 : w3.ownsRow w.heap.size 83 2 (.slice (some ⟨g, 0, none⟩) (M.length + 1) c3) (M.length + 1) (idCs (putN M M.length (o, q))) := by
              rw [putN_end, idCs_app]; exact hown'
            have HO3 := Lib.hid hown3
            clear hown' hgrow hn' hne hown3
            generalize hnn : M.length + 1 = n at HO3 ⊢
            have hw1 : IntKind.i64.wrap ((n : Int) - 1) = (M.length : Int) := by rw [IntKind.wrap_i64]; omega
            have HNN := Lib.hid hnn; clear hnn
            go_wp2
            clear hw1
            go_loopw [6] (fun s6 wr => ∃ p : Nat, s6 = .int .i64 p ∧ p ≤ M.length ∧ (∀ y, y ∈ M.drop p → cf (o, q) y < 0) ∧ wr.ownsRow w.heap.size 83 2 (.slice (some ⟨g, 0, none⟩) n c3) n (idCs (putN M p (o, q))) ∧ Below w.heap.size w wr) (fun s6 _ => (intOf s6).toNat)
            case atStart => exact ⟨M.length, by go_num, Nat.le_refl _, fun y hy => by simp at hy, HO3.out, HB3.out⟩
            case round =>
              obtain ⟨p, rfl, hp, hgt, hox, hbx⟩ := hrel
              have HGT := Lib.hid hgt; clear hgt
              have HOX := Lib.hid hox; clear hox
              have HBX := Lib.hid hbx; clear hbx
              have hfin : ∀ p, p ≤ M.length → (∀ y, y ∈ M.drop p → cf (o, q) y < 0) → (p = 0 ∨ ∃ m y, p = m + 1 ∧ M[m]? = some y ∧ cf y (o, q) < 0) → Asc (putN M p (o, q)) ∧ (∀ z, z ∈ putN M p (o, q) ↔ z ∈ L.take (k + 1)) ∧ (putN M p (o, q)).length = M.length + 1 := fun p hp h1 h2 =>
                ⟨putN_asc HM.out h1 h2, fun z => by
                  rw [putN_mem, take_mem HX.out, HMM.out]
                  exact ⟨fun h => h.symm, fun h => h.symm⟩, putN_len M _ hp⟩
              have HF := Lib.hid hfin; clear hfin
              by_cases hp0 : p = 0
              · subst hp0
                have HD := Lib.hid (HF.out 0 (by omega) HGT.out (.inl rfl))
                go_wp2_with fail
                go_quiet (fail)
                go_wp2
                go_roundw
                case rel => exact ⟨k + 1, _, by go_num, by omega, HD.out.1, HD.out.2.1, by rw [HD.out.2.2, HNN.out]; exact HOX.out, below_drewN HBX.out _⟩
                case measure => simp [intOf]; omega
              · obtain ⟨m, hm⟩ : ∃ m, p = m + 1 := ⟨p - 1, by omega⟩
                have hml : m < M.length := by omega
                obtain ⟨⟨yo, yq⟩, hy⟩ : ∃ y, M[m]? = some y := ⟨_, List.getElem?_eq_getElem hml⟩
                have hp1 : 0 < p := by omega
                have hp2 : p < n := by have := HNN.out; omega
                have hp3 : m < n := by have := HNN.out; omega
                have hw2 : IntKind.i64.wrap ((p : Int) - 1) = (m : Int) := by rw [IntKind.wrap_i64]; omega
                have HYQ : Hid (0 ≤ yq ∧ yq ≤ 4294967295) := Lib.hid (seq_bd (valS_mem HV.out (List.mem_of_mem_take ((HMM.out _).1 (List.mem_of_getElem? hy)))))
                obtain ⟨z0, z1, zf0, zf1⟩ := own_cell HOX.out (putN_at (M := M) (x := (o, q)) hp)
                obtain ⟨y0, y1, yf0, yf1⟩ := own_cell HOX.out (k := m) (by rw [hm]; exact putN_prev (x := (o, q)) hy)
                have hC : C4 wr g (m * 2) (p * 2) yo yq o q wr := ⟨Below.refl _ _, y0, y1, z0, z1⟩
                obtain ⟨hgl, _, hc3, hc4⟩ := own_blt HOX.out
                have HY := Lib.hid hy; clear hy
                have HMP := Lib.hid hm; clear hm hp0
                obtain ⟨r, hr⟩ : ∃ r, cmpI yo yq o q = r := ⟨_, rfl⟩
                have HR := Lib.hid hr
                by_cases hc : 0 < r
                · have hcf : Hid (cf (o, q) (yo, yq) < 0) := Lib.hid (cf_gt.1 (by unfold cf; rw [hr]; exact hc))
                  clear hr
                  go_wp2_with fail
                  go_region_held3 (fun w' => w'.cell? ⟨g, m * 2, none⟩ = some (.int .i64 yo) ∧ w'.cell? ⟨g, m * 2 + 1, none⟩ = some (.int .u32 yq) ∧ w'.cell? ⟨g, p * 2, none⟩ = some (.int .i64 o) ∧ w'.cell? ⟨g, p * 2 + 1, none⟩ = some (.int .u32 q) ∧ C4 wr g (m * 2) (p * 2) yo yq o q w') (first | exact C4.cells (by assumption) | exact C4.cells (C4.drew (by assumption)) | exact C4.cells (C4.drew (C4.held (by assumption)))) ((go_at_call 62; refine (rcompare_C4 (w0 := wr) (b := g) (p := m * 2) (o' := p * 2) (o := yo) (q := yq) (x := o) (y := q) _ _ _ _ r HR.out HYQ.out HQ.out (by first | assumption | exact C4.held (by assumption))).mono ?_; rintro e w4 ⟨rfl, hJ⟩))
                  all_goals
                    have hO5 := own_below HOX.out hJ.bel
                    have HB5 : Hid (Below w.heap.size w w4) := Lib.hid (HBX.out.trans (hJ.bel.mono HBX.out.size))
                    obtain ⟨z0', z1', zf0', zf1'⟩ := own_cell hO5 (putN_at (M := M) (x := (o, q)) hp)
                    obtain ⟨y0', y1', yf0', yf1'⟩ := own_cell hO5 (k := m) (by rw [HMP.out]; exact putN_prev (x := (o, q)) HY.out)
                    obtain ⟨hgl5, hgb, _, _⟩ := own_blt hO5
                    have hO6 := own_put hO5 (p := p) (by rw [putN_len _ _ hp]; omega) yo yq
                    have hm6 : ((putN M p (o, q)).set p (yo, yq))[m]? = some (yo, yq) := by
                      rw [List.getElem?_set_ne (by have := HMP.out; omega), HMP.out]; exact putN_prev (x := (o, q)) HY.out
                    obtain ⟨v0, v1, vf0, vf1⟩ := own_cell hO6 hm6
                    have hO7 := own_put hO6 (p := m) (by rw [List.length_set, putN_len _ _ hp]; omega) o q
                    have hO8 : ((((w4.setCell ⟨g, p * 2, none⟩ (.int .i64 yo)).setCell ⟨g, p * 2 + 1, none⟩ (.int .u32 yq)).setCell ⟨g, m * 2, none⟩ (.int .i64 o)).setCell ⟨g, m * 2 + 1, none⟩ (.int .u32 q)).ownsRow w.heap.size 83 2 (.slice (some ⟨g, 0, none⟩) n c3) n (idCs (putN M m (o, q))) := by
                      have e := putN_swap (x := (o, q)) HY.out
                      rw [← HMP.out] at e
                      rw [← e]; exact hO7
                    have HO8 := Lib.hid hO8
                    have HGB := Lib.hid hgb
                    clear hO5 hO6 hO7 hO8 hgb hm6
                    go_wp2
                    go_roundw
                    case rel => exact ⟨m, by go_num, by omega, drop_succ_mem HY.out hcf.out (by rw [← HMP.out]; exact HGT.out), HO8.out.alloc _, ((((HB5.out.setCell (p := ⟨g, p * 2, none⟩) HGB.out _).setCell (p := ⟨g, p * 2 + 1, none⟩) HGB.out _).setCell (p := ⟨g, m * 2, none⟩) HGB.out _).setCell (p := ⟨g, m * 2 + 1, none⟩) HGB.out _).alloc (by have := HB5.out.size; simp [World.setCell]; omega) _⟩
                    case measure => have := HMP.out; simp [intOf]; omega
                · have hcf : Hid (cf (yo, yq) (o, q) < 0) := Lib.hid (by
                    rcases cf_val (yo, yq) (o, q) with ⟨_, e⟩ | ⟨_, e⟩ | ⟨e, _⟩
                    · rw [e]; decide
                    · have : r = 1 := by rw [← hr]; exact e
                      omega
                    · exact absurd (e ▸ List.mem_of_getElem? HY.out) HN.out)
                  have hr0 : r ≤ 0 := by omega
                  have HD := Lib.hid (HF.out p (by omega) HGT.out (.inr ⟨m, (yo, yq), HMP.out, HY.out, hcf.out⟩))
                  clear hr
                  go_wp2_with fail
                  go_region_held3 (fun w' => w'.cell? ⟨g, m * 2, none⟩ = some (.int .i64 yo) ∧ w'.cell? ⟨g, m * 2 + 1, none⟩ = some (.int .u32 yq) ∧ w'.cell? ⟨g, p * 2, none⟩ = some (.int .i64 o) ∧ w'.cell? ⟨g, p * 2 + 1, none⟩ = some (.int .u32 q) ∧ C4 wr g (m * 2) (p * 2) yo yq o q w') (first | exact C4.cells (by assumption) | exact C4.cells (C4.drew (by assumption)) | exact C4.cells (C4.drew (C4.held (by assumption)))) ((go_at_call 62; refine (rcompare_C4 (w0 := wr) (b := g) (p := m * 2) (o' := p * 2) (o := yo) (q := yq) (x := o) (y := q) _ _ _ _ r HR.out HYQ.out HQ.out (by first | assumption | exact C4.held (by assumption))).mono ?_; rintro e w4 ⟨rfl, hJ⟩))
                  all_goals
                    have HO5 := Lib.hid (own_below HOX.out hJ.bel)
                    have HB5 : Hid (Below w.heap.size w w4) := Lib.hid (HBX.out.trans (hJ.bel.mono HBX.out.size))
                    go_wp2
                    go_roundw
                    case rel => exact ⟨k + 1, _, by go_num, by omega, HD.out.1, HD.out.2.1, by rw [HD.out.2.2, HNN.out]; exact HO5.out, HB5.out⟩
                    case measure => simp [intOf]; omega
        · have hkk : (len : Int) ≤ k := by omega
          have hS : M = setS L := setS_is HM.out fun z => by rw [HMM.out, List.take_of_length_le (by have := HLL.out; omega)]
          subst hS
          clear hk hkl
          by_cases h64 : 64 < (setS L).length
          · have HC := Lib.hid (mkC_many (L := L) H1.out HV.out h64)
            generalize (setS L).length = n at h64 HI4 HO ⊢
            go_wp2
            go_ret2
            exact ⟨none, 0, by rw [HC.out.1, HC.out.2]; rfl, by rw [HC.out.2]; exact Ids.nil _, HB.out⟩
          · have HC := Lib.hid (mkC_ok (L := L) H1.out HV.out h64)
            generalize hn : (setS L).length = n at h64 HI4 HO ⊢
            have HN := Lib.hid hn; clear hn
            go_wp2
            go_ret2
            exact ⟨al4, cap4, by rw [HC.out.1, HC.out.2, HN.out]; rfl, by rw [HC.out.2, HN.out]; exact HI4.out, HB.out⟩
end Go.Proofs.YthbdjgebpjffgaaGreatDoor
