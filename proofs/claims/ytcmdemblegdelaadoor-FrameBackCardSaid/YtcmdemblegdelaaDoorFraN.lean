/-
  What the document's All answers at whatever text.
  Conditions: the text has at most 2^20 bytes.
-/
import Derived.Test.YtcmdemblegdelaaDoorFraM
import Derived.RegionTactic
namespace Go.Proofs.YtcmdemblegdelaaDoor
open Go.RowKit

theorem own_mono {w : World} {B B' e size n : Nat} {v : Value} {xs : List Value} (h : w.ownsRow B e size v n xs) (hb : B' ≤ B) : w.ownsRow B' e size v n xs := by
  refine ⟨h.1, ?_⟩
  rcases h.2 with h2 | ⟨g, cap, cur, h1, h2, h3⟩
  · exact .inl h2
  · exact .inr ⟨g, cap, cur, h1, Nat.le_trans hb h2, h3⟩
theorem own_set {w : World} {B e size n : Nat} {v : Value} {xs : List Value} (h : w.ownsRow B e size v n xs) {b : Nat} (hb : b < B) (j : Nat) (u : Value) : (w.setCell ⟨b, j, none⟩ u).ownsRow B e size v n xs := by
  refine ⟨h.1, ?_⟩
  rcases h.2 with h2 | ⟨g, cap, cur, h1, h2, h3, h4⟩
  · exact .inl h2
  · exact .inr ⟨g, cap, cur, h1, h2, Blk.far h3 (by omega) j u, h4⟩

theorem xAt_le (s : ByteArray) : xAt s ≤ s.size := by
  unfold xAt
  split
  · split
    · omega
    · split
      · split
        · omega
        · exact tP_le s
      · exact iP_le s
  · omega

/-- How the document's All stands at its loop's head. -/
def AllR (s : ByteArray) (w : World) (L : List (Nat × ByteArray)) (a n : Nat) (lv : Value) (wr : World) : Prop :=
  AllS s L a n ∧ wr.ownsRow (w.heap.size + 1) 23 2 lv L.length (fcells L) ∧ Below (w.heap.size + 1) (w.alloc (.cells #[.int .i64 0, .int .i64 0] 34)) wr

theorem res_blk {w wr : World} (h : Below (w.heap.size + 1) (w.alloc (.cells #[.int .i64 0, .int .i64 0] 34)) wr) : Blk wr w.heap.size (ecs 0 0) 34 :=
  (h.block w.heap.size (by omega)).trans (Blk.new w _ _)
theorem res_below {w wr : World} (h : Below (w.heap.size + 1) (w.alloc (.cells #[.int .i64 0, .int .i64 0] 34)) wr) : Below w.heap.size w wr :=
  ((Below.refl _ _).alloc (Nat.le_refl _) _).trans (h.mono (by omega))

set_option maxRecDepth 100000 in
set_option maxHeartbeats 1000000 in
theorem rall_any (s : ByteArray) (w : World) (hs : s.size ≤ 1048576) :
    Calls Tryd.prog 17 #[.string s] w fun e w' => ∃ lv, e = .returned (.tuple #[lv, .int .i64 (FE s : Int), .agg #[.int .i64 (eA s : Int), .int .i64 (eC s)]]) ∧ w'.ownsRow w.heap.size 23 2 lv (FL s).length (fcells (FL s)) ∧ Below w.heap.size w w' := by
  obtain ⟨i0, hi, hz0, hz1, hz2⟩ := info_parts Tryd.infoFrameR
  go_enter Tryd.func17, Tryd.ntmps17
  go_wp2
  go_loopw [5, 6] (fun lv at_ wr => ∃ (L : List (Nat × ByteArray)) (a n : Nat), at_ = .int .i64 (a : Int) ∧ AllR s w L a n lv wr) (fun _ at_ _ => s.size - (intOf at_).toNat)
  case atStart => exact ⟨[], 0, s.size, rfl, AllS.start s, World.ownsRow_nil _ _ _ _, Below.refl _ _⟩
  case round =>
    obtain ⟨L, a, n, rfl, hA, hown, hbel⟩ := hrel
    have hle := hA.le
    have hfu := hA.fu
    have hz := hbel.size
    simp at hz
    have HA := Lib.hid hA; clear hA
    have HO := Lib.hid hown; clear hown
    have HB := Lib.hid hbel; clear hbel
    by_cases ha : a < s.size
    · have ha1 : (a : Int) < s.size := by omega
      have HRS : Hid ((rest s a).size ≤ 1048576) := Lib.hid (Nat.le_trans rest_le hs)
      have HN := fun W => Lib.hid (rnext_any (rest s a) W HRS.out)
      by_cases hx : xC (rest s a) = 0
      · have hn := xN_le hx
        have hrs := rest_size hle
        have hn1 : a + xN (rest s a) ≤ s.size := by omega
        have hn2 : 4 ≤ xN (rest s a) := by omega
        have HX := Lib.hid hx
        have HS := Lib.hid (HA.out.step ha hx); clear hx hn hrs
        have hw : IntKind.i64.wrap ((a : Int) + (xN (rest s a) : Int)) = (a : Int) + (xN (rest s a) : Int) := by rw [IntKind.wrap_i64]; omega
        go_wp2_with fail
        refine (HN _).out.mono ?_
        rw [HX.out]
        rintro e w1 ⟨rfl, b1⟩
        have HO1 := Lib.hid (own_below HO.out b1)
        have HB1 := Lib.hid (HB.out.trans (b1.mono (by omega)))
        have hsz1 := b1.size; clear b1
        go_wp2_with (at_builtin; refine wpList_append_own _ rfl (.tmp 34) (.tmp 36) 49 rfl (w.heap.size + 1) 23 i0 (.agg #[.int .i64 0, .string ⟨#[]⟩]) 2 24 Tryd.underlying49 hi hz0 hz1 hz2 rfl (by decide) _ _ _ rfl (((HO1.out.alloc _).alloc _).alloc _) ⟨w1.heap.size + 2, 0, none⟩ 1 1 [.int .i64 (xK (rest s a) : Int), .string (xL (rest s a))] rfl rfl ?c1 ?c2 ?c3 ?c4 ?c5 ?_)
        case c1 => exact two_at _ _ _ _ _ (by simp)
        case c2 => intro u hu; simp at hu; rcases hu with rfl | rfl <;> rfl
        case c3 => have := HA.out.ln; unfold maxLen; omega
        case c4 => have := HA.out.ln; omega
        case c5 => simp; omega
        intro v' w2 hown' hgrow hn'
        have HB2 : Hid (Below (w.heap.size + 1) (w.alloc (.cells #[.int .i64 0, .int .i64 0] 34)) w2) := Lib.hid ((((HB1.out.alloc (by omega) _).alloc (by simp; omega) _).alloc (by simp; omega) _).grown hgrow (by simp; omega) (fun k hk => own_base HO1.out k hk))
        have HO2 : Hid (w2.ownsRow (w.heap.size + 1) 23 2 v' (L ++ [(xK (rest s a), xL (rest s a))]).length (fcells (L ++ [(xK (rest s a), xL (rest s a))]))) := Lib.hid (by rw [fcells_snoc]; simpa using hown')
        clear hown' hgrow hn'
        go_wp2
        go_roundw
        case rel => exact ⟨_, a + xN (rest s a), n - 1, by go_num, HS.out, HO2.out, HB2.out⟩
        case measure => simp [intOf]; omega
      · obtain ⟨e1, e2, e3, e4⟩ := all_bad HA.out ha hx
        have HE : Hid (L = FL s ∧ a = FE s ∧ eC s = xC (rest s a) ∧ eA s = a + xAt (rest s a)) := Lib.hid ⟨e1, e2, e3, e4⟩
        have hb : (xC (rest s a) != 0) = true := by simpa using hx
        have hw : IntKind.i64.wrap ((a : Int) + (xAt (rest s a) : Int)) = (a : Int) + (xAt (rest s a) : Int) := by rw [IntKind.wrap_i64]; have := xAt_le (rest s a); have := HRS.out; omega
        clear hx e1 e2 e3 e4
        go_wp2_with fail
        refine (HN _).out.mono ?_
        rintro e w1 ⟨rfl, b1⟩
        have HO1 := Lib.hid (own_below HO.out b1)
        have hb1 := HB.out.trans (b1.mono (by omega))
        have hq := res_blk hb1
        have hlt := Blk.lt hq
        have q0 := ecs0 hq
        have q1 := ecs1 hq
        have g0 := Blk.free hq 0
        have g1 := Blk.free hq 1
        have HQ := Lib.hid hq; clear hq
        have HB1 := Lib.hid (res_below hb1); clear hb1 b1
        go_wp2
        go_region
        all_goals
          go_wp2
          refine bodyPost_ret (v := .tuple #[u5, .int .i64 (a : Int), .agg #[.int .i64 ((a : Int) + (xAt (rest s a) : Int)), .int .i64 (xC (rest s a))]]) ?_ rfl ?_
          · have hs1 := ((Blk.put2e (a' := (a : Int) + (xAt (rest s a) : Int)) (c' := xC (rest s a)) HQ.out).alloc (.cells #[.int .i64 (xK (rest s a) : Int), .string (xL (rest s a))] 23)).alloc (.cells #[.int .i64 (xAt (rest s a) : Int), .int .i64 (xC (rest s a))] 34)
            have r2 := ecs0 hs1
            have r3 := ecs1 hs1
            clear hs1 q0 q1
            simp [results, Tryd.results17, go_sem, r2, r3]
          · obtain ⟨e1, e2, e3, e4⟩ := HE.out
            have hrow := own_mono (((own_set (own_set HO1.out (show w.heap.size < w.heap.size + 1 by omega) 0 (.int .i64 ((a : Int) + (xAt (rest s a) : Int)))) (show w.heap.size < w.heap.size + 1 by omega) 1 (.int .i64 (xC (rest s a)))).alloc (.cells #[.int .i64 (xK (rest s a) : Int), .string (xL (rest s a))] 23)).alloc (.cells #[.int .i64 (xAt (rest s a) : Int), .int .i64 (xC (rest s a))] 34)) (show w.heap.size ≤ w.heap.size + 1 by omega)
            have hbl := (((HB1.out.setCell (p := ⟨w.heap.size, 0, none⟩) (Nat.le_refl _) (.int .i64 ((a : Int) + (xAt (rest s a) : Int)))).setCell (p := ⟨w.heap.size, 1, none⟩) (Nat.le_refl _) (.int .i64 (xC (rest s a)))).alloc (by simp [World.setCell]; omega) (.cells #[.int .i64 (xK (rest s a) : Int), .string (xL (rest s a))] 23)).alloc (by simp [World.setCell]; omega) (.cells #[.int .i64 (xAt (rest s a) : Int), .int .i64 (xC (rest s a))] 34)
            rw [e3, e4, ← e1, ← e2, Int.natCast_add]
            first | exact ⟨_, rfl, hrow, hbl⟩ | exact ⟨_, rfl, hrow, hbl.drew⟩
    · have ha1 : (s.size : Int) ≤ a := by omega
      have HE := Lib.hid (all_end HA.out ha)
      have hq := res_blk HB.out
      have hlt := Blk.lt hq
      have q0 := ecs0 hq
      have q1 := ecs1 hq
      have g0 := Blk.free hq 0
      have g1 := Blk.free hq 1
      have HQ := Lib.hid hq; clear hq
      clear ha
      go_wp2
      refine bodyPost_ret (v := .tuple #[u5, .int .i64 (a : Int), .agg #[.int .i64 0, .int .i64 0]]) ?_ rfl ?_
      · simp [results, Tryd.results17, go_sem, q0, q1]
      · obtain ⟨e1, e2, e3, e4⟩ := HE.out
        have hrow := own_mono (own_set (own_set HO.out (show w.heap.size < w.heap.size + 1 by omega) 0 (.int .i64 0)) (show w.heap.size < w.heap.size + 1 by omega) 1 (.int .i64 0)) (show w.heap.size ≤ w.heap.size + 1 by omega)
        have hbl := ((res_below HB.out).setCell (p := ⟨w.heap.size, 0, none⟩) (Nat.le_refl _) (.int .i64 0)).setCell (p := ⟨w.heap.size, 1, none⟩) (Nat.le_refl _) (.int .i64 0)
        rw [e3, e4, ← e1, ← e2]
        exact ⟨_, rfl, hrow, hbl⟩
end Go.Proofs.YtcmdemblegdelaaDoor
