/-
  What All of package frame answers at whatever text.
  Conditions: the text has at most 2^20 bytes.
-/
import Derived.Test.YtcmdemblegdelaaDoorFraL
namespace Go.Proofs.YtcmdemblegdelaaDoor
open Go.RowKit

/-- How package frame's All stands at its loop's head. -/
def AllW (s : ByteArray) (w : World) (L : List (Nat × ByteArray)) (a n : Nat) (lv : Value) (wr : World) : Prop :=
  AllS s L a n ∧ wr.ownsRow w.heap.size 28 2 lv L.length (fcells L) ∧ Below w.heap.size w wr

theorem nst_new (w : World) (a g : Nat) : Blk (w.alloc (.cells #[.int .i64 (a : Int), .iface 56 (.pointer (some ⟨g, 0, none⟩))] 58)) w.heap.size (nst a g) 58 := Blk.new _ _ _

set_option maxRecDepth 100000 in
set_option maxHeartbeats 1000000 in
theorem all_any (s : ByteArray) (w : World) (hs : s.size ≤ 1048576) :
    Calls Tryd.prog 16 #[.string s] w fun e w' => ∃ lv v, e = .returned (.tuple #[lv, .int .i64 (FE s : Int), v]) ∧ w'.ownsRow w.heap.size 28 2 lv (FL s).length (fcells (FL s)) ∧ IsErr w' v (eA s) (eC s) ∧ Below w.heap.size w w' := by
  obtain ⟨i0, hi, hz0, hz1, hz2⟩ := info_parts Tryd.infoFrame
  go_enter Tryd.func16, Tryd.ntmps16
  go_wp2
  go_loopw [5, 6] (fun lv at_ wr => ∃ (L : List (Nat × ByteArray)) (a n : Nat), at_ = .int .i64 (a : Int) ∧ AllW s w L a n lv wr) (fun _ at_ _ => s.size - (intOf at_).toNat)
  case atStart => exact ⟨[], 0, s.size, rfl, AllS.start s, World.ownsRow_nil _ _ _ _, Below.refl _ _⟩
  case round =>
    obtain ⟨L, a, n, rfl, hA, hown, hbel⟩ := hrel
    have hle := hA.le
    have hfu := hA.fu
    have HA := Lib.hid hA; clear hA
    have HO := Lib.hid hown; clear hown
    have HB := Lib.hid hbel; clear hbel
    by_cases ha : a < s.size
    · have ha1 : (a : Int) < s.size := by omega
      have HRS : Hid ((rest s a).size ≤ 1048576) := Lib.hid (Nat.le_trans rest_le hs)
      by_cases hx : xC (rest s a) = 0
      · have hn := xN_le hx
        have hrs := rest_size hle
        have hn1 : a + xN (rest s a) ≤ s.size := by omega
        have hn2 : 4 ≤ xN (rest s a) := by omega
        have HX := Lib.hid hx
        have HS := Lib.hid (HA.out.step ha hx); clear hx hn hrs
        have hw : IntKind.i64.wrap ((a : Int) + (xN (rest s a) : Int)) = (a : Int) + (xN (rest s a) : Int) := by rw [IntKind.wrap_i64]; omega
        go_wp2_with fail
        refine (next_good (rest s a) _ HRS.out HX.out).mono ?_
        rintro e w1 ⟨rfl, b1⟩
        have HO1 := Lib.hid (own_below HO.out b1)
        have HB1 := Lib.hid (HB.out.trans (b1.mono HB.out.size)); clear b1
        go_wp2_with (at_builtin; refine wpList_append_own _ rfl (.tmp 31) (.tmp 33) 46 rfl w.heap.size 28 i0 (.agg #[.int .i64 0, .string ⟨#[]⟩]) 2 24 Tryd.underlying46 hi hz0 hz1 hz2 rfl (by decide) _ _ _ rfl ((HO1.out.alloc _).alloc _) ⟨w1.heap.size + 1, 0, none⟩ 1 1 [.int .i64 (xK (rest s a) : Int), .string (xL (rest s a))] rfl rfl ?c1 ?c2 ?c3 ?c4 ?c5 ?_)
        case c1 => exact two_at _ _ _ _ _ (by simp)
        case c2 => intro u hu; simp at hu; rcases hu with rfl | rfl <;> rfl
        case c3 => have := HA.out.ln; unfold maxLen; omega
        case c4 => have := HA.out.ln; omega
        case c5 => have := HB1.out.size; simp; omega
        intro v' w2 hown' hgrow hn'
        have HB2 : Hid (Below w.heap.size w w2) := Lib.hid (((HB1.out.alloc HB1.out.size _).alloc (by have := HB1.out.size; simp; omega) _).grown hgrow (by have := HB1.out.size; simp; omega) (fun k hk => own_base HO1.out k hk))
        have HO2 : Hid (w2.ownsRow w.heap.size 28 2 v' (L ++ [(xK (rest s a), xL (rest s a))]).length (fcells (L ++ [(xK (rest s a), xL (rest s a))]))) := Lib.hid (by rw [fcells_snoc]; simpa using hown')
        clear hown' hgrow hn'
        go_wp2
        go_roundw
        case rel => exact ⟨_, a + xN (rest s a), n - 1, by go_num, HS.out, HO2.out, HB2.out⟩
        case measure => simp [intOf]; omega
      · obtain ⟨e1, e2, e3, e4⟩ := all_bad HA.out ha hx
        have HE : Hid (L = FL s ∧ a = FE s ∧ eC s = xC (rest s a) ∧ eA s = a + xAt (rest s a)) := Lib.hid ⟨e1, e2, e3, e4⟩
        have HX := Lib.hid hx; clear hx e1 e2 e3 e4
        go_wp2_with fail
        refine (next_bad (rest s a) _ HRS.out HX.out).mono ?_
        rintro e w1 ⟨f, rfl, _, hf, b1⟩
        have HO1 := Lib.hid (own_below HO.out b1)
        have HB1 := Lib.hid (HB.out.trans (b1.mono HB.out.size)); clear b1
        have HF := Lib.hid hf; clear hf
        go_wp2
        go_ret3
        obtain ⟨e1, e2, e3, e4⟩ := HE.out
        have hnew := nst_new (w1.alloc (.cells #[.int .i64 0, .string ⟨#[]⟩] 28)) a f
        have hst := ((HO1.out.alloc (.cells #[.int .i64 0, .string ⟨#[]⟩] 28)).alloc (.cells #[.int .i64 (a : Int), .iface 56 (.pointer (some ⟨f, 0, none⟩))] 58))
        refine ⟨_, _, by rw [← e2]; rfl, by rw [← e1]; exact hst, ?_, (HB1.out.alloc HB1.out.size _).alloc (by have := HB1.out.size; simp; omega) _⟩
        rw [e3, e4]
        exact .inr (.inr ⟨HX.out, _, f, a, xAt (rest s a), rfl, rfl, by simpa using hnew, (HF.out.alloc _).alloc _⟩)
    · have ha1 : (s.size : Int) ≤ a := by omega
      have HE := Lib.hid (all_end HA.out ha)
      clear ha
      go_wp2
      go_ret3
      obtain ⟨e1, e2, e3, e4⟩ := HE.out
      exact ⟨_, _, by rw [← e2]; rfl, by rw [← e1]; exact HO.out, .inl ⟨e3, e4, rfl⟩, HB.out⟩
end Go.Proofs.YtcmdemblegdelaaDoor
