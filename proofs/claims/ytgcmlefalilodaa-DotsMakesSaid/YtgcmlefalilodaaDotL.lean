/-
  The walk of the law DotsMakes.
  Conditions: none.
-/
import Derived.Test.YtgcmlefalilodaaDotK
namespace Go.Proofs.Ytgcmlefalilodaa
open Go.RowKit Go.Shelf Go.Lib Go.Sort

/-- What the law holds: the list, its copy, the two answers, the name. -/
structure SM (w0 : World) (al : Option Addr) (len cap : Nat) (L : List (Int × Int)) (al1 : Option Addr) (cap1 : Nat) (A : List (Int × Int)) (n : Nat) (al2 : Option Addr) (cap2 : Nat) (al3 : Option Addr) (cap3 : Nat) (o q : Int) (w : World) : Prop where
  bel : Below w0.heap.size w0 w
  b : Blk w w0.heap.size #[.int .i64 o, .int .u32 q] 25
  l : Ids w al len cap L
  m : Ids w al1 len cap1 L
  x : Ids w al2 n cap2 A
  y : Ids w al3 n cap3 A
section
variable {w0 w w' : World} {al : Option Addr} {len cap : Nat} {L : List (Int × Int)} {al1 : Option Addr} {cap1 : Nat} {A : List (Int × Int)} {n : Nat} {al2 : Option Addr} {cap2 : Nat} {al3 : Option Addr} {cap3 : Nat} {o q : Int}
theorem SM.next (h : SM w0 al len cap L al1 cap1 A n al2 cap2 al3 cap3 o q w) (k : Below w.heap.size w w') : SM w0 al len cap L al1 cap1 A n al2 cap2 al3 cap3 o q w' :=
  ⟨below_then h.bel k, h.b.below k, h.l.below k, h.m.below k, h.x.below k, h.y.below k⟩
theorem SM.drew (h : SM w0 al len cap L al1 cap1 A n al2 cap2 al3 cap3 o q w) : SM w0 al len cap L al1 cap1 A n al2 cap2 al3 cap3 o q w.drew := h.next (Below.refl _ _).drew
theorem SM.all (h : SM w0 al len cap L al1 cap1 A n al2 cap2 al3 cap3 o q w) : w.cell? ⟨w0.heap.size, 0, none⟩ = some (.int .i64 o) ∧ w.cell? ⟨w0.heap.size, 1, none⟩ = some (.int .u32 q) ∧ SM w0 al len cap L al1 cap1 A n al2 cap2 al3 cap3 o q w :=
  ⟨by rw [Blk.cell h.b]; rfl, by rw [Blk.cell h.b]; rfl, h⟩
theorem SM.held {P Q : Prop} (h : P ∧ Q ∧ SM w0 al len cap L al1 cap1 A n al2 cap2 al3 cap3 o q w) : SM w0 al len cap L al1 cap1 A n al2 cap2 al3 cap3 o q w := h.2.2
theorem same_SM (a a' : Option Addr) (k c k' c' : Nat) (M : List (Int × Int)) (h : SM w0 al len cap L al1 cap1 A n al2 cap2 al3 cap3 o q w) (h1 : SM w0 al len cap L al1 cap1 A n al2 cap2 al3 cap3 o q w → Ids w a k c M ∧ Ids w a' k' c' M) :
    Calls Try.prog 12 #[.slice a k c, .slice a' k' c'] w fun e w' => e = .returned (.bool true) ∧ SM w0 al len cap L al1 cap1 A n al2 cap2 al3 cap3 o q w' :=
  (same_any a a' k c k' c' M M w (h1 h).1 (h1 h).2).mono fun _ _ ⟨e, b⟩ => ⟨by rw [e, decide_eq_true rfl], h.next b⟩
theorem chk_SM (r : Int) (hr : chkS L = r) (h : SM w0 al len cap L al1 cap1 A n al2 cap2 al3 cap3 o q w) :
    Calls Try.prog 13 #[.slice al1 len cap1] w fun e w' => e = .returned (.int .i64 r) ∧ SM w0 al len cap L al1 cap1 A n al2 cap2 al3 cap3 o q w' :=
  (dCheck_any al1 len cap1 L w h.m).mono fun _ _ ⟨e, b⟩ => ⟨hr ▸ e, h.next b⟩
theorem rchk_SM (r : Int) (hr : chkS L = r) (h : SM w0 al len cap L al1 cap1 A n al2 cap2 al3 cap3 o q w) :
    Calls Try.prog 14 #[.slice al len cap] w fun e w' => e = .returned (.int .i64 r) ∧ SM w0 al len cap L al1 cap1 A n al2 cap2 al3 cap3 o q w' :=
  (rdCheck_any al len cap L w h.l).mono fun _ _ ⟨e, b⟩ => ⟨hr ▸ e, h.next b⟩
theorem has_SM (r : Bool) (hr : hasS L (o, q) = r) (h : SM w0 al len cap L al1 cap1 A n al2 cap2 al3 cap3 o q w) :
    Calls Try.prog 15 #[.slice al1 len cap1, .agg #[.int .i64 o, .int .u32 q]] w fun e w' => e = .returned (.bool r) ∧ SM w0 al len cap L al1 cap1 A n al2 cap2 al3 cap3 o q w' :=
  (has_list al1 len cap1 L o q w h.m).mono fun _ _ ⟨e, b⟩ => ⟨hr ▸ e, h.next b⟩
theorem rhas_SM (r : Bool) (hr : hasS L (o, q) = r) (h : SM w0 al len cap L al1 cap1 A n al2 cap2 al3 cap3 o q w) :
    Calls Try.prog 16 #[.slice al len cap, .agg #[.int .i64 o, .int .u32 q]] w fun e w' => e = .returned (.bool r) ∧ SM w0 al len cap L al1 cap1 A n al2 cap2 al3 cap3 o q w' :=
  (rHas_any al len cap L o q w h.l).mono fun _ _ ⟨e, b⟩ => ⟨hr ▸ e, h.next b⟩
end

set_option maxRecDepth 100000 in
set_option maxHeartbeats 2000000 in
theorem dotsMakes_walk (al : Option Addr) (len cap : Nat) (L : List (Int × Int)) (o q : Int) (w : World) (h : Ids w al len cap L) (_ho : (Lit.int .i64 o).wf = true) (_hq : (Lit.int .u32 q).wf = true) :
    Calls Try.prog 3 #[.slice al len cap, .agg #[.int .i64 o, .int .u32 q]] w fun e w' => e = .returned (.bool true) ∧ Below w.heap.size w w' := by
  have hcap := h.bd
  have hfit := h.fit
  have hb := (Below.refl w.heap.size w).alloc (Nat.le_refl _) (.cells #[.int .i64 o, .int .u32 q] 25)
  have hB := Blk.new w #[.int .i64 o, .int .u32 q] 25
  have HI := Lib.hid (h.below hb); clear h
  have HB := Lib.hid hb; clear hb
  have HK := Lib.hid hB; clear hB
  cases hg : greatB len with
  | true =>
    have HG := Lib.hid hg; clear hg
    go_enter Try.func3, Try.ntmps3
    go_wp2_with fail
    refine (great_any al len cap _ hfit hcap).mono ?_
    rw [HG.out]
    rintro e w1 ⟨rfl, b1⟩
    have HB1 := Lib.hid (below_then HB.out b1); clear b1
    go_wp2
    go_ret
    exact ⟨rfl, HB1.out⟩
  | false =>
    have hle := great_le hg
    have HG := Lib.hid hg; clear hg
    go_enter Try.func3, Try.ntmps3
    go_wp2_with fail
    refine (great_any al len cap _ hfit hcap).mono ?_
    rw [HG.out]
    rintro e w1 ⟨rfl, b1⟩
    have HB1 := Lib.hid (below_then HB.out b1)
    have HI1 := Lib.hid (HI.out.below b1)
    have HK1 := Lib.hid (HK.out.below b1); clear b1
    go_wp2_with fail
    refine (own_any al len cap L _ HI1.out (by omega)).mono ?_
    rintro e w2 ⟨al1, cap1, rfl, hm, hf, b2⟩
    have HM2 := Lib.hid hm; clear hm
    have HF := Lib.hid hf; clear hf
    have HB2 := Lib.hid (below_then HB1.out b2)
    have HI2 := Lib.hid (HI1.out.below b2)
    have HK2 := Lib.hid (HK1.out.below b2); clear b2
    go_wp2_with fail
    refine (make_any al1 len cap1 L _ HM2.out HF.out).mono ?_
    rintro e w3 ⟨al2, cap2, rfl, hx, _, b3⟩
    have HX3 := Lib.hid hx; clear hx
    have HB3 := Lib.hid (below_then HB2.out b3)
    have HI3 := Lib.hid (HI2.out.below b3)
    have HM3 := Lib.hid (HM2.out.below b3)
    have HK3 := Lib.hid (HK2.out.below b3); clear b3
    go_wp2_with fail
    refine (rMake_any al len cap L _ HI3.out).mono ?_
    rintro e w4 ⟨al3, cap3, rfl, hy, b4⟩
    have HS : SM w al len cap L al1 cap1 (mkR L) (mkR L).length al2 cap2 al3 cap3 o q w4 := ⟨below_then HB3.out b4, HK3.out.below b4, HI3.out.below b4, HM3.out.below b4, HX3.out.below b4, hy⟩
    clear hy b4 HX3 HB3 HI3 HM3 HK3
    generalize mkR L = A at HS ⊢
    generalize A.length = n at HS ⊢
    generalize mkC L = c
    obtain ⟨r, hr⟩ : ∃ r, chkS L = r := ⟨_, rfl⟩
    obtain ⟨t, ht⟩ : ∃ t, hasS L (o, q) = t := ⟨_, rfl⟩
    have HR := Lib.hid hr; clear hr
    have HT := Lib.hid ht; clear ht
    have hbb : (t == t) = true := by cases t <;> rfl
    go_wp2_with fail
    go_region_held3 (fun w' => w'.cell? ⟨w.heap.size, 0, none⟩ = some (.int .i64 o) ∧ w'.cell? ⟨w.heap.size, 1, none⟩ = some (.int .u32 q) ∧ SM w al len cap L al1 cap1 A n al2 cap2 al3 cap3 o q w') (first | exact SM.all (by assumption) | exact SM.all (SM.drew (by assumption)) | exact SM.all (SM.drew (SM.held (by assumption)))) (first | (go_at_call 12; refine (same_SM (w0 := w) (al := al) (len := len) (cap := cap) (L := L) (al1 := al1) (cap1 := cap1) (A := A) (n := n) (al2 := al2) (cap2 := cap2) (al3 := al3) (cap3 := cap3) (o := o) (q := q) _ _ _ _ _ _ _ (by first | assumption | exact SM.held (by assumption)) (by first | exact fun h => ⟨h.x, h.y⟩ | exact fun h => ⟨h.m, h.l⟩)).mono ?_; rintro e w1 ⟨rfl, hJ1⟩) | (go_at_call 13; refine (chk_SM (w0 := w) (al := al) (len := len) (cap := cap) (L := L) (al1 := al1) (cap1 := cap1) (A := A) (n := n) (al2 := al2) (cap2 := cap2) (al3 := al3) (cap3 := cap3) (o := o) (q := q) r HR.out (by first | assumption | exact SM.held (by assumption))).mono ?_; rintro e w2 ⟨rfl, hJ2⟩) | (go_at_call 14; refine (rchk_SM (w0 := w) (al := al) (len := len) (cap := cap) (L := L) (al1 := al1) (cap1 := cap1) (A := A) (n := n) (al2 := al2) (cap2 := cap2) (al3 := al3) (cap3 := cap3) (o := o) (q := q) r HR.out (by first | assumption | exact SM.held (by assumption))).mono ?_; rintro e w3 ⟨rfl, hJ3⟩) | (go_at_call 15; refine (has_SM (w0 := w) (al := al) (len := len) (cap := cap) (L := L) (al1 := al1) (cap1 := cap1) (A := A) (n := n) (al2 := al2) (cap2 := cap2) (al3 := al3) (cap3 := cap3) (o := o) (q := q) t HT.out (by first | assumption | exact SM.held (by assumption))).mono ?_; rintro e w4 ⟨rfl, hJ4⟩) | (go_at_call 16; refine (rhas_SM (w0 := w) (al := al) (len := len) (cap := cap) (L := L) (al1 := al1) (cap1 := cap1) (A := A) (n := n) (al2 := al2) (cap2 := cap2) (al3 := al3) (cap3 := cap3) (o := o) (q := q) t HT.out (by first | assumption | exact SM.held (by assumption))).mono ?_; rintro e w5 ⟨rfl, hJ5⟩))
    all_goals
      go_wp2
      go_ret
      exact ⟨rfl, SM.bel (by assumption)⟩
end Go.Proofs.Ytgcmlefalilodaa
