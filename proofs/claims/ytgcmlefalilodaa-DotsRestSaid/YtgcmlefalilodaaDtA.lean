/-
  The document's example of layer 7 comes out as it says.
  Conditions: none.
-/
import Derived.Test.YtgcmlefalilodaaDotV
import Derived.Test.YtgcmlefalilodaaDotX
namespace Go.Proofs.Ytgcmlefalilodaa
open Go.RowKit

def l0 : List (Int × Int) := [(2, 1), (1, 4), (1, 3), (1, 6), (1, 3)]
def l1 : List (Int × Int) := [(1, 3), (1, 4), (1, 6), (2, 1)]
def l2 : List (Int × Int) := [(1, 6)]
theorem wk1 : mkC l0 = 0 ∧ mkR l0 = l1 := by decide +kernel
theorem wk2 : foC (fun8 0 2 0 0 0 0 0 0) l1 = 0 ∧ foS (fun8 0 2 0 0 0 0 0 0) l1 = l2 := by decide +kernel
theorem wk3 : (#[.int .u32 (foV (fun8 0 2 0 0 0 0 0 0) l1 0), .int .u32 (foV (fun8 0 2 0 0 0 0 0 0) l1 1), .int .u32 (foV (fun8 0 2 0 0 0 0 0 0) l1 2), .int .u32 (foV (fun8 0 2 0 0 0 0 0 0) l1 3), .int .u32 (foV (fun8 0 2 0 0 0 0 0 0) l1 4), .int .u32 (foV (fun8 0 2 0 0 0 0 0 0) l1 5), .int .u32 (foV (fun8 0 2 0 0 0 0 0 0) l1 6), .int .u32 (foV (fun8 0 2 0 0 0 0 0 0) l1 7)] : Array Value) = #[.int .u32 (fun8 0 4 1 0 0 0 0 0 0), .int .u32 (fun8 0 4 1 0 0 0 0 0 1), .int .u32 (fun8 0 4 1 0 0 0 0 0 2), .int .u32 (fun8 0 4 1 0 0 0 0 0 3), .int .u32 (fun8 0 4 1 0 0 0 0 0 4), .int .u32 (fun8 0 4 1 0 0 0 0 0 5), .int .u32 (fun8 0 4 1 0 0 0 0 0 6), .int .u32 (fun8 0 4 1 0 0 0 0 0 7)] := vec_congr (by decide +kernel)
theorem dg1 : digs 1 = [1] := by rw [digs_pos (by decide), show 1 / 256 = 0 from rfl, digs_zero]; rfl
theorem dg6 : digs 6 = [6] := by rw [digs_pos (by decide), show 6 / 256 = 0 from rfl, digs_zero]; rfl
theorem wk4 : chkS l2 = 0 := by decide +kernel
theorem wk5 : wrS l2 = ⟨#[1, 1, 1, 1, 1, 6]⟩ := by
  unfold wrS; rw [if_pos wk4]
  show (⟨(numL 1 ++ ((numL 1 ++ numL 6) ++ [])).toArray⟩ : ByteArray) = _
  unfold numL; rw [dg1, dg6]; rfl
theorem wk6 : hasS l1 (2, 1) = true := by decide +kernel
theorem wk7 : hasS l1 (2, 2) = false := by decide +kernel
theorem id_any (o q : Int) (w : World) : Calls Try.prog 46 #[.int .i64 o, .int .u32 q] w fun e w' => e = .returned (.agg #[.int .i64 o, .int .u32 q]) ∧ Below w.heap.size w w' := by
  go_enter Try.func46, Try.ntmps46
  go_wp2
  have r0 : (w.alloc (.cells #[.int .i64 o, .int .u32 q] 25)).cell? ⟨w.heap.size, 0, none⟩ = some (.int .i64 o) := by rw [Blk.cell (Blk.new _ _ _)]; rfl
  have r1 : (w.alloc (.cells #[.int .i64 o, .int .u32 q] 25)).cell? ⟨w.heap.size, 1, none⟩ = some (.int .u32 q) := by rw [Blk.cell (Blk.new _ _ _)]; rfl
  refine bodyPost_ret (v := .agg #[.int .i64 o, .int .u32 q]) ?_ rfl ⟨rfl, (Below.refl w.heap.size w).alloc (Nat.le_refl _) _⟩
  simp [results, Try.results46, go_sem, r0, r1]
theorem lit_ids (w : World) : Ids (w.alloc (.cells #[.int .i64 2, .int .u32 1, .int .i64 1, .int .u32 4, .int .i64 1, .int .u32 3, .int .i64 1, .int .u32 6, .int .i64 1, .int .u32 3] 25)) (some ⟨w.heap.size, 0, none⟩) 5 5 l0 :=
  ⟨rfl, Nat.le_refl _, by omega, nofun, fun k hk => by
    have hB := Blk.new w #[.int .i64 2, .int .u32 1, .int .i64 1, .int .u32 4, .int .i64 1, .int .u32 3, .int .i64 1, .int .u32 6, .int .i64 1, .int .u32 3] 25
    match k, hk with
    | 0, _ => exact ⟨_, 0, 2, 1, rfl, rfl, by rw [Blk.cell hB]; rfl, by rw [Blk.cell hB]; rfl⟩
    | 1, _ => exact ⟨_, 0, 1, 4, rfl, rfl, by rw [Blk.cell hB]; rfl, by rw [Blk.cell hB]; rfl⟩
    | 2, _ => exact ⟨_, 0, 1, 3, rfl, rfl, by rw [Blk.cell hB]; rfl, by rw [Blk.cell hB]; rfl⟩
    | 3, _ => exact ⟨_, 0, 1, 6, rfl, rfl, by rw [Blk.cell hB]; rfl, by rw [Blk.cell hB]; rfl⟩
    | 4, _ => exact ⟨_, 0, 1, 3, rfl, rfl, by rw [Blk.cell hB]; rfl, by rw [Blk.cell hB]; rfl⟩⟩
theorem fun8_in (a b c : Int) (h : 0 ≤ a ∧ a ≤ 9 ∧ 0 ≤ b ∧ b ≤ 9 ∧ 0 ≤ c ∧ c ≤ 9) : InB (fun8 a b c 0 0 0 0 0) := by
  intro i hi
  match i, hi with
  | 0, _ => simp [fun8]; omega
  | 1, _ => simp [fun8]; omega
  | 2, _ => simp [fun8]; omega
  | 3, _ => simp [fun8]
  | 4, _ => simp [fun8]
  | 5, _ => simp [fun8]
  | 6, _ => simp [fun8]
  | 7, _ => simp [fun8]
theorem mk_l0 (w : World) :
    Calls Try.prog 10 #[.slice (some ⟨w.heap.size, 0, none⟩) 5 5] (w.alloc (.cells #[.int .i64 2, .int .u32 1, .int .i64 1, .int .u32 4, .int .i64 1, .int .u32 3, .int .i64 1, .int .u32 6, .int .i64 1, .int .u32 3] 25)) fun e w' => ∃ al cap, e = .returned (.tuple #[.slice al 4 cap, .int .i64 0]) ∧ Ids w' al 4 cap l1 ∧ Below w.heap.size w w' := by
  have h := make_any _ _ _ l0 _ (lit_ids w) (.inr ⟨_, _, rfl⟩)
  rw [wk1.1, wk1.2] at h
  exact h.mono fun _ _ ⟨al, cap, h1, h2, _, h3⟩ => ⟨al, cap, h1, h2, ((Below.refl _ w).alloc (Nat.le_refl _) _).trans (h3.mono (by simp))⟩
theorem fo_l1 (al : Option Addr) (cap : Nat) (w : World) (h : Ids w al 4 cap l1) :
    Calls Try.prog 25 #[.agg #[.int .u32 0, .int .u32 2, .int .u32 0, .int .u32 0, .int .u32 0, .int .u32 0, .int .u32 0, .int .u32 0], .slice al 4 cap] w fun e w' => ∃ al2 cap2, e = .returned (.tuple #[.agg #[.int .u32 0, .int .u32 4, .int .u32 1, .int .u32 0, .int .u32 0, .int .u32 0, .int .u32 0, .int .u32 0], .slice al2 1 cap2, .int .i64 0]) ∧ Ids w' al2 1 cap2 l2 ∧ Below w.heap.size w w' := by
  have h := fold_any al 4 cap l1 (fun8 0 2 0 0 0 0 0 0) w h (fun8_in 0 2 0 (by omega))
  rw [wk3, wk2.1, wk2.2] at h
  exact h
theorem wr_l2 (al : Option Addr) (cap : Nat) (w : World) (h : Ids w al 1 cap l2) :
    Calls Try.prog 29 #[.slice al 1 cap] w fun e w' => e = .returned (.tuple #[.string ⟨#[1, 1, 1, 1, 1, 6]⟩, .int .i64 0]) ∧ Below w.heap.size w w' := by
  have h := dWrite_any al 1 cap l2 w h
  rw [wk5, wk4] at h
  exact h

/-- What the example holds at its end. -/
structure SW (w0 : World) (g : Nat) (b1 o1 c1 b2 o2 c2 : Nat) (w : World) : Prop where
  bel : Below w0.heap.size w0 w
  v : Blk w g #[.int .u32 (fun8 0 4 1 0 0 0 0 0 0), .int .u32 (fun8 0 4 1 0 0 0 0 0 1), .int .u32 (fun8 0 4 1 0 0 0 0 0 2), .int .u32 (fun8 0 4 1 0 0 0 0 0 3), .int .u32 (fun8 0 4 1 0 0 0 0 0 4), .int .u32 (fun8 0 4 1 0 0 0 0 0 5), .int .u32 (fun8 0 4 1 0 0 0 0 0 6), .int .u32 (fun8 0 4 1 0 0 0 0 0 7)] 35
  x : Ids w (some ⟨b1, o1, none⟩) 4 c1 l1
  y : Ids w (some ⟨b2, o2, none⟩) 1 c2 l2
section
variable {w0 w w' : World} {g b1 o1 c1 b2 o2 c2 : Nat}
theorem SW.next (h : SW w0 g b1 o1 c1 b2 o2 c2 w) (k : Below w.heap.size w w') : SW w0 g b1 o1 c1 b2 o2 c2 w' := ⟨below_then h.bel k, h.v.below k, h.x.below k, h.y.below k⟩
theorem SW.drew (h : SW w0 g b1 o1 c1 b2 o2 c2 w) : SW w0 g b1 o1 c1 b2 o2 c2 w.drew := h.next (Below.refl _ _).drew
theorem SW.all (h : SW w0 g b1 o1 c1 b2 o2 c2 w) : (w.cell? ⟨g, 0, none⟩ = some (.int .u32 0) ∧ w.cell? ⟨g, 1, none⟩ = some (.int .u32 4) ∧ w.cell? ⟨g, 2, none⟩ = some (.int .u32 1) ∧ w.cell? ⟨g, 3, none⟩ = some (.int .u32 0) ∧ w.cell? ⟨g, 4, none⟩ = some (.int .u32 0) ∧ w.cell? ⟨g, 5, none⟩ = some (.int .u32 0) ∧ w.cell? ⟨g, 6, none⟩ = some (.int .u32 0) ∧ w.cell? ⟨g, 7, none⟩ = some (.int .u32 0) ∧
    w.cell? ⟨b1, o1, none⟩ = some (.int .i64 1) ∧ w.cell? ⟨b1, o1 + 1, none⟩ = some (.int .u32 3) ∧ w.cell? ⟨b2, o2, none⟩ = some (.int .i64 1) ∧ w.cell? ⟨b2, o2 + 1, none⟩ = some (.int .u32 6) ∧ SW w0 g b1 o1 c1 b2 o2 c2 w) := by
  obtain ⟨b, off, e, i0, i1, _⟩ := at_zero (o := 1) (q := 3) h.x
  obtain ⟨b', off', e', j0, j1, _⟩ := at_zero (o := 1) (q := 6) h.y
  simp only [Option.some.injEq, Addr.mk.injEq, and_true] at e e'
  obtain ⟨rfl, rfl⟩ := e
  obtain ⟨rfl, rfl⟩ := e'
  exact ⟨vec_cell h.v 0 (by omega), vec_cell h.v 1 (by omega), vec_cell h.v 2 (by omega), vec_cell h.v 3 (by omega), vec_cell h.v 4 (by omega), vec_cell h.v 5 (by omega), vec_cell h.v 6 (by omega), vec_cell h.v 7 (by omega), i0, i1, j0, j1, h⟩
theorem SW.held {d0 d1 d2 d3 d4 d5 d6 d7 d8 d9 da db : Prop} (h : d0 ∧ d1 ∧ d2 ∧ d3 ∧ d4 ∧ d5 ∧ d6 ∧ d7 ∧ d8 ∧ d9 ∧ da ∧ db ∧ SW w0 g b1 o1 c1 b2 o2 c2 w) : SW w0 g b1 o1 c1 b2 o2 c2 w := h.2.2.2.2.2.2.2.2.2.2.2.2
theorem id_SW (o q : Int) (h : SW w0 g b1 o1 c1 b2 o2 c2 w) : Calls Try.prog 46 #[.int .i64 o, .int .u32 q] w fun e w' => e = .returned (.agg #[.int .i64 o, .int .u32 q]) ∧ SW w0 g b1 o1 c1 b2 o2 c2 w' :=
  (id_any o q w).mono fun _ _ ⟨h1, h2⟩ => ⟨h1, h.next h2⟩
theorem has_SW (x y : Int) (t : Bool) (h : SW w0 g b1 o1 c1 b2 o2 c2 w) (ht : hasS l1 (x, y) = t) : Calls Try.prog 15 #[.slice (some ⟨b1, o1, none⟩) 4 c1, .agg #[.int .i64 x, .int .u32 y]] w fun e w' => e = .returned (.bool t) ∧ SW w0 g b1 o1 c1 b2 o2 c2 w' :=
  (has_list _ 4 c1 l1 x y w h.x).mono fun _ _ ⟨h1, h2⟩ => ⟨ht ▸ h1, h.next h2⟩
end
theorem eq041 (w : World) : (Op.equalIn 10000 35 (.agg #[.int .u32 0, .int .u32 4, .int .u32 1, .int .u32 0, .int .u32 0, .int .u32 0, .int .u32 0, .int .u32 0]) (.agg #[.int .u32 0, .int .u32 4, .int .u32 1, .int .u32 0, .int .u32 0, .int .u32 0, .int .u32 0, .int .u32 0])).run Try.prog w = .ok true w := eql_vec 9998 (fun8 0 4 1 0 0 0 0 0) (fun8 0 4 1 0 0 0 0 0) w

set_option maxRecDepth 100000 in
set_option maxHeartbeats 4000000 in
theorem dworks_any (w : World) : Calls Try.prog 23 #[] w fun e w' => e = .returned (.bool true) ∧ Below w.heap.size w w' := by
  go_enter Try.func23, Try.ntmps23
  go_wp2_with fail
  refine (id_any 2 1 _).mono ?_
  rintro e wa ⟨rfl, ba⟩
  go_wp2_with fail
  refine (id_any 1 4 _).mono ?_
  rintro e wb ⟨rfl, bb⟩
  have b2 := below_then ba bb; clear ba bb
  go_wp2_with fail
  refine (id_any 1 3 _).mono ?_
  rintro e wc ⟨rfl, bc⟩
  have b3 := below_then b2 bc; clear b2 bc
  go_wp2_with fail
  refine (id_any 1 6 _).mono ?_
  rintro e wd ⟨rfl, bd⟩
  have b4 := below_then b3 bd; clear b3 bd
  go_wp2_with fail
  refine (id_any 1 3 _).mono ?_
  rintro e we ⟨rfl, be⟩
  have b5 := below_then b4 be; clear b4 be
  go_wp2_with fail
  refine (mk_l0 we).mono ?_
  rintro e w1 ⟨al1, cap1, rfl, hI1, b6⟩
  have HB1 := Lib.hid (below_then b5 b6); clear b5 b6
  have HI1 := Lib.hid hI1
  obtain ⟨b1, o1, rfl, _, _, _⟩ := at_zero (o := 1) (q := 3) hI1
  clear hI1
  go_wp2_with fail
  refine (fo_l1 _ cap1 w1 HI1.out).mono ?_
  rintro e w2 ⟨al2, cap2, rfl, hI2, b7⟩
  obtain ⟨b2, o2, rfl, _, _, _⟩ := at_zero (o := 1) (q := 6) hI2
  have hba := (Below.refl w2.heap.size w2).alloc (Nat.le_refl _) (.cells #[.int .u32 0, .int .u32 4, .int .u32 1, .int .u32 0, .int .u32 0, .int .u32 0, .int .u32 0, .int .u32 0] 35)
  have hS : SW w w2.heap.size b1 o1 cap1 b2 o2 cap2 (w2.alloc (.cells #[.int .u32 0, .int .u32 4, .int .u32 1, .int .u32 0, .int .u32 0, .int .u32 0, .int .u32 0, .int .u32 0] 35)) := ⟨below_new (below_then HB1.out b7) _, Blk.new _ _ _, (HI1.out.below b7).below hba, hI2.below hba⟩
  have HS := Lib.hid hS
  clear hS hba hI2 b7
  go_wp2_with fail
  refine (wr_l2 _ cap2 _ HS.out.y).mono ?_
  rintro e w3 ⟨rfl, b8⟩
  have hS := HS.out.next b8
  clear b8
  have hfit1 := hS.x.fit
  have hbd1 := hS.x.bd
  have hfit2 := hS.y.fit
  have hbd2 := hS.y.bd
  have e041 := eq041
  have he1 := fun W => (same_id 1 3 1 3 (.tmp 40) (.tmp 41) W).1
  have hg1 := fun W => (same_id 1 3 1 3 (.tmp 40) (.tmp 41) W).2.2.1
  have he2 := fun W => (same_id 1 6 1 6 (.tmp 61) (.tmp 62) W).1
  have hg2 := fun W => (same_id 1 6 1 6 (.tmp 61) (.tmp 62) W).2.2.1
  rw [decide_eq_true rfl] at he1 he2
  go_wp2_with fail
  go_region_held3 (fun w' => w'.cell? ⟨w2.heap.size, 0, none⟩ = some (.int .u32 0) ∧ w'.cell? ⟨w2.heap.size, 1, none⟩ = some (.int .u32 4) ∧ w'.cell? ⟨w2.heap.size, 2, none⟩ = some (.int .u32 1) ∧ w'.cell? ⟨w2.heap.size, 3, none⟩ = some (.int .u32 0) ∧ w'.cell? ⟨w2.heap.size, 4, none⟩ = some (.int .u32 0) ∧ w'.cell? ⟨w2.heap.size, 5, none⟩ = some (.int .u32 0) ∧ w'.cell? ⟨w2.heap.size, 6, none⟩ = some (.int .u32 0) ∧ w'.cell? ⟨w2.heap.size, 7, none⟩ = some (.int .u32 0) ∧ w'.cell? ⟨b1, o1, none⟩ = some (.int .i64 1) ∧ w'.cell? ⟨b1, o1 + 1, none⟩ = some (.int .u32 3) ∧ w'.cell? ⟨b2, o2, none⟩ = some (.int .i64 1) ∧ w'.cell? ⟨b2, o2 + 1, none⟩ = some (.int .u32 6) ∧ SW w w2.heap.size b1 o1 cap1 b2 o2 cap2 w') (first | exact SW.all (by assumption) | exact SW.all (SW.drew (by assumption)) | exact SW.all (SW.drew (SW.held (by assumption)))) (first | (go_at_call 46; refine (id_SW (w0 := w) (g := w2.heap.size) (b1 := b1) (o1 := o1) (c1 := cap1) (b2 := b2) (o2 := o2) (c2 := cap2) _ _ (by first | assumption | exact SW.held (by assumption))).mono ?_; rintro e w4 ⟨rfl, hJ⟩) | (go_at_call 15; refine (has_SW (w0 := w) (g := w2.heap.size) (b1 := b1) (o1 := o1) (c1 := cap1) (b2 := b2) (o2 := o2) (c2 := cap2) _ _ _ (by first | assumption | exact SW.held (by assumption)) (by first | exact wk6 | exact wk7)).mono ?_; rintro e w5 ⟨rfl, hK⟩))
  all_goals
    go_wp2
    go_ret
    exact ⟨rfl, SW.bel (by assumption)⟩
end Go.Proofs.Ytgcmlefalilodaa
