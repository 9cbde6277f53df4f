/-
  The walk of the law VecBytes.
  Conditions: package errors' own variable holds the handle of the type error; the library's own table of powers of ten holds what its text says.
-/
import Derived.Test.YtfmdmifpgmkohaaDoorVrE
import Derived.Test.YtfmdmifpgmkohaaDoorVrF
import Derived.Test.YtfmdmifpgmkohaaDoorOctG
namespace Go.Proofs.YtfmdmifpgmkohaaDoor
open Go.RowKit

/-- The vector lies in the first new block; the table is as it was. -/
structure KV (W : World) (v : Nat → Int) (w : World) : Prop where
  b : Blk w W.heap.size #[.int .u32 (v 0), .int .u32 (v 1), .int .u32 (v 2), .int .u32 (v 3), .int .u32 (v 4), .int .u32 (v 5), .int .u32 (v 6), .int .u32 (v 7)] 24
  bel : Below W.heap.size W w
  t : Tab w
section
variable {W : World} {v : Nat → Int} {w w' : World}
theorem KV.next (h : KV W v w) (k : Below w.heap.size w w') : KV W v w' := ⟨h.b.below k, below_then h.bel k, h.t.below k (Nat.le_refl _)⟩
theorem Tab.drew1 (h : Tab w) : Tab w.drew := h
theorem KV.drew (h : KV W v w) : KV W v w.drew := ⟨h.b, h.bel.drew, h.t.drew1⟩
theorem KV.all (h : KV W v w) : w.cell? ⟨W.heap.size, 0, none⟩ = some (.int .u32 (v 0)) ∧ w.cell? ⟨W.heap.size, 1, none⟩ = some (.int .u32 (v 1)) ∧ w.cell? ⟨W.heap.size, 2, none⟩ = some (.int .u32 (v 2)) ∧ w.cell? ⟨W.heap.size, 3, none⟩ = some (.int .u32 (v 3)) ∧ w.cell? ⟨W.heap.size, 4, none⟩ = some (.int .u32 (v 4)) ∧ w.cell? ⟨W.heap.size, 5, none⟩ = some (.int .u32 (v 5)) ∧ w.cell? ⟨W.heap.size, 6, none⟩ = some (.int .u32 (v 6)) ∧ w.cell? ⟨W.heap.size, 7, none⟩ = some (.int .u32 (v 7)) ∧ KV W v w := ⟨vec_cell h.b 0 (by omega), vec_cell h.b 1 (by omega), vec_cell h.b 2 (by omega), vec_cell h.b 3 (by omega), vec_cell h.b 4 (by omega), vec_cell h.b 5 (by omega), vec_cell h.b 6 (by omega), vec_cell h.b 7 (by omega), h⟩
theorem KV.held {c0 c1 c2 c3 c4 c5 c6 c7 : Prop} (h : c0 ∧ c1 ∧ c2 ∧ c3 ∧ c4 ∧ c5 ∧ c6 ∧ c7 ∧ KV W v w) : KV W v w := h.2.2.2.2.2.2.2.2
theorem text_KV (hv : ∀ i, i < 8 → 0 ≤ v i ∧ v i ≤ 4294967295) (h : KV W v w) :
    Calls Tryd.prog 7 #[.agg #[.int .u32 (v 0), .int .u32 (v 1), .int .u32 (v 2), .int .u32 (v 3), .int .u32 (v 4), .int .u32 (v 5), .int .u32 (v 6), .int .u32 (v 7)]] w fun e w' => e = .returned (.string (textV v)) ∧ KV W v w' :=
  (text_any v w hv h.t).mono fun _ _ ⟨h1, h2⟩ => ⟨h1, h.next h2⟩
theorem rtext_KV (hv : ∀ i, i < 8 → 0 ≤ v i ∧ v i ≤ 4294967295) (h : KV W v w) :
    Calls Tryd.prog 8 #[.agg #[.int .u32 (v 0), .int .u32 (v 1), .int .u32 (v 2), .int .u32 (v 3), .int .u32 (v 4), .int .u32 (v 5), .int .u32 (v 6), .int .u32 (v 7)]] w fun e w' => e = .returned (.string (textV v)) ∧ KV W v w' :=
  (rtextV_any v w hv).mono fun _ _ ⟨h1, h2⟩ => ⟨h1, h.next h2⟩
theorem write_KV (hv : ∀ i, i < 8 → 0 ≤ v i ∧ v i ≤ 4294967295) (h : KV W v w) :
    Calls Tryd.prog 9 #[.agg #[.int .u32 (v 0), .int .u32 (v 1), .int .u32 (v 2), .int .u32 (v 3), .int .u32 (v 4), .int .u32 (v 5), .int .u32 (v 6), .int .u32 (v 7)]] w fun e w' => e = .returned (.string (writeV v)) ∧ KV W v w' :=
  (write_any v w hv).mono fun _ _ ⟨h1, h2⟩ => ⟨h1, h.next h2⟩
theorem rwrite_KV (hv : ∀ i, i < 8 → 0 ≤ v i ∧ v i ≤ 4294967295) (h : KV W v w) :
    Calls Tryd.prog 10 #[.agg #[.int .u32 (v 0), .int .u32 (v 1), .int .u32 (v 2), .int .u32 (v 3), .int .u32 (v 4), .int .u32 (v 5), .int .u32 (v 6), .int .u32 (v 7)]] w fun e w' => e = .returned (.string (writeV v)) ∧ KV W v w' :=
  (rwrite_any v w hv).mono fun _ _ ⟨h1, h2⟩ => ⟨h1, h.next h2⟩
end

theorem rA_le {s : ByteArray} {a : Nat} {c : Int} (ha : a ≤ s.size) : rA s a c ≤ s.size := rS_in ha _
section
variable {W : World} {r q : Nat} {s : ByteArray} {a : Nat} {c : Int} {b : Nat} {d : Int} {w : World}
theorem readL_V (A : Nat) (C : Int) (X : Value) (hX : Value.agg #[.int .u32 (rV s a c 0), .int .u32 (rV s a c 1), .int .u32 (rV s a c 2), .int .u32 (rV s a c 3), .int .u32 (rV s a c 4), .int .u32 (rV s a c 5), .int .u32 (rV s a c 6), .int .u32 (rV s a c 7)] = X) (hA : rA s a c = A) (hC : rC s a c = C) (h : S2 W r q s a c b d w) (ha : a ≤ s.size) (hs : s.size ≤ 1048576) :
    Calls Tryd.prog 12 #[.pointer (some ⟨r, 0, none⟩)] w fun e w' => e = .returned X ∧ S2 W r q s A C b d w' := by
  subst hA; subst hC; subst hX
  exact (vecRead_any r a s c w h.rd ha hs).mono fun _ _ ⟨h1, h2, h3⟩ => ⟨h1, h.left h2 h3⟩
theorem readR_V (A : Nat) (C : Int) (X : Value) (hX : Value.agg #[.int .u32 (rV s b d 0), .int .u32 (rV s b d 1), .int .u32 (rV s b d 2), .int .u32 (rV s b d 3), .int .u32 (rV s b d 4), .int .u32 (rV s b d 5), .int .u32 (rV s b d 6), .int .u32 (rV s b d 7)] = X) (hA : rA s b d = A) (hC : rC s b d = C) (h : S2 W r q s a c b d w) (hb : b ≤ s.size) (hs : s.size ≤ 1048576) :
    Calls Tryd.prog 13 #[.pointer (some ⟨q, 0, none⟩)] w fun e w' => e = .returned X ∧ S2 W r q s a c A C w' := by
  subst hA; subst hC; subst hX
  exact (rvecRead_any q b s d w h.rr hb hs).mono fun _ _ ⟨h1, h2, h3⟩ => ⟨h1, h.right h2 h3⟩
end
theorem S2F.drew6 {W : World} {r q : Nat} {s : ByteArray} {a : Nat} {c : Int} {b : Nat} {d : Int} {f : Nat} {w : World} (h : S2F W r q s a c b d f w) : S2F W r q s a c b d f w.drew := ⟨h.s2.drew, h.fl⟩
theorem S2.six {W : World} {r q : Nat} {s : ByteArray} {a : Nat} {c : Int} {b : Nat} {d : Int} {w : World} {F : Int} (hF : (fA b d : Int) = F) (h : S2 W r q s a c b d w) :
    w.cell? ⟨q, 1, none⟩ = some (.int .i64 (b : Int)) ∧ w.cell? ⟨q, 2, none⟩ = some (.int .i64 F) ∧ w.cell? ⟨q, 3, none⟩ = some (.int .i64 d) ∧ S2 W r q s a c b d w := ⟨h.rr.c1, hF ▸ h.rr.c2, h.rr.c3, h⟩
/-- What holds with more known of the worlds, holds with less. -/
theorem wpAnyH_weak {P : Program} {md : Region.Mode} {ops : Array Oper} {Q : Exit → Act → World → Prop} {S S' : World → Prop} (hSS : ∀ w, S' w → S w) :
    ∀ (fuel : Nat) (listed : Array Bool) (a : Act) (w : World), wpAnyH P md ops Q S' fuel listed a w → wpAnyH P md ops Q S fuel listed a w
  | 0, _, _, _, h => h
  | fuel + 1, _, _, _, h => ⟨h.1, fun i hi => wpOp_mono (fun a' w' h' => ⟨hSS w' h'.1, wpAnyH_weak hSS fuel _ a' w' h'.2⟩) (h.2 i hi)⟩
theorem S2.start6 {W w : World} (s : ByteArray) (h : Below W.heap.size W w) : S2 W w.heap.size (w.heap.size + 1) s 0 0 0 0 ((w.alloc (.cells #[.string s, .int .i64 0, .int .i64 0] 73)).alloc (.cells #[.string s, .int .i64 0, .int .i64 0, .int .i64 0] 33)) :=
  ⟨(Blk.new w #[.string s, .int .i64 0, .int .i64 0] 73).alloc _, by
    have := Blk.new (w.alloc (.cells #[.string s, .int .i64 0, .int .i64 0] 73)) #[.string s, .int .i64 0, .int .i64 0, .int .i64 0] 33
    simpa [RR, fA] using this, below_new (below_new h _) _, h.size, by have := h.size; omega, by omega⟩

theorem guard_self (v : Nat → Int) (W : World) : (eqGuard .neq 24 (.tmp 33) (.tmp 35) (.agg #[.int .u32 (v 0), .int .u32 (v 1), .int .u32 (v 2), .int .u32 (v 3), .int .u32 (v 4), .int .u32 (v 5), .int .u32 (v 6), .int .u32 (v 7)]) (.agg #[.int .u32 (v 0), .int .u32 (v 1), .int .u32 (v 2), .int .u32 (v 3), .int .u32 (v 4), .int .u32 (v 5), .int .u32 (v 6), .int .u32 (v 7)])).run Tryd.prog W = .ok () W := by
  go_simp
theorem neq_self (v : Nat → Int) (W : World) : (binOp .neq 24 (.agg #[.int .u32 (v 0), .int .u32 (v 1), .int .u32 (v 2), .int .u32 (v 3), .int .u32 (v 4), .int .u32 (v 5), .int .u32 (v 6), .int .u32 (v 7)]) (.agg #[.int .u32 (v 0), .int .u32 (v 1), .int .u32 (v 2), .int .u32 (v 3), .int .u32 (v 4), .int .u32 (v 5), .int .u32 (v 6), .int .u32 (v 7)])).run Tryd.prog W = .ok (.bool false) W := by
  have he := eql_self v
  go_simp

set_option maxRecDepth 100000 in
set_option maxHeartbeats 400000 in
theorem vecBytes_long (v : Nat → Int) (s : ByteArray) (w : World) (hl : 1000 < s.size) (hs : s.size ≤ 9223372036854775807) :
    Calls Tryd.prog 3 #[.agg #[.int .u32 (v 0), .int .u32 (v 1), .int .u32 (v 2), .int .u32 (v 3), .int .u32 (v 4), .int .u32 (v 5), .int .u32 (v 6), .int .u32 (v 7)], .string s] w fun e w' => e = .returned (.bool true) ∧ Below w.heap.size w w' := by
  have hb := (Below.refl w.heap.size w).alloc (Nat.le_refl _) (.cells #[.int .u32 (v 0), .int .u32 (v 1), .int .u32 (v 2), .int .u32 (v 3), .int .u32 (v 4), .int .u32 (v 5), .int .u32 (v 6), .int .u32 (v 7)] 24)
  have d1 : decide ((s.size : Int) > 1000) = true := decide_eq_true (by omega)
  go_enter Tryd.func3, Tryd.ntmps3
  go_wp2
  go_ret
  exact ⟨rfl, hb⟩

set_option maxRecDepth 100000 in
set_option maxHeartbeats 4000000 in
theorem vecBytes_short (v : Nat → Int) (s : ByteArray) (w : World) (hg : Handle w) (ht : Tab w) (hv : ∀ i, i < 8 → 0 ≤ v i ∧ v i ≤ 4294967295) (hl : s.size ≤ 1000) :
    Calls Tryd.prog 3 #[.agg #[.int .u32 (v 0), .int .u32 (v 1), .int .u32 (v 2), .int .u32 (v 3), .int .u32 (v 4), .int .u32 (v 5), .int .u32 (v 6), .int .u32 (v 7)], .string s] w fun e w' => e = .returned (.bool true) ∧ Below w.heap.size w w' := by
  have hK : KV w v (w.alloc (.cells #[.int .u32 (v 0), .int .u32 (v 1), .int .u32 (v 2), .int .u32 (v 3), .int .u32 (v 4), .int .u32 (v 5), .int .u32 (v 6), .int .u32 (v 7)] 24)) := ⟨Blk.new _ _ _, (Below.refl w.heap.size w).alloc (Nat.le_refl _) _, ht.alloc _⟩
  have d1 : decide ((s.size : Int) > 1000) = false := decide_eq_false (by omega)
  have HV := Lib.hid hv; have HG := Lib.hid hg
  clear hv hg ht
  go_enter Tryd.func3, Tryd.ntmps3
  go_wp2_with fail
  go_region_held3 (fun w' => w'.cell? ⟨w.heap.size, 0, none⟩ = some (.int .u32 (v 0)) ∧ w'.cell? ⟨w.heap.size, 1, none⟩ = some (.int .u32 (v 1)) ∧ w'.cell? ⟨w.heap.size, 2, none⟩ = some (.int .u32 (v 2)) ∧ w'.cell? ⟨w.heap.size, 3, none⟩ = some (.int .u32 (v 3)) ∧ w'.cell? ⟨w.heap.size, 4, none⟩ = some (.int .u32 (v 4)) ∧ w'.cell? ⟨w.heap.size, 5, none⟩ = some (.int .u32 (v 5)) ∧ w'.cell? ⟨w.heap.size, 6, none⟩ = some (.int .u32 (v 6)) ∧ w'.cell? ⟨w.heap.size, 7, none⟩ = some (.int .u32 (v 7)) ∧ KV w v w') (first | exact KV.all (by assumption) | exact KV.all (KV.drew (by assumption))) (first | (go_at_call 7; refine (text_KV (W := w) HV.out (by first | assumption | exact KV.held (by assumption))).mono ?_; rintro e w1 ⟨rfl, hK1⟩) | (go_at_call 8; refine (rtext_KV (W := w) HV.out (by first | assumption | exact KV.held (by assumption))).mono ?_; rintro e w2 ⟨rfl, hK2⟩) | (go_at_call 9; refine (write_KV (W := w) HV.out (by first | assumption | exact KV.held (by assumption))).mono ?_; rintro e w3 ⟨rfl, hK3⟩) | (go_at_call 10; refine (rwrite_KV (W := w) HV.out (by first | assumption | exact KV.held (by assumption))).mono ?_; rintro e w4 ⟨rfl, hK4⟩))
  have hb4 := hK4.bel
  clear hK hK1 hK2 hK3 hK4 d1
  generalize Value.agg #[.int .u32 (v 0), .int .u32 (v 1), .int .u32 (v 2), .int .u32 (v 3), .int .u32 (v 4), .int .u32 (v 5), .int .u32 (v 6), .int .u32 (v 7)] = VV
  go_wp2_with fail
  refine (new_any _ _).mono ?_
  rintro e w5 ⟨rfl, rfl⟩
  have HS := Lib.hid (S2.start6 s hb4)
  clear hb4
  go_wp2
  go_loopw [7] (fun i wr => ∃ (k a : Nat) (c : Int), i = .int .i64 k ∧ k ≤ 2 ∧ a ≤ s.size ∧ S2 w w4.heap.size (w4.heap.size + 1) s a c a c wr) (fun i _ => 2 - (intOf i).toNat)
  case atStart => exact ⟨0, 0, 0, rfl, by omega, Nat.zero_le _, HS.out⟩
  case round =>
    obtain ⟨k, a, c, rfl, hk, ha, hS⟩ := hrel
    clear HS
    have HS := Lib.hid hS; clear hS
    by_cases hk2 : k < 2
    · have hsz : s.size ≤ 1048576 := by omega
      obtain ⟨A, hA⟩ : ∃ A, rA s a c = A := ⟨_, rfl⟩
      obtain ⟨C, hC⟩ : ∃ C, rC s a c = C := ⟨_, rfl⟩
      have HA := Lib.hid hA; have HC := Lib.hid hC
      have HA0 : Hid (A ≤ s.size) := Lib.hid (by rw [← hA]; exact rA_le ha)
      have HA1 : Hid (A ≤ 1048576) := Lib.hid (by have := HA0.out; omega)
      obtain ⟨X, hX⟩ : ∃ X, Value.agg #[.int .u32 (rV s a c 0), .int .u32 (rV s a c 1), .int .u32 (rV s a c 2), .int .u32 (rV s a c 3), .int .u32 (rV s a c 4), .int .u32 (rV s a c 5), .int .u32 (rV s a c 6), .int .u32 (rV s a c 7)] = X := ⟨_, rfl⟩
      have he1 : ∀ W, (eqGuard .neq 24 (.tmp 33) (.tmp 35) X X).run Tryd.prog W = .ok () W := fun W => by rw [← hX]; exact guard_self (rV s a c) W
      have he2 : ∀ W, (binOp .neq 24 X X).run Tryd.prog W = .ok (.bool false) W := fun W => by rw [← hX]; exact neq_self (rV s a c) W
      have HX := Lib.hid hX; clear hX
      clear hA hC
      by_cases hc : C = 0
      · subst hc
        have HF : Hid ((fA A 0 : Int) = 0) := Lib.hid rfl
        go_upto_region 8 with fail
        have HS9 := Lib.hid HS.out.drew
        clear HS
        refine wp_region_held_drew (S := fun _ => True) (by kernel_rfl) trivial (fun hHeld => ?_)
        refine wpAnyH_take (i := 0) (oi := ⟨some 32, _, _, _, _, _⟩) (v := ?_) rfl (by kernel_rfl) (by kernel_rfl) (by kernel_rfl) (fun _ _ _ h => h) (Or.inl ⟨by rfl, ?_⟩) (by first | assumption | trivial) ?_
        rotate_left
        · intro w hSw; (try dsimp only at hSw); go_simp; try (with_reducible rfl)
        try simp only [Act.put, List.setIfInBounds_toArray, List.set_cons_zero, List.set_cons_succ]
        refine wpAnyH_take (i := 2) (oi := ⟨some 34, _, _, _, _, _⟩) (v := ?_) rfl (by kernel_rfl) (by kernel_rfl) (by kernel_rfl) (fun _ _ _ h => h) (Or.inl ⟨by rfl, ?_⟩) (by first | assumption | trivial) ?_
        rotate_left
        · intro w hSw; (try dsimp only at hSw); go_simp; try (with_reducible rfl)
        try simp only [Act.put, List.setIfInBounds_toArray, List.set_cons_zero, List.set_cons_succ]
        refine wpAnyH_ready (rs := [1]) (by kernel_rfl) (by simp) ?_
        refine AllReadyH.cons (o := ⟨some 33, _, _, _, _, _⟩) rfl (fun K hK => ?_) AllReadyH.nil
        go_simp
        go_at_call 12
        refine (readL_V (W := w) (r := w4.heap.size) (q := w4.heap.size + 1) (s := s) (a := a) (c := c) (b := a) (d := c) A 0 X HX.out HA.out HC.out HS9.out ha hsz).mono ?_
        rintro e w6 ⟨rfl, hS6⟩
        go_wp2_with fail
        refine hK.out _ _ (trivial) (fun hHeld => ?_)
        clear hK K
        try simp only [Act.put, List.setIfInBounds_toArray, List.set_cons_zero, List.set_cons_succ]
        clear HS9
        refine wpAnyH_ready (rs := [3]) (by kernel_rfl) (by simp) ?_
        refine AllReadyH.cons (o := ⟨some 35, _, _, _, _, _⟩) rfl (fun K hK => ?_) AllReadyH.nil
        go_simp
        go_at_call 13
        refine (readR_V (W := w) (r := w4.heap.size) (q := w4.heap.size + 1) (s := s) (a := A) (c := 0) (b := a) (d := c) A 0 X HX.out HA.out HC.out hS6 ha hsz).mono ?_
        rintro e w7 ⟨rfl, hS7⟩
        go_wp2_with fail
        refine hK.out _ _ (trivial) (fun hHeld => ?_)
        clear hK K
        try simp only [Act.put, List.setIfInBounds_toArray, List.set_cons_zero, List.set_cons_succ]
        clear hS6 hHeld
        refine wpAnyH_weak (S' := fun w' => w'.cell? ⟨w4.heap.size + 1, 1, none⟩ = some (.int .i64 (A : Int)) ∧ w'.cell? ⟨w4.heap.size + 1, 2, none⟩ = some (.int .i64 0) ∧ w'.cell? ⟨w4.heap.size + 1, 3, none⟩ = some (.int .i64 0) ∧ S2 w w4.heap.size (w4.heap.size + 1) s A 0 A 0 w') (fun _ _ => trivial) _ _ _ _ ?_
        have hHeld := S2.six HF.out hS7
        refine wpAnyH_take (i := 4) (oi := ⟨some 36, _, _, _, _, _⟩) (v := ?_) rfl (by kernel_rfl) (by kernel_rfl) (by kernel_rfl) (fun _ _ _ h => h) (Or.inl ⟨by rfl, ?_⟩) (by first | assumption | trivial) ?_
        rotate_left
        · intro w hSw; (try dsimp only at hSw); go_simp; try (with_reducible rfl)
        try simp only [Act.put, List.setIfInBounds_toArray, List.set_cons_zero, List.set_cons_succ]
        refine wpAnyH_take (i := 5) (oi := ⟨some 37, _, _, _, _, _⟩) (v := ?_) rfl (by kernel_rfl) (by kernel_rfl) (by kernel_rfl) (fun _ _ _ h => h) (Or.inl ⟨by rfl, ?_⟩) (by first | assumption | trivial) ?_
        rotate_left
        · intro w hSw; (try dsimp only at hSw); go_simp; try (with_reducible rfl)
        try simp only [Act.put, List.setIfInBounds_toArray, List.set_cons_zero, List.set_cons_succ]
        refine wpAnyH_take (i := 6) (oi := ⟨some 38, _, _, _, _, _⟩) (v := ?_) rfl (by kernel_rfl) (by kernel_rfl) (by kernel_rfl) (fun _ _ _ h => h) (Or.inl ⟨by rfl, ?_⟩) (by first | assumption | trivial) ?_
        rotate_left
        · intro w hSw; (try dsimp only at hSw); go_simp; try (with_reducible rfl)
        try simp only [Act.put, List.setIfInBounds_toArray, List.set_cons_zero, List.set_cons_succ]
        refine wpAnyH_take (i := 8) (oi := ⟨some 40, _, _, _, _, _⟩) (v := ?_) rfl (by kernel_rfl) (by kernel_rfl) (by kernel_rfl) (fun _ _ _ h => h) (Or.inl ⟨by rfl, ?_⟩) (by first | assumption | trivial) ?_
        rotate_left
        · intro w hSw; (try dsimp only at hSw); go_simp; try (with_reducible rfl)
        try simp only [Act.put, List.setIfInBounds_toArray, List.set_cons_zero, List.set_cons_succ]
        refine wpAnyH_take (i := 9) (oi := ⟨some 41, _, _, _, _, _⟩) (v := ?_) rfl (by kernel_rfl) (by kernel_rfl) (by kernel_rfl) (fun _ _ _ h => h) (Or.inl ⟨by rfl, ?_⟩) (by first | assumption | trivial) ?_
        rotate_left
        · intro w hSw; (try dsimp only at hSw); go_simp; try (with_reducible rfl)
        try simp only [Act.put, List.setIfInBounds_toArray, List.set_cons_zero, List.set_cons_succ]
        refine wpAnyH_take (i := 10) (oi := ⟨some 42, _, _, _, _, _⟩) (v := ?_) rfl (by kernel_rfl) (by kernel_rfl) (by kernel_rfl) (fun _ _ _ h => h) (Or.inl ⟨by rfl, ?_⟩) (by first | assumption | trivial) ?_
        rotate_left
        · intro w hSw; (try dsimp only at hSw); go_simp; try (with_reducible rfl)
        try simp only [Act.put, List.setIfInBounds_toArray, List.set_cons_zero, List.set_cons_succ]
        refine wpAnyH_take (i := 11) (oi := ⟨some 43, _, _, _, _, _⟩) (v := ?_) rfl (by kernel_rfl) (by kernel_rfl) (by kernel_rfl) (fun _ _ _ h => h) (Or.inl ⟨by rfl, ?_⟩) (by first | assumption | trivial) ?_
        rotate_left
        · intro w hSw; (try dsimp only at hSw); go_simp; try (with_reducible rfl)
        try simp only [Act.put, List.setIfInBounds_toArray, List.set_cons_zero, List.set_cons_succ]
        refine wpAnyH_ready (rs := [7]) (by kernel_rfl) (by simp) ?_
        refine AllReadyH.cons (o := ⟨some 39, _, _, _, _, _⟩) rfl (fun K hK => ?_) AllReadyH.nil
        go_simp
        go_at_call 14
        refine (atL_S2 hHeld.2.2.2).mono ?_
        rintro e w8 ⟨rfl, hS8⟩
        go_wp2_with fail
        refine hK.out _ _ (S2.six HF.out hS8) (fun hHeld => ?_)
        clear hK K
        try simp only [Act.put, List.setIfInBounds_toArray, List.set_cons_zero, List.set_cons_succ]
        refine wpAnyH_take (i := 12) (oi := ⟨some 44, _, _, _, _, _⟩) (v := ?_) rfl (by kernel_rfl) (by kernel_rfl) (by kernel_rfl) (fun _ _ _ h => h) (Or.inl ⟨by rfl, ?_⟩) (by first | assumption | trivial) ?_
        rotate_left
        · intro w hSw; (try dsimp only at hSw); go_simp; try (with_reducible rfl)
        try simp only [Act.put, List.setIfInBounds_toArray, List.set_cons_zero, List.set_cons_succ]
        refine wpAnyH_take (i := 13) (oi := ⟨some 45, _, _, _, _, _⟩) (v := ?_) rfl (by kernel_rfl) (by kernel_rfl) (by kernel_rfl) (fun _ _ _ h => h) (Or.inl ⟨by rfl, ?_⟩) (by first | assumption | trivial) ?_
        rotate_left
        · intro w hSw; (try dsimp only at hSw); go_simp; try (with_reducible rfl)
        try simp only [Act.put, List.setIfInBounds_toArray, List.set_cons_zero, List.set_cons_succ]
        refine wpAnyH_take (i := 14) (oi := ⟨some 46, _, _, _, _, _⟩) (v := ?_) rfl (by kernel_rfl) (by kernel_rfl) (by kernel_rfl) (fun _ _ _ h => h) (Or.inl ⟨by rfl, ?_⟩) (by first | assumption | trivial) ?_
        rotate_left
        · intro w hSw; (try dsimp only at hSw); go_simp; try (with_reducible rfl)
        try simp only [Act.put, List.setIfInBounds_toArray, List.set_cons_zero, List.set_cons_succ]
        refine wpAnyH_take (i := 15) (oi := ⟨some 47, _, _, _, _, _⟩) (v := ?_) rfl (by kernel_rfl) (by kernel_rfl) (by kernel_rfl) (fun _ _ _ h => h) (Or.inl ⟨by rfl, ?_⟩) (by first | assumption | trivial) ?_
        rotate_left
        · intro w hSw; (try dsimp only at hSw); go_simp; try (with_reducible rfl)
        try simp only [Act.put, List.setIfInBounds_toArray, List.set_cons_zero, List.set_cons_succ]
        refine wpAnyH_take (i := 18) (oi := ⟨some 50, _, _, _, _, _⟩) (v := ?_) rfl (by kernel_rfl) (by kernel_rfl) (by kernel_rfl) (fun _ _ _ h => h) (Or.inl ⟨by rfl, ?_⟩) (by first | assumption | trivial) ?_
        rotate_left
        · intro w hSw; (try dsimp only at hSw); go_simp; try (with_reducible rfl)
        try simp only [Act.put, List.setIfInBounds_toArray, List.set_cons_zero, List.set_cons_succ]
        refine wpAnyH_take (i := 19) (oi := ⟨some 51, _, _, _, _, _⟩) (v := ?_) rfl (by kernel_rfl) (by kernel_rfl) (by kernel_rfl) (fun _ _ _ h => h) (Or.inl ⟨by rfl, ?_⟩) (by first | assumption | trivial) ?_
        rotate_left
        · intro w hSw; (try dsimp only at hSw); go_simp; try (with_reducible rfl)
        try simp only [Act.put, List.setIfInBounds_toArray, List.set_cons_zero, List.set_cons_succ]
        refine wpAnyH_take (i := 20) (oi := ⟨some 52, _, _, _, _, _⟩) (v := ?_) rfl (by kernel_rfl) (by kernel_rfl) (by kernel_rfl) (fun _ _ _ h => h) (Or.inl ⟨by rfl, ?_⟩) (by first | assumption | trivial) ?_
        rotate_left
        · intro w hSw; (try dsimp only at hSw); go_simp; try (with_reducible rfl)
        try simp only [Act.put, List.setIfInBounds_toArray, List.set_cons_zero, List.set_cons_succ]
        refine wpAnyH_take (i := 21) (oi := ⟨some 53, _, _, _, _, _⟩) (v := ?_) rfl (by kernel_rfl) (by kernel_rfl) (by kernel_rfl) (fun _ _ _ h => h) (Or.inl ⟨by rfl, ?_⟩) (by first | assumption | trivial) ?_
        rotate_left
        · intro w hSw; (try dsimp only at hSw); go_simp; try (with_reducible rfl)
        try simp only [Act.put, List.setIfInBounds_toArray, List.set_cons_zero, List.set_cons_succ]
        refine wpAnyH_ready (rs := [16]) (by kernel_rfl) (by simp) ?_
        refine AllReadyH.cons (o := ⟨some 48, _, _, _, _, _⟩) rfl (fun K hK => ?_) AllReadyH.nil
        go_simp
        go_at_call 16
        refine (errL_none hS8).mono ?_
        rintro e w9 ⟨rfl, hS9⟩
        go_wp2_with fail
        refine hK.out _ _ (S2.six HF.out hS9) (fun hHeld => ?_)
        clear hK K
        try simp only [Act.put, List.setIfInBounds_toArray, List.set_cons_zero, List.set_cons_succ]
        refine wpAnyH_ready (rs := [17]) (by kernel_rfl) (by simp) ?_
        refine AllReadyH.cons (o := ⟨some 49, _, _, _, _, _⟩) rfl (fun K hK => ?_) AllReadyH.nil
        go_simp
        go_at_call 15
        refine (seenN_S2 hS9).mono ?_
        rintro e w10 ⟨rfl, hS10⟩
        go_wp2_with fail
        refine hK.out _ _ (S2.six HF.out hS10) (fun hHeld => ?_)
        clear hK K
        try simp only [Act.put, List.setIfInBounds_toArray, List.set_cons_zero, List.set_cons_succ]
        refine wpAnyH_take (i := 22) (oi := ⟨some 54, _, _, _, _, _⟩) (v := ?_) rfl (by kernel_rfl) (by kernel_rfl) (by kernel_rfl) (fun _ _ _ h => h) (Or.inl ⟨by rfl, ?_⟩) (by first | assumption | trivial) ?_
        rotate_left
        · intro w hSw; (try dsimp only at hSw); go_simp; try (with_reducible rfl)
        try simp only [Act.put, List.setIfInBounds_toArray, List.set_cons_zero, List.set_cons_succ]
        refine wpAnyH_take (i := 23) (oi := ⟨some 55, _, _, _, _, _⟩) (v := ?_) rfl (by kernel_rfl) (by kernel_rfl) (by kernel_rfl) (fun _ _ _ h => h) (Or.inl ⟨by rfl, ?_⟩) (by first | assumption | trivial) ?_
        rotate_left
        · intro w hSw; (try dsimp only at hSw); go_simp; try (with_reducible rfl)
        try simp only [Act.put, List.setIfInBounds_toArray, List.set_cons_zero, List.set_cons_succ]
        refine wpAnyH_done (by kernel_rfl) ?_ _
        go_wp2
        go_roundw
        case rel => exact ⟨k + 1, A, 0, by go_num, by omega, HA0.out, hS10⟩
        case measure => simp [intOf]; omega
      · have HF : Hid ((fA A C : Int) = A) := Lib.hid (by unfold fA; rw [if_neg hc])
        have HCN := Lib.hid hc; clear hc
        go_upto_region 8 with fail
        have HS9 := Lib.hid HS.out.drew
        clear HS
        refine wp_region_held_drew (S := fun _ => True) (by kernel_rfl) trivial (fun hHeld => ?_)
        refine wpAnyH_take (i := 0) (oi := ⟨some 32, _, _, _, _, _⟩) (v := ?_) rfl (by kernel_rfl) (by kernel_rfl) (by kernel_rfl) (fun _ _ _ h => h) (Or.inl ⟨by rfl, ?_⟩) (by first | assumption | trivial) ?_
        rotate_left
        · intro w hSw; (try dsimp only at hSw); go_simp; try (with_reducible rfl)
        try simp only [Act.put, List.setIfInBounds_toArray, List.set_cons_zero, List.set_cons_succ]
        refine wpAnyH_take (i := 2) (oi := ⟨some 34, _, _, _, _, _⟩) (v := ?_) rfl (by kernel_rfl) (by kernel_rfl) (by kernel_rfl) (fun _ _ _ h => h) (Or.inl ⟨by rfl, ?_⟩) (by first | assumption | trivial) ?_
        rotate_left
        · intro w hSw; (try dsimp only at hSw); go_simp; try (with_reducible rfl)
        try simp only [Act.put, List.setIfInBounds_toArray, List.set_cons_zero, List.set_cons_succ]
        refine wpAnyH_ready (rs := [1]) (by kernel_rfl) (by simp) ?_
        refine AllReadyH.cons (o := ⟨some 33, _, _, _, _, _⟩) rfl (fun K hK => ?_) AllReadyH.nil
        go_simp
        go_at_call 12
        refine (readL_V (W := w) (r := w4.heap.size) (q := w4.heap.size + 1) (s := s) (a := a) (c := c) (b := a) (d := c) A C X HX.out HA.out HC.out HS9.out ha hsz).mono ?_
        rintro e w6 ⟨rfl, hS6⟩
        go_wp2_with fail
        refine hK.out _ _ (trivial) (fun hHeld => ?_)
        clear hK K
        try simp only [Act.put, List.setIfInBounds_toArray, List.set_cons_zero, List.set_cons_succ]
        clear HS9
        refine wpAnyH_ready (rs := [3]) (by kernel_rfl) (by simp) ?_
        refine AllReadyH.cons (o := ⟨some 35, _, _, _, _, _⟩) rfl (fun K hK => ?_) AllReadyH.nil
        go_simp
        go_at_call 13
        refine (readR_V (W := w) (r := w4.heap.size) (q := w4.heap.size + 1) (s := s) (a := A) (c := C) (b := a) (d := c) A C X HX.out HA.out HC.out hS6 ha hsz).mono ?_
        rintro e w7 ⟨rfl, hS7⟩
        go_wp2_with fail
        refine hK.out _ _ (trivial) (fun hHeld => ?_)
        clear hK K
        try simp only [Act.put, List.setIfInBounds_toArray, List.set_cons_zero, List.set_cons_succ]
        clear hS6 hHeld
        refine wpAnyH_weak (S' := fun w' => w'.cell? ⟨w4.heap.size + 1, 1, none⟩ = some (.int .i64 (A : Int)) ∧ w'.cell? ⟨w4.heap.size + 1, 2, none⟩ = some (.int .i64 (A : Int)) ∧ w'.cell? ⟨w4.heap.size + 1, 3, none⟩ = some (.int .i64 C) ∧ S2 w w4.heap.size (w4.heap.size + 1) s A C A C w') (fun _ _ => trivial) _ _ _ _ ?_
        have hHeld := S2.six HF.out hS7
        refine wpAnyH_take (i := 4) (oi := ⟨some 36, _, _, _, _, _⟩) (v := ?_) rfl (by kernel_rfl) (by kernel_rfl) (by kernel_rfl) (fun _ _ _ h => h) (Or.inl ⟨by rfl, ?_⟩) (by first | assumption | trivial) ?_
        rotate_left
        · intro w hSw; (try dsimp only at hSw); go_simp; try (with_reducible rfl)
        try simp only [Act.put, List.setIfInBounds_toArray, List.set_cons_zero, List.set_cons_succ]
        refine wpAnyH_take (i := 5) (oi := ⟨some 37, _, _, _, _, _⟩) (v := ?_) rfl (by kernel_rfl) (by kernel_rfl) (by kernel_rfl) (fun _ _ _ h => h) (Or.inl ⟨by rfl, ?_⟩) (by first | assumption | trivial) ?_
        rotate_left
        · intro w hSw; (try dsimp only at hSw); go_simp; try (with_reducible rfl)
        try simp only [Act.put, List.setIfInBounds_toArray, List.set_cons_zero, List.set_cons_succ]
        refine wpAnyH_take (i := 6) (oi := ⟨some 38, _, _, _, _, _⟩) (v := ?_) rfl (by kernel_rfl) (by kernel_rfl) (by kernel_rfl) (fun _ _ _ h => h) (Or.inl ⟨by rfl, ?_⟩) (by first | assumption | trivial) ?_
        rotate_left
        · intro w hSw; (try dsimp only at hSw); go_simp; try (with_reducible rfl)
        try simp only [Act.put, List.setIfInBounds_toArray, List.set_cons_zero, List.set_cons_succ]
        refine wpAnyH_take (i := 8) (oi := ⟨some 40, _, _, _, _, _⟩) (v := ?_) rfl (by kernel_rfl) (by kernel_rfl) (by kernel_rfl) (fun _ _ _ h => h) (Or.inl ⟨by rfl, ?_⟩) (by first | assumption | trivial) ?_
        rotate_left
        · intro w hSw; (try dsimp only at hSw); go_simp; try (with_reducible rfl)
        try simp only [Act.put, List.setIfInBounds_toArray, List.set_cons_zero, List.set_cons_succ]
        refine wpAnyH_take (i := 9) (oi := ⟨some 41, _, _, _, _, _⟩) (v := ?_) rfl (by kernel_rfl) (by kernel_rfl) (by kernel_rfl) (fun _ _ _ h => h) (Or.inl ⟨by rfl, ?_⟩) (by first | assumption | trivial) ?_
        rotate_left
        · intro w hSw; (try dsimp only at hSw); go_simp; try (with_reducible rfl)
        try simp only [Act.put, List.setIfInBounds_toArray, List.set_cons_zero, List.set_cons_succ]
        refine wpAnyH_take (i := 10) (oi := ⟨some 42, _, _, _, _, _⟩) (v := ?_) rfl (by kernel_rfl) (by kernel_rfl) (by kernel_rfl) (fun _ _ _ h => h) (Or.inl ⟨by rfl, ?_⟩) (by first | assumption | trivial) ?_
        rotate_left
        · intro w hSw; (try dsimp only at hSw); go_simp; try (with_reducible rfl)
        try simp only [Act.put, List.setIfInBounds_toArray, List.set_cons_zero, List.set_cons_succ]
        refine wpAnyH_take (i := 11) (oi := ⟨some 43, _, _, _, _, _⟩) (v := ?_) rfl (by kernel_rfl) (by kernel_rfl) (by kernel_rfl) (fun _ _ _ h => h) (Or.inl ⟨by rfl, ?_⟩) (by first | assumption | trivial) ?_
        rotate_left
        · intro w hSw; (try dsimp only at hSw); go_simp; try (with_reducible rfl)
        try simp only [Act.put, List.setIfInBounds_toArray, List.set_cons_zero, List.set_cons_succ]
        refine wpAnyH_ready (rs := [7]) (by kernel_rfl) (by simp) ?_
        refine AllReadyH.cons (o := ⟨some 39, _, _, _, _, _⟩) rfl (fun K hK => ?_) AllReadyH.nil
        go_simp
        go_at_call 14
        refine (atL_S2 hHeld.2.2.2).mono ?_
        rintro e w8 ⟨rfl, hS8⟩
        go_wp2_with fail
        refine hK.out _ _ (S2.six HF.out hS8) (fun hHeld => ?_)
        clear hK K
        try simp only [Act.put, List.setIfInBounds_toArray, List.set_cons_zero, List.set_cons_succ]
        refine wpAnyH_take (i := 12) (oi := ⟨some 44, _, _, _, _, _⟩) (v := ?_) rfl (by kernel_rfl) (by kernel_rfl) (by kernel_rfl) (fun _ _ _ h => h) (Or.inl ⟨by rfl, ?_⟩) (by first | assumption | trivial) ?_
        rotate_left
        · intro w hSw; (try dsimp only at hSw); go_simp; try (with_reducible rfl)
        try simp only [Act.put, List.setIfInBounds_toArray, List.set_cons_zero, List.set_cons_succ]
        refine wpAnyH_take (i := 13) (oi := ⟨some 45, _, _, _, _, _⟩) (v := ?_) rfl (by kernel_rfl) (by kernel_rfl) (by kernel_rfl) (fun _ _ _ h => h) (Or.inl ⟨by rfl, ?_⟩) (by first | assumption | trivial) ?_
        rotate_left
        · intro w hSw; (try dsimp only at hSw); go_simp; try (with_reducible rfl)
        try simp only [Act.put, List.setIfInBounds_toArray, List.set_cons_zero, List.set_cons_succ]
        refine wpAnyH_take (i := 14) (oi := ⟨some 46, _, _, _, _, _⟩) (v := ?_) rfl (by kernel_rfl) (by kernel_rfl) (by kernel_rfl) (fun _ _ _ h => h) (Or.inl ⟨by rfl, ?_⟩) (by first | assumption | trivial) ?_
        rotate_left
        · intro w hSw; (try dsimp only at hSw); go_simp; try (with_reducible rfl)
        try simp only [Act.put, List.setIfInBounds_toArray, List.set_cons_zero, List.set_cons_succ]
        refine wpAnyH_take (i := 15) (oi := ⟨some 47, _, _, _, _, _⟩) (v := ?_) rfl (by kernel_rfl) (by kernel_rfl) (by kernel_rfl) (fun _ _ _ h => h) (Or.inl ⟨by rfl, ?_⟩) (by first | assumption | trivial) ?_
        rotate_left
        · intro w hSw; (try dsimp only at hSw); go_simp; try (with_reducible rfl)
        try simp only [Act.put, List.setIfInBounds_toArray, List.set_cons_zero, List.set_cons_succ]
        refine wpAnyH_take (i := 18) (oi := ⟨some 50, _, _, _, _, _⟩) (v := ?_) rfl (by kernel_rfl) (by kernel_rfl) (by kernel_rfl) (fun _ _ _ h => h) (Or.inl ⟨by rfl, ?_⟩) (by first | assumption | trivial) ?_
        rotate_left
        · intro w hSw; (try dsimp only at hSw); go_simp; try (with_reducible rfl)
        try simp only [Act.put, List.setIfInBounds_toArray, List.set_cons_zero, List.set_cons_succ]
        refine wpAnyH_take (i := 19) (oi := ⟨some 51, _, _, _, _, _⟩) (v := ?_) rfl (by kernel_rfl) (by kernel_rfl) (by kernel_rfl) (fun _ _ _ h => h) (Or.inl ⟨by rfl, ?_⟩) (by first | assumption | trivial) ?_
        rotate_left
        · intro w hSw; (try dsimp only at hSw); go_simp; try (with_reducible rfl)
        try simp only [Act.put, List.setIfInBounds_toArray, List.set_cons_zero, List.set_cons_succ]
        refine wpAnyH_take (i := 20) (oi := ⟨some 52, _, _, _, _, _⟩) (v := ?_) rfl (by kernel_rfl) (by kernel_rfl) (by kernel_rfl) (fun _ _ _ h => h) (Or.inl ⟨by rfl, ?_⟩) (by first | assumption | trivial) ?_
        rotate_left
        · intro w hSw; (try dsimp only at hSw); go_simp; try (with_reducible rfl)
        try simp only [Act.put, List.setIfInBounds_toArray, List.set_cons_zero, List.set_cons_succ]
        refine wpAnyH_take (i := 21) (oi := ⟨some 53, _, _, _, _, _⟩) (v := ?_) rfl (by kernel_rfl) (by kernel_rfl) (by kernel_rfl) (fun _ _ _ h => h) (Or.inl ⟨by rfl, ?_⟩) (by first | assumption | trivial) ?_
        rotate_left
        · intro w hSw; (try dsimp only at hSw); go_simp; try (with_reducible rfl)
        try simp only [Act.put, List.setIfInBounds_toArray, List.set_cons_zero, List.set_cons_succ]
        refine wpAnyH_ready (rs := [16]) (by kernel_rfl) (by simp) ?_
        refine AllReadyH.cons (o := ⟨some 48, _, _, _, _, _⟩) rfl (fun K hK => ?_) AllReadyH.nil
        go_simp
        go_at_call 16
        refine (errL_some hS8 HCN.out).mono ?_
        rintro e w9 ⟨f, rfl, hS9⟩
        go_wp2_with fail
        refine hK.out _ _ (S2.six HF.out hS9.s2) (fun hHeld => ?_)
        clear hK K
        try simp only [Act.put, List.setIfInBounds_toArray, List.set_cons_zero, List.set_cons_succ]
        refine wpAnyH_ready (rs := [17]) (by kernel_rfl) (by simp) ?_
        refine AllReadyH.cons (o := ⟨some 49, _, _, _, _, _⟩) rfl (fun K hK => ?_) AllReadyH.nil
        go_simp
        go_at_call 15
        refine (seenF_S2 HG.out hS9 HA1.out HCN.out).mono ?_
        rintro e w10 ⟨rfl, hS10⟩
        go_wp2_with fail
        refine hK.out _ _ (S2.six HF.out hS10) (fun hHeld => ?_)
        clear hK K
        try simp only [Act.put, List.setIfInBounds_toArray, List.set_cons_zero, List.set_cons_succ]
        refine wpAnyH_take (i := 22) (oi := ⟨some 54, _, _, _, _, _⟩) (v := ?_) rfl (by kernel_rfl) (by kernel_rfl) (by kernel_rfl) (fun _ _ _ h => h) (Or.inl ⟨by rfl, ?_⟩) (by first | assumption | trivial) ?_
        rotate_left
        · intro w hSw; (try dsimp only at hSw); go_simp; try (with_reducible rfl)
        try simp only [Act.put, List.setIfInBounds_toArray, List.set_cons_zero, List.set_cons_succ]
        refine wpAnyH_take (i := 23) (oi := ⟨some 55, _, _, _, _, _⟩) (v := ?_) rfl (by kernel_rfl) (by kernel_rfl) (by kernel_rfl) (fun _ _ _ h => h) (Or.inl ⟨by rfl, ?_⟩) (by first | assumption | trivial) ?_
        rotate_left
        · intro w hSw; (try dsimp only at hSw); go_simp; try (with_reducible rfl)
        try simp only [Act.put, List.setIfInBounds_toArray, List.set_cons_zero, List.set_cons_succ]
        refine wpAnyH_done (by kernel_rfl) ?_ _
        go_wp2
        go_roundw
        case rel => exact ⟨k + 1, A, C, by go_num, by omega, HA0.out, hS10⟩
        case measure => simp [intOf]; omega
    · go_wp2
      go_ret
      exact ⟨rfl, HS.out.bel⟩

theorem vecBytes_walk (v : Nat → Int) (s : ByteArray) (w : World) (hg : Handle w) (ht : Tab w) (wv : ∀ i, i < 8 → (Lit.int .u32 (v i)).wf = true) (hm : s.size ≤ maxLen) :
    Calls Tryd.prog 3 #[.agg #[.int .u32 (v 0), .int .u32 (v 1), .int .u32 (v 2), .int .u32 (v 3), .int .u32 (v 4), .int .u32 (v 5), .int .u32 (v 6), .int .u32 (v 7)], .string s] w fun e w' => e = .returned (.bool true) ∧ Below w.heap.size w w' := by
  unfold maxLen at hm
  by_cases hl : 1000 < s.size
  · exact vecBytes_long v s w hl (by omega)
  · exact vecBytes_short v s w hg ht (vec_bnds wv) (by omega)
end Go.Proofs.YtfmdmifpgmkohaaDoor
