/-
  The walk of the law IdentBytes.
  Conditions: package errors' own variable holds the handle of the type error.
-/
import Derived.Test.YtlahhlcapkhpdaaDoorIdG
import Derived.Test.YtlahhlcapkhpdaaDoorIdJ
import Derived.Test.YtlahhlcapkhpdaaDoorOctG
import Derived.OpenShut
namespace Go.Proofs.YtlahhlcapkhpdaaDoor
open Go.RowKit

section
variable {W : World} {r q : Nat} {s : ByteArray} {a : Nat} {c : Int} {b : Nat} {d : Int} {w : World}
theorem readL_S2 (h : S2 W r q s a c b d w) (ha : a ≤ s.size) (hs : s.size ≤ 1048576) :
    Calls Tryd.prog 9 #[.pointer (some ⟨r, 0, none⟩)] w fun e w' => e = .returned (.agg #[.int .i64 (jO s a c : Int), .int .u32 (jQ s a c : Int)]) ∧ S2 W r q s (jA s a c) (jC s a c) b d w' ∧ Only r w w' :=
  (read_any r a s c w h.rd ha hs).mono fun _ _ ⟨h1, h2, h3⟩ => ⟨h1, h.left h2 h3, h3⟩
theorem readR_S2 (h : S2 W r q s a c b d w) (hb : b ≤ s.size) (hs : s.size ≤ 1048576) :
    Calls Tryd.prog 10 #[.pointer (some ⟨q, 0, none⟩)] w fun e w' => e = .returned (.agg #[.int .i64 (jO s b d : Int), .int .u32 (jQ s b d : Int)]) ∧ S2 W r q s a c (jA s b d) (jC s b d) w' ∧ Only q w w' :=
  (rread_any q b s d w h.rr hb hs).mono fun _ _ ⟨h1, h2, h3⟩ => ⟨h1, h.right h2 h3, h3⟩
theorem tagL_S2 (h : S2 W r q s a c b d w) (ha : a ≤ s.size) (hs : s.size ≤ 1048576) :
    Calls Tryd.prog 11 #[.pointer (some ⟨r, 0, none⟩)] w fun e w' => e = .returned (.agg #[.int .i64 (gO s a c : Int), .int .u32 (gQ s a c : Int), .int .i64 (gM s a c : Int)]) ∧ S2 W r q s (gA s a c) (gC s a c) b d w' ∧ Only r w w' :=
  (readTag_any r a s c w h.rd ha hs).mono fun _ _ ⟨h1, h2, h3⟩ => ⟨h1, h.left h2 h3, h3⟩
theorem tagR_S2 (h : S2 W r q s a c b d w) (hb : b ≤ s.size) (hs : s.size ≤ 1048576) :
    Calls Tryd.prog 12 #[.pointer (some ⟨q, 0, none⟩)] w fun e w' => e = .returned (.agg #[.int .i64 (gO s b d : Int), .int .u32 (gQ s b d : Int), .int .i64 (gM s b d : Int)]) ∧ S2 W r q s a c (gA s b d) (gC s b d) w' ∧ Only q w w' :=
  (rreadTag_any q b s d w h.rr hb hs).mono fun _ _ ⟨h1, h2, h3⟩ => ⟨h1, h.right h2 h3, h3⟩
end

theorem S2.start {W w : World} (s : ByteArray) (h : Below W.heap.size W w) : S2 W w.heap.size (w.heap.size + 1) s 0 0 0 0 ((w.alloc (.cells #[.string s, .int .i64 0, .int .i64 0] 52)).alloc (.cells #[.string s, .int .i64 0, .int .i64 0, .int .i64 0] 36)) :=
  ⟨(Blk.new w #[.string s, .int .i64 0, .int .i64 0] 52).alloc _, by
    have := Blk.new (w.alloc (.cells #[.string s, .int .i64 0, .int .i64 0] 52)) #[.string s, .int .i64 0, .int .i64 0, .int .i64 0] 36
    simpa [RR, fA] using this, below_new (below_new h _) _, h.size, by have := h.size; omega, by omega⟩

/-- The two readers stand alike; two names and two operations' names lie in blocks of the call's own, alike two by two. -/
structure BB (W : World) (r q b : Nat) (s : ByteArray) (a : Nat) (c : Int) (x0 x1 y0 y1 y2 : Int) (b9 : Nat) (w : World) : Prop where
  s2 : S2 W r q s a c a c w
  k7 : Blk w b #[.int .i64 x0, .int .u32 x1] 24
  k8 : Blk w (b + 1) #[.int .i64 x0, .int .u32 x1] 24
  k9 : Blk w b9 #[.int .i64 y0, .int .u32 y1, .int .i64 y2] 26
  k10 : Blk w (b9 + 1) #[.int .i64 y0, .int .u32 y1, .int .i64 y2] 26
section
variable {W : World} {r q b : Nat} {s : ByteArray} {a : Nat} {c : Int} {x0 x1 y0 y1 y2 : Int} {b9 : Nat} {w : World}
theorem BB.drew (h : BB W r q b s a c x0 x1 y0 y1 y2 b9 w) : BB W r q b s a c x0 x1 y0 y1 y2 b9 w.drew := ⟨h.s2.drew, h.k7, h.k8, h.k9, h.k10⟩
theorem BB.below {w' : World} (h : BB W r q b s a c x0 x1 y0 y1 y2 b9 w) (k : Below w.heap.size w w') : BB W r q b s a c x0 x1 y0 y1 y2 b9 w' :=
  ⟨h.s2.below k, Blk.below h.k7 k, Blk.below h.k8 k, Blk.below h.k9 k, Blk.below h.k10 k⟩
theorem BB.all {v : Int} (hv : (fA a c : Int) = v) (h : BB W r q b s a c x0 x1 y0 y1 y2 b9 w) :
    w.cell? ⟨q, 1, none⟩ = some (.int .i64 (a : Int)) ∧ w.cell? ⟨q, 2, none⟩ = some (.int .i64 v) ∧ w.cell? ⟨q, 3, none⟩ = some (.int .i64 c) ∧
    w.cell? ⟨b, 0, none⟩ = some (.int .i64 x0) ∧ w.cell? ⟨b, 1, none⟩ = some (.int .u32 x1) ∧ w.cell? ⟨b + 1, 0, none⟩ = some (.int .i64 x0) ∧ w.cell? ⟨b + 1, 1, none⟩ = some (.int .u32 x1) ∧
    w.cell? ⟨b9, 0, none⟩ = some (.int .i64 y0) ∧ w.cell? ⟨b9, 1, none⟩ = some (.int .u32 y1) ∧ w.cell? ⟨b9, 2, none⟩ = some (.int .i64 y2) ∧
    w.cell? ⟨b9 + 1, 0, none⟩ = some (.int .i64 y0) ∧ w.cell? ⟨b9 + 1, 1, none⟩ = some (.int .u32 y1) ∧ w.cell? ⟨b9 + 1, 2, none⟩ = some (.int .i64 y2) ∧ BB W r q b s a c x0 x1 y0 y1 y2 b9 w :=
  ⟨h.s2.rr.c1, hv ▸ h.s2.rr.c2, h.s2.rr.c3, by rw [Blk.cell h.k7]; rfl, by rw [Blk.cell h.k7]; rfl, by rw [Blk.cell h.k8]; rfl, by rw [Blk.cell h.k8]; rfl, by rw [Blk.cell h.k9]; rfl, by rw [Blk.cell h.k9]; rfl, by rw [Blk.cell h.k9]; rfl, by rw [Blk.cell h.k10]; rfl, by rw [Blk.cell h.k10]; rfl, by rw [Blk.cell h.k10]; rfl, h⟩
theorem BB.held {A1 A2 A3 A4 A5 A6 A7 A8 A9 A10 A11 A12 A13 : Prop} (h : A1 ∧ A2 ∧ A3 ∧ A4 ∧ A5 ∧ A6 ∧ A7 ∧ A8 ∧ A9 ∧ A10 ∧ A11 ∧ A12 ∧ A13 ∧ BB W r q b s a c x0 x1 y0 y1 y2 b9 w) : BB W r q b s a c x0 x1 y0 y1 y2 b9 w := h.2.2.2.2.2.2.2.2.2.2.2.2.2
/-- .. and a fault that was just made lies in block f. -/
structure BBF (W : World) (r q b : Nat) (s : ByteArray) (a : Nat) (c : Int) (x0 x1 y0 y1 y2 : Int) (b9 : Nat) (f : Nat) (w : World) : Prop where
  bb : BB W r q b s a c x0 x1 y0 y1 y2 b9 w
  fl : Blk w f (flt a c) 60

theorem at_BB (h : BB W r q b s a c x0 x1 y0 y1 y2 b9 w) :
    Calls Tryd.prog 13 #[.pointer (some ⟨r, 0, none⟩)] w fun e w' => e = .returned (.int .i64 (a : Int)) ∧ BB W r q b s a c x0 x1 y0 y1 y2 b9 w' :=
  (at_any r a s c w h.s2.rd).mono fun _ _ ⟨h1, h2⟩ => ⟨h1, h2 ▸ h⟩
theorem errN_BB (h : BB W r q b s a 0 x0 x1 y0 y1 y2 b9 w) :
    Calls Tryd.prog 15 #[.pointer (some ⟨r, 0, none⟩)] w fun e w' => e = .returned .nilIface ∧ BB W r q b s a 0 x0 x1 y0 y1 y2 b9 w' :=
  (err_none r a s w h.s2.rd).mono fun _ _ ⟨h1, h2⟩ => ⟨h1, h2 ▸ h⟩
theorem errS_BB (h : BB W r q b s a c x0 x1 y0 y1 y2 b9 w) (hc : ¬ c = 0) :
    Calls Tryd.prog 15 #[.pointer (some ⟨r, 0, none⟩)] w fun e w' => ∃ f, e = .returned (.iface 56 (.pointer (some ⟨f, 0, none⟩))) ∧ BBF W r q b s a c x0 x1 y0 y1 y2 b9 f w' :=
  (err_some r a s c w h.s2.rd hc).mono fun _ _ ⟨h1, h2, h3⟩ => ⟨_, h1, h.below h3, h2⟩
theorem seenN_BB (h : BB W r q b s a c x0 x1 y0 y1 y2 b9 w) :
    Calls Tryd.prog 14 #[.nilIface] w fun e w' => e = .returned (.agg #[.int .i64 0, .int .i64 0]) ∧ BB W r q b s a c x0 x1 y0 y1 y2 b9 w' :=
  (seen_nil w).mono fun _ _ ⟨h1, h2⟩ => ⟨h1, h.below h2⟩
theorem seenF_BB {f : Nat} (hg : Handle W) (h : BBF W r q b s a c x0 x1 y0 y1 y2 b9 f w) (ha : a ≤ 1048576) (hc : ¬ c = 0) :
    Calls Tryd.prog 14 #[.iface 56 (.pointer (some ⟨f, 0, none⟩))] w fun e w' => e = .returned (.agg #[.int .i64 (a : Int), .int .i64 c]) ∧ BB W r q b s a c x0 x1 y0 y1 y2 b9 w' :=
  (seen_some f a c w (hg.below h.bb.s2.bel hg.lt) h.fl ha hc).mono fun _ _ ⟨h1, h2⟩ => ⟨h1, h.bb.below h2⟩
end

section
variable {w0 w : World} {cs : Array Value} {T : TypeId}
theorem writeTag_H1 (o q n : Int) (h : H1 w0 cs T w) :
    Calls Tryd.prog 6 #[.agg #[.int .i64 o, .int .u32 q, .int .i64 n]] w fun e w' => e = .returned (.string (tagS o q n)) ∧ H1 w0 cs T w' :=
  (writeTag_any o q n w).mono fun _ _ ⟨h1, h2⟩ => ⟨h1, h.next h2⟩
theorem rwriteTag_H1 (o q n : Int) (h : H1 w0 cs T w) :
    Calls Tryd.prog 7 #[.agg #[.int .i64 o, .int .u32 q, .int .i64 n]] w fun e w' => e = .returned (.string (tagS o q n)) ∧ H1 w0 cs T w' :=
  (rwriteTag_any o q n w).mono fun _ _ ⟨h1, h2⟩ => ⟨h1, h.next h2⟩
end

set_option maxRecDepth 100000 in
set_option maxHeartbeats 400000 in
theorem identBytes_long (o q n : Int) (s : ByteArray) (w : World) (hl : 1000 < s.size) (hs : s.size ≤ 9223372036854775807) :
    Calls Tryd.prog 3 #[.agg #[.int .i64 o, .int .u32 q, .int .i64 n], .string s] w fun e w' => e = .returned (.bool true) ∧ Below w.heap.size w w' := by
  have hI := H1.start w #[.int .i64 o, .int .u32 q, .int .i64 n] 26
  have d1 : decide ((s.size : Int) > 1000) = true := decide_eq_true (by omega)
  go_enter Tryd.func3, Tryd.ntmps3
  go_wp2_with fail
  go_quiet (fail)
  go_wp2
  go_ret
  exact ⟨rfl, below_drewN hI.bel _⟩

set_option maxRecDepth 100000 in
set_option maxHeartbeats 1000000 in
theorem identBytes_short (o q n : Int) (s : ByteArray) (w : World) (hg : Handle w) (hl : s.size ≤ 1000) :
    Calls Tryd.prog 3 #[.agg #[.int .i64 o, .int .u32 q, .int .i64 n], .string s] w fun e w' => e = .returned (.bool true) ∧ Below w.heap.size w w' := by
  have hI := H1.start w #[.int .i64 o, .int .u32 q, .int .i64 n] 26
  have d1 : decide ((s.size : Int) > 1000) = false := decide_eq_false (by omega)
  go_enter Tryd.func3, Tryd.ntmps3
  go_wp2_with fail
  go_region_held3 (fun w' => w'.cell? ⟨w.heap.size, 0, none⟩ = some (.int .i64 o) ∧ w'.cell? ⟨w.heap.size, 1, none⟩ = some (.int .u32 q) ∧ w'.cell? ⟨w.heap.size, 2, none⟩ = some (.int .i64 n) ∧ H1 w #[.int .i64 o, .int .u32 q, .int .i64 n] 26 w') (first | exact H1.tags (by assumption) | exact H1.tags (H1.drew (by assumption))) (first | (go_at_call 4; refine (write_H1 (w0 := w) (cs := #[.int .i64 o, .int .u32 q, .int .i64 n]) (T := 26) _ _ (by first | assumption | exact H1.heldT (by assumption))).mono ?_; rintro e w1 ⟨rfl, hJ1⟩) | (go_at_call 5; refine (rwrite_H1 (w0 := w) (cs := #[.int .i64 o, .int .u32 q, .int .i64 n]) (T := 26) _ _ (by first | assumption | exact H1.heldT (by assumption))).mono ?_; rintro e w2 ⟨rfl, hJ2⟩) | (go_at_call 6; refine (writeTag_H1 (w0 := w) (cs := #[.int .i64 o, .int .u32 q, .int .i64 n]) (T := 26) _ _ _ (by first | assumption | exact H1.heldT (by assumption))).mono ?_; rintro e w3 ⟨rfl, hJ3⟩) | (go_at_call 7; refine (rwriteTag_H1 (w0 := w) (cs := #[.int .i64 o, .int .u32 q, .int .i64 n]) (T := 26) _ _ _ (by first | assumption | exact H1.heldT (by assumption))).mono ?_; rintro e w4 ⟨rfl, hJ4⟩))
  have hb4 := H1.bel hJ4
  have HG := Lib.hid hg
  clear hI hJ1 hJ2 hJ3 hJ4 d1 hg
  go_wp2_with fail
  refine (new_any _ _).mono ?_
  rintro e w5 ⟨rfl, rfl⟩
  have hS := S2.start s hb4
  go_wp2_with fail
  refine (readL_S2 hS (by omega) (by omega)).mono ?_
  rintro e w6 ⟨rfl, hS6, _⟩
  have HS6 := Lib.hid hS6; clear hS6 hS
  go_wp2_with fail
  refine (readR_S2 HS6.out (by omega) (by omega)).mono ?_
  rintro e w7 ⟨rfl, hS7, _⟩
  have l7 := Blk.lt hS7.rd
  have m7 := Blk.lt hS7.rr
  have hS8 := (hS7.alloc (.cells #[.int .i64 (jO s 0 0 : Int), .int .u32 (jQ s 0 0 : Int)] 24)).alloc (.cells #[.int .i64 (jO s 0 0 : Int), .int .u32 (jQ s 0 0 : Int)] 24)
  have k7 := (Blk.new w7 #[.int .i64 (jO s 0 0 : Int), .int .u32 (jQ s 0 0 : Int)] 24).alloc (.cells #[.int .i64 (jO s 0 0 : Int), .int .u32 (jQ s 0 0 : Int)] 24)
  have k8 : Blk ((w7.alloc (.cells #[.int .i64 (jO s 0 0 : Int), .int .u32 (jQ s 0 0 : Int)] 24)).alloc (.cells #[.int .i64 (jO s 0 0 : Int), .int .u32 (jQ s 0 0 : Int)] 24)) (w7.heap.size + 1) #[.int .i64 (jO s 0 0 : Int), .int .u32 (jQ s 0 0 : Int)] 24 := by
    have := Blk.new (w7.alloc (.cells #[.int .i64 (jO s 0 0 : Int), .int .u32 (jQ s 0 0 : Int)] 24)) #[.int .i64 (jO s 0 0 : Int), .int .u32 (jQ s 0 0 : Int)] 24
    simpa using this
  have HS8 := Lib.hid hS8; have K7 := Lib.hid k7; have K8 := Lib.hid k8
  have ja := jA_le (s := s) (a := 0) (c := 0) (by omega)
  clear hS7 hS8 k7 k8 HS6
  go_wp2_with fail
  refine (tagL_S2 HS8.out ja (by omega)).mono ?_
  rintro e w9 ⟨rfl, hS9, ho9⟩
  have k7 := Blk.only K7.out ho9 (by omega)
  have k8 := Blk.only K8.out ho9 (by omega)
  have HS9 := Lib.hid hS9; clear hS9 ho9 HS8 K7 K8
  have K7 := Lib.hid k7; have K8 := Lib.hid k8; clear k7 k8
  go_wp2_with fail
  refine (tagR_S2 HS9.out ja (by omega)).mono ?_
  rintro e w10 ⟨rfl, hS10, ho10⟩
  have k7 := Blk.only K7.out ho10 (by omega)
  have k8 := Blk.only K8.out ho10 (by omega)
  have hB : BB w w4.heap.size (w4.heap.size + 1) w7.heap.size s (gA s (jA s 0 0) (jC s 0 0)) (gC s (jA s 0 0) (jC s 0 0)) (jO s 0 0) (jQ s 0 0) (gO s (jA s 0 0) (jC s 0 0)) (gQ s (jA s 0 0) (jC s 0 0)) (gM s (jA s 0 0) (jC s 0 0)) w10.heap.size ((w10.alloc (.cells #[.int .i64 (gO s (jA s 0 0) (jC s 0 0) : Int), .int .u32 (gQ s (jA s 0 0) (jC s 0 0) : Int), .int .i64 (gM s (jA s 0 0) (jC s 0 0) : Int)] 26)).alloc (.cells #[.int .i64 (gO s (jA s 0 0) (jC s 0 0) : Int), .int .u32 (gQ s (jA s 0 0) (jC s 0 0) : Int), .int .i64 (gM s (jA s 0 0) (jC s 0 0) : Int)] 26)) := by
    refine ⟨(hS10.alloc _).alloc _, (k7.alloc _).alloc _, (k8.alloc _).alloc _, (Blk.new w10 _ _).alloc _, ?_⟩
    have := Blk.new (w10.alloc (.cells #[.int .i64 (gO s (jA s 0 0) (jC s 0 0) : Int), .int .u32 (gQ s (jA s 0 0) (jC s 0 0) : Int), .int .i64 (gM s (jA s 0 0) (jC s 0 0) : Int)] 26)) #[.int .i64 (gO s (jA s 0 0) (jC s 0 0) : Int), .int .u32 (gQ s (jA s 0 0) (jC s 0 0) : Int), .int .i64 (gM s (jA s 0 0) (jC s 0 0) : Int)] 26
    simpa using this
  have HL : Hid (gA s (jA s 0 0) (jC s 0 0) ≤ 1048576) := Lib.hid (by have := gA_le (c := jC s 0 0) ja; omega)
  clear hS10 ho10 k7 k8 HS9 K7 K8
  by_cases hc : gC s (jA s 0 0) (jC s 0 0) = 0
  · rw [hc] at hB
    have HV : Hid ((fA (gA s (jA s 0 0) (jC s 0 0)) 0 : Int) = 0) := Lib.hid rfl
    clear hc
    go_wp2_with fail
    go_region_held3 (fun w' => w'.cell? ⟨w4.heap.size + 1, 1, none⟩ = some (.int .i64 (gA s (jA s 0 0) (jC s 0 0) : Int)) ∧ w'.cell? ⟨w4.heap.size + 1, 2, none⟩ = some (.int .i64 0) ∧ w'.cell? ⟨w4.heap.size + 1, 3, none⟩ = some (.int .i64 0) ∧ w'.cell? ⟨w7.heap.size, 0, none⟩ = some (.int .i64 (jO s 0 0 : Int)) ∧ w'.cell? ⟨w7.heap.size, 1, none⟩ = some (.int .u32 (jQ s 0 0 : Int)) ∧ w'.cell? ⟨w7.heap.size + 1, 0, none⟩ = some (.int .i64 (jO s 0 0 : Int)) ∧ w'.cell? ⟨w7.heap.size + 1, 1, none⟩ = some (.int .u32 (jQ s 0 0 : Int)) ∧ w'.cell? ⟨w10.heap.size, 0, none⟩ = some (.int .i64 (gO s (jA s 0 0) (jC s 0 0) : Int)) ∧ w'.cell? ⟨w10.heap.size, 1, none⟩ = some (.int .u32 (gQ s (jA s 0 0) (jC s 0 0) : Int)) ∧ w'.cell? ⟨w10.heap.size, 2, none⟩ = some (.int .i64 (gM s (jA s 0 0) (jC s 0 0) : Int)) ∧ w'.cell? ⟨w10.heap.size + 1, 0, none⟩ = some (.int .i64 (gO s (jA s 0 0) (jC s 0 0) : Int)) ∧ w'.cell? ⟨w10.heap.size + 1, 1, none⟩ = some (.int .u32 (gQ s (jA s 0 0) (jC s 0 0) : Int)) ∧ w'.cell? ⟨w10.heap.size + 1, 2, none⟩ = some (.int .i64 (gM s (jA s 0 0) (jC s 0 0) : Int)) ∧ BB w w4.heap.size (w4.heap.size + 1) w7.heap.size s (gA s (jA s 0 0) (jC s 0 0)) 0 (jO s 0 0) (jQ s 0 0) (gO s (jA s 0 0) (jC s 0 0)) (gQ s (jA s 0 0) (jC s 0 0)) (gM s (jA s 0 0) (jC s 0 0)) w10.heap.size w') (first | exact BB.all HV.out (by assumption) | exact BB.all HV.out (BB.drew (by assumption))) (first | (go_at_call 13; refine (at_BB (W := w) (r := w4.heap.size) (q := w4.heap.size + 1) (b := w7.heap.size) (s := s) (a := gA s (jA s 0 0) (jC s 0 0)) (x0 := jO s 0 0) (x1 := jQ s 0 0) (y0 := gO s (jA s 0 0) (jC s 0 0)) (y1 := gQ s (jA s 0 0) (jC s 0 0)) (y2 := gM s (jA s 0 0) (jC s 0 0)) (b9 := w10.heap.size) (c := 0) (by first | assumption | exact BB.held (by assumption))).mono ?_; rintro e wa ⟨rfl, hA1⟩) | (go_at_call 15; refine (errN_BB (W := w) (r := w4.heap.size) (q := w4.heap.size + 1) (b := w7.heap.size) (s := s) (a := gA s (jA s 0 0) (jC s 0 0)) (x0 := jO s 0 0) (x1 := jQ s 0 0) (y0 := gO s (jA s 0 0) (jC s 0 0)) (y1 := gQ s (jA s 0 0) (jC s 0 0)) (y2 := gM s (jA s 0 0) (jC s 0 0)) (b9 := w10.heap.size) (by first | assumption | exact BB.held (by assumption))).mono ?_; rintro e wb ⟨rfl, hA2⟩) | (go_at_call 14; refine (seenN_BB (W := w) (r := w4.heap.size) (q := w4.heap.size + 1) (b := w7.heap.size) (s := s) (a := gA s (jA s 0 0) (jC s 0 0)) (x0 := jO s 0 0) (x1 := jQ s 0 0) (y0 := gO s (jA s 0 0) (jC s 0 0)) (y1 := gQ s (jA s 0 0) (jC s 0 0)) (y2 := gM s (jA s 0 0) (jC s 0 0)) (b9 := w10.heap.size) (c := 0) (by first | assumption | exact BB.held (by assumption))).mono ?_; rintro e wc ⟨rfl, hA3⟩))
    all_goals
      go_wp2
      go_ret
      exact ⟨rfl, (BB.s2 hA3).bel⟩
  · have HV : Hid ((fA (gA s (jA s 0 0) (jC s 0 0)) (gC s (jA s 0 0) (jC s 0 0)) : Int) = gA s (jA s 0 0) (jC s 0 0)) := Lib.hid (by unfold fA; rw [if_neg hc])
    have HC := Lib.hid hc
    clear hc
    go_wp2_with fail
    go_region_held3 (fun w' => w'.cell? ⟨w4.heap.size + 1, 1, none⟩ = some (.int .i64 (gA s (jA s 0 0) (jC s 0 0) : Int)) ∧ w'.cell? ⟨w4.heap.size + 1, 2, none⟩ = some (.int .i64 (gA s (jA s 0 0) (jC s 0 0) : Int)) ∧ w'.cell? ⟨w4.heap.size + 1, 3, none⟩ = some (.int .i64 (gC s (jA s 0 0) (jC s 0 0))) ∧ w'.cell? ⟨w7.heap.size, 0, none⟩ = some (.int .i64 (jO s 0 0 : Int)) ∧ w'.cell? ⟨w7.heap.size, 1, none⟩ = some (.int .u32 (jQ s 0 0 : Int)) ∧ w'.cell? ⟨w7.heap.size + 1, 0, none⟩ = some (.int .i64 (jO s 0 0 : Int)) ∧ w'.cell? ⟨w7.heap.size + 1, 1, none⟩ = some (.int .u32 (jQ s 0 0 : Int)) ∧ w'.cell? ⟨w10.heap.size, 0, none⟩ = some (.int .i64 (gO s (jA s 0 0) (jC s 0 0) : Int)) ∧ w'.cell? ⟨w10.heap.size, 1, none⟩ = some (.int .u32 (gQ s (jA s 0 0) (jC s 0 0) : Int)) ∧ w'.cell? ⟨w10.heap.size, 2, none⟩ = some (.int .i64 (gM s (jA s 0 0) (jC s 0 0) : Int)) ∧ w'.cell? ⟨w10.heap.size + 1, 0, none⟩ = some (.int .i64 (gO s (jA s 0 0) (jC s 0 0) : Int)) ∧ w'.cell? ⟨w10.heap.size + 1, 1, none⟩ = some (.int .u32 (gQ s (jA s 0 0) (jC s 0 0) : Int)) ∧ w'.cell? ⟨w10.heap.size + 1, 2, none⟩ = some (.int .i64 (gM s (jA s 0 0) (jC s 0 0) : Int)) ∧ BB w w4.heap.size (w4.heap.size + 1) w7.heap.size s (gA s (jA s 0 0) (jC s 0 0)) (gC s (jA s 0 0) (jC s 0 0)) (jO s 0 0) (jQ s 0 0) (gO s (jA s 0 0) (jC s 0 0)) (gQ s (jA s 0 0) (jC s 0 0)) (gM s (jA s 0 0) (jC s 0 0)) w10.heap.size w') (first | exact BB.all HV.out (by assumption) | exact BB.all HV.out (BB.drew (by assumption)) | exact BB.all HV.out (BBF.bb (by assumption))) (first | (go_at_call 13; refine (at_BB (W := w) (r := w4.heap.size) (q := w4.heap.size + 1) (b := w7.heap.size) (s := s) (a := gA s (jA s 0 0) (jC s 0 0)) (x0 := jO s 0 0) (x1 := jQ s 0 0) (y0 := gO s (jA s 0 0) (jC s 0 0)) (y1 := gQ s (jA s 0 0) (jC s 0 0)) (y2 := gM s (jA s 0 0) (jC s 0 0)) (b9 := w10.heap.size) (c := gC s (jA s 0 0) (jC s 0 0)) (by first | assumption | exact BB.held (by assumption))).mono ?_; rintro e wa ⟨rfl, hA1⟩) | (go_at_call 15; refine (errS_BB (W := w) (r := w4.heap.size) (q := w4.heap.size + 1) (b := w7.heap.size) (s := s) (a := gA s (jA s 0 0) (jC s 0 0)) (x0 := jO s 0 0) (x1 := jQ s 0 0) (y0 := gO s (jA s 0 0) (jC s 0 0)) (y1 := gQ s (jA s 0 0) (jC s 0 0)) (y2 := gM s (jA s 0 0) (jC s 0 0)) (b9 := w10.heap.size) (c := gC s (jA s 0 0) (jC s 0 0)) (by first | assumption | exact BB.held (by assumption)) HC.out).mono ?_; rintro e wb ⟨f, rfl, hA2⟩) | (go_at_call 14; refine (seenF_BB (W := w) (r := w4.heap.size) (q := w4.heap.size + 1) (b := w7.heap.size) (s := s) (a := gA s (jA s 0 0) (jC s 0 0)) (x0 := jO s 0 0) (x1 := jQ s 0 0) (y0 := gO s (jA s 0 0) (jC s 0 0)) (y1 := gQ s (jA s 0 0) (jC s 0 0)) (y2 := gM s (jA s 0 0) (jC s 0 0)) (b9 := w10.heap.size) (c := gC s (jA s 0 0) (jC s 0 0)) HG.out (by assumption) HL.out HC.out).mono ?_; rintro e wc ⟨rfl, hA3⟩))
    all_goals
      go_wp2
      go_ret
      exact ⟨rfl, (BB.s2 hA3).bel⟩

theorem identBytes_walk (o q n : Int) (s : ByteArray) (w : World) (hg : Handle w) (_ : (Lit.int .i64 o).wf = true) (_ : (Lit.int .u32 q).wf = true) (_ : (Lit.int .i64 n).wf = true) (w1 : s.size ≤ maxLen) :
    Calls Tryd.prog 3 #[.agg #[.int .i64 o, .int .u32 q, .int .i64 n], .string s] w fun e w' => e = .returned (.bool true) ∧ Below w.heap.size w w' := by
  unfold maxLen at w1
  by_cases h : 1000 < s.size
  · exact identBytes_long o q n s w h (by omega)
  · exact identBytes_short o q n s w hg (by omega)
end Go.Proofs.YtlahhlcapkhpdaaDoor
