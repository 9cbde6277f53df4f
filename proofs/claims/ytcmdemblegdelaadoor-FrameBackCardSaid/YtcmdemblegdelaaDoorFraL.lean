/-
  All the frames of a text: plain mathematics of both Alls' loops; rows of frames that are a call's own.
  Conditions: none.
-/
import Derived.Test.YtcmdemblegdelaaDoorFraK
namespace Go.Proofs.YtcmdemblegdelaaDoor
open Go.RowKit

/-- What is left of a text behind a bytes. -/
def rest (s : ByteArray) (a : Nat) : ByteArray := s.extract a s.size
/-- The frames from place a on, in at most n rounds, and the place behind them. -/
def allR (s : ByteArray) : Nat → Nat → List (Nat × ByteArray) × Nat
  | 0, a => ([], a)
  | n + 1, a => if a < s.size ∧ xC (rest s a) = 0 then ((xK (rest s a), xL (rest s a)) :: (allR s n (a + xN (rest s a))).1, (allR s n (a + xN (rest s a))).2) else ([], a)
def FL (s : ByteArray) : List (Nat × ByteArray) := (allR s s.size 0).1
def FE (s : ByteArray) : Nat := (allR s s.size 0).2
/-- What All tells: the number of what is wrong, and where. -/
def eC (s : ByteArray) : Int := if FE s < s.size then xC (rest s (FE s)) else 0
def eA (s : ByteArray) : Nat := if FE s < s.size then FE s + xAt (rest s (FE s)) else 0

theorem rest_size {s : ByteArray} {a : Nat} (h : a ≤ s.size) : (rest s a).size = s.size - a := by
  unfold rest; rw [ByteArray.size_extract]; omega
theorem rest_le {s : ByteArray} {a : Nat} : (rest s a).size ≤ s.size := ext_le s a s.size

/-- How a loop of All stands: the frames so far, the place, and how many rounds there may be. -/
structure AllS (s : ByteArray) (L : List (Nat × ByteArray)) (a n : Nat) : Prop where
  le : a ≤ s.size
  fu : s.size ≤ a + n
  fl : L ++ (allR s n a).1 = FL s
  fe : (allR s n a).2 = FE s
  ln : L.length ≤ a
theorem AllS.start (s : ByteArray) : AllS s [] 0 s.size := ⟨Nat.zero_le _, by omega, rfl, rfl, Nat.le_refl _⟩
theorem AllS.step {s : ByteArray} {L : List (Nat × ByteArray)} {a n : Nat} (h : AllS s L a n) (ha : a < s.size) (hx : xC (rest s a) = 0) :
    AllS s (L ++ [(xK (rest s a), xL (rest s a))]) (a + xN (rest s a)) (n - 1) := by
  have h1 := xN_le hx
  have h2 := rest_size h.le
  have h3 := h.fu
  obtain ⟨m, rfl⟩ : ∃ m, n = m + 1 := ⟨n - 1, by omega⟩
  have e : allR s (m + 1) a = ((xK (rest s a), xL (rest s a)) :: (allR s m (a + xN (rest s a))).1, (allR s m (a + xN (rest s a))).2) := by
    rw [allR, if_pos ⟨ha, hx⟩]
  have f1 := h.fl
  have f2 := h.fe
  rw [e] at f1 f2
  have h4 := h.ln
  refine ⟨by omega, by omega, ?_, f2, by simp; omega⟩
  rw [← f1]; simp
theorem AllS.stop {s : ByteArray} {L : List (Nat × ByteArray)} {a n : Nat} (h : AllS s L a n) (hx : ¬ (a < s.size ∧ xC (rest s a) = 0)) : L = FL s ∧ a = FE s := by
  have e : allR s n a = ([], a) := by
    cases n with
    | zero => rfl
    | succ m => rw [allR, if_neg hx]
  have f1 := h.fl
  have f2 := h.fe
  rw [e] at f1 f2
  exact ⟨by simpa using f1, f2⟩
theorem all_end {s : ByteArray} {L : List (Nat × ByteArray)} {a n : Nat} (h : AllS s L a n) (ha : ¬ a < s.size) : L = FL s ∧ a = FE s ∧ eC s = 0 ∧ eA s = 0 := by
  obtain ⟨h1, h2⟩ := h.stop (fun k => ha k.1)
  subst h2
  exact ⟨h1, rfl, by unfold eC; rw [if_neg ha], by unfold eA; rw [if_neg ha]⟩
theorem all_bad {s : ByteArray} {L : List (Nat × ByteArray)} {a n : Nat} (h : AllS s L a n) (ha : a < s.size) (hx : ¬ xC (rest s a) = 0) : L = FL s ∧ a = FE s ∧ eC s = xC (rest s a) ∧ eA s = a + xAt (rest s a) := by
  obtain ⟨h1, h2⟩ := h.stop (fun k => hx k.2)
  subst h2
  exact ⟨h1, rfl, by unfold eC; rw [if_pos ha], by unfold eA; rw [if_pos ha]⟩

/-- The cells of some frames. -/
def fcells (L : List (Nat × ByteArray)) : List Value := L.flatMap fun p => [Value.int .i64 (p.1 : Int), Value.string p.2]
theorem fcells_snoc (L : List (Nat × ByteArray)) (k : Nat) (l : ByteArray) : fcells (L ++ [(k, l)]) = fcells L ++ [Value.int .i64 (k : Int), Value.string l] := by simp [fcells]
theorem fcells_len (L : List (Nat × ByteArray)) : (fcells L).length = L.length * 2 := by
  induction L with
  | nil => rfl
  | cons p r ih => simp [fcells] at ih ⊢; omega
theorem fcells_get {L : List (Nat × ByteArray)} {i : Nat} (h : i < L.length) : (fcells L)[i * 2]? = some (.int .i64 ((L[i].1 : Nat) : Int)) ∧ (fcells L)[i * 2 + 1]? = some (.string L[i].2) := by
  induction L generalizing i with
  | nil => simp at h
  | cons p r ih =>
    have e : fcells (p :: r) = Value.int .i64 (p.1 : Int) :: Value.string p.2 :: fcells r := by simp [fcells]
    cases i with
    | zero => rw [e]; exact ⟨rfl, rfl⟩
    | succ j =>
      have hj : j < r.length := by simpa using h
      have := ih hj
      rw [e, show (j + 1) * 2 = (j * 2) + 1 + 1 by omega, show j * 2 + 1 + 1 + 1 = (j * 2 + 1) + 1 + 1 by omega]
      simpa using this

theorem own_below {w w' : World} {B e size n : Nat} {v : Value} {xs : List Value} (h : w.ownsRow B e size v n xs) (hb : Below w.heap.size w w') : w'.ownsRow B e size v n xs := by
  refine ⟨h.1, ?_⟩
  rcases h.2 with h2 | ⟨g, cap, cur, h1, h2, h3, h4⟩
  · exact .inl h2
  · exact .inr ⟨g, cap, cur, h1, h2, (hb.block g (Blk.lt h3)).trans h3, h4⟩
theorem own_base {w : World} {B e size n : Nat} {v : Value} {xs : List Value} (h : w.ownsRow B e size v n xs) (k : Nat) (hk : v.ownBlock = some k) : B ≤ k := by
  rcases h.2 with ⟨rfl, _⟩ | ⟨g, cap, cur, rfl, h2, _⟩
  · cases hk
  · cases hk; exact h2
theorem own_lt {w : World} {B e size n : Nat} {v : Value} {xs : List Value} (h : w.ownsRow B e size v n xs) (k : Nat) (hk : v.ownBlock = some k) : k < w.heap.size := by
  rcases h.2 with ⟨rfl, _⟩ | ⟨g, cap, cur, rfl, _, h3, _⟩
  · cases hk
  · cases hk; exact Blk.lt h3

theorem Tryd.infoFrame : (Tryd.prog.info? 28).map (fun i => (i.zero, i.size, i.bytes)) = some (some (.agg #[.int .i64 0, .string ⟨#[]⟩]), 2, 24) := by kernel_rfl
theorem Tryd.infoFrameR : (Tryd.prog.info? 23).map (fun i => (i.zero, i.size, i.bytes)) = some (some (.agg #[.int .i64 0, .string ⟨#[]⟩]), 2, 24) := by kernel_rfl

theorem two_at (w : World) (u v : Value) (T : TypeId) (b : Nat) (hb : b = w.heap.size) : ∀ (j : Nat) (x : Value), [u, v][j]? = some x → (w.alloc (.cells #[u, v] T)).cell? ((⟨b, 0, none⟩ : Addr).add j) = some x := by
  intro j x h
  subst hb
  match j, h with
  | 0, h => simpa [Addr.add] using h
  | 1, h => simpa [Addr.add] using h
end Go.Proofs.YtcmdemblegdelaaDoor
