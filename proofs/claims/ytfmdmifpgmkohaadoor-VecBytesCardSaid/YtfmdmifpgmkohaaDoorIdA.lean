/-
  Names in writing, plain mathematics: what a writing says, how far it may stand, where it fails; the decimal digits of a number.
  Conditions: none.
-/
import Derived.Test.YtfmdmifpgmkohaaDoorOctR
import Derived.Lib.ItoaNum
namespace Go.Proofs.YtfmdmifpgmkohaaDoor
open Go.RowKit

/-- May the byte b stand at place i, where the digits ahead make the number q? -/
def pok (i q b : Nat) : Bool :=
  if i = 0 then decide (48 ≤ b ∧ b ≤ 55) else if i = 1 then decide (b = 46) else decide (48 ≤ b ∧ b ≤ 57 ∧ (2 < i ∨ 48 < b) ∧ q * 10 + (b - 48) ≤ 1048576)

/-- The number that the first k bytes make. -/
def sq (s : ByteArray) : Nat → Nat
  | 0 => 0
  | k + 1 => if k < 2 then 0 else sq s k * 10 + (bt s k - 48)
/-- Whose it is. -/
def so (s : ByteArray) (k : Nat) : Nat := if k = 0 then 0 else bt s 0 - 48
def good (s : ByteArray) (k : Nat) : Bool := pok k (sq s k) (bt s k)
def allg (s : ByteArray) (k : Nat) : Prop := ∀ j, j < k → good s j = true

theorem allg_zero (s : ByteArray) : allg s 0 := fun _ h => by omega
theorem allg_succ {s : ByteArray} {k : Nat} (h : allg s k) (g : good s k = true) : allg s (k + 1) := by
  intro j hj
  by_cases e : j = k
  · subst e; exact g
  · exact h j (by omega)

/-- The first place that fails, n places on from k. -/
def fb (s : ByteArray) : Nat → Nat → Nat
  | 0, k => k
  | n + 1, k => if good s k = true then fb s n (k + 1) else k
def fbad (s : ByteArray) : Nat := fb s s.size 0

theorem fb_eq {s : ByteArray} {k : Nat} : ∀ (n j : Nat), j ≤ k → k < j + n → allg s k → good s k = false → fb s n j = k
  | 0, j, h1, h2, _, _ => by omega
  | n + 1, j, h1, h2, ha, hb => by
    unfold fb
    by_cases e : j = k
    · subst e; rw [if_neg (by rw [hb]; decide)]
    · rw [if_pos (ha j (by omega))]; exact fb_eq n (j + 1) (by omega) (by omega) ha hb
theorem fb_all {s : ByteArray} : ∀ (n j : Nat), allg s (j + n) → fb s n j = j + n
  | 0, _, _ => rfl
  | n + 1, j, ha => by
    unfold fb
    rw [if_pos (ha j (by omega)), fb_all n (j + 1) (by rw [show j + 1 + n = j + (n + 1) by omega]; exact ha)]
    omega
theorem fb_spec {s : ByteArray} : ∀ (n j : Nat), allg s j → allg s (fb s n j) ∧ fb s n j ≤ j + n
  | 0, j, ha => ⟨ha, Nat.le_refl _⟩
  | n + 1, j, ha => by
    unfold fb
    by_cases g : good s j = true
    · rw [if_pos g]
      have := fb_spec n (j + 1) (allg_succ ha g)
      exact ⟨this.1, by omega⟩
    · rw [if_neg g]; exact ⟨ha, by omega⟩

theorem fbad_at {s : ByteArray} {k : Nat} (hk : k < s.size) (ha : allg s k) (hb : good s k = false) : fbad s = k := fb_eq _ _ (Nat.zero_le _) (by omega) ha hb
theorem fbad_all {s : ByteArray} (ha : allg s s.size) : fbad s = s.size := by
  have := fb_all s.size 0 (by simpa using ha)
  rw [fbad, this]; omega
theorem fbad_le (s : ByteArray) : fbad s ≤ s.size := by
  have := (fb_spec s.size 0 (allg_zero s)).2
  rw [fbad]; omega

/-- What is wrong with the writing s; where; whose name it is, and its number. -/
def pC (s : ByteArray) : Int := if fbad s < s.size then 3 else if s.size < 3 then 1 else 0
def pA (s : ByteArray) : Nat := if pC s = 0 then 0 else fbad s
def pO (s : ByteArray) : Nat := if pC s = 0 then so s s.size else 0
def pQ (s : ByteArray) : Nat := if pC s = 0 then sq s s.size else 0

theorem pA_le (s : ByteArray) : pA s ≤ s.size := by
  unfold pA
  split
  · omega
  · exact fbad_le s

/-- The three ways. -/
theorem way_bad {s : ByteArray} {k : Nat} (hk : k < s.size) (ha : allg s k) (hb : good s k = false) : pC s = 3 ∧ pA s = k ∧ pO s = 0 ∧ pQ s = 0 := by
  have e := fbad_at hk ha hb
  have c : pC s = 3 := by unfold pC; rw [e, if_pos hk]
  refine ⟨c, ?_, ?_, ?_⟩
  · unfold pA; rw [if_neg (by rw [c]; decide), e]
  · unfold pO; rw [if_neg (by rw [c]; decide)]
  · unfold pQ; rw [if_neg (by rw [c]; decide)]
theorem way_short {s : ByteArray} (ha : allg s s.size) (hs : s.size < 3) : pC s = 1 ∧ pA s = s.size ∧ pO s = 0 ∧ pQ s = 0 := by
  have e := fbad_all ha
  have c : pC s = 1 := by unfold pC; rw [e, if_neg (by omega), if_pos hs]
  refine ⟨c, ?_, ?_, ?_⟩
  · unfold pA; rw [if_neg (by rw [c]; decide), e]
  · unfold pO; rw [if_neg (by rw [c]; decide)]
  · unfold pQ; rw [if_neg (by rw [c]; decide)]
theorem way_ok {s : ByteArray} (ha : allg s s.size) (hs : ¬ s.size < 3) : pC s = 0 ∧ pA s = 0 ∧ pO s = so s s.size ∧ pQ s = sq s s.size := by
  have e := fbad_all ha
  have c : pC s = 0 := by unfold pC; rw [e, if_neg (by omega), if_neg hs]
  refine ⟨c, ?_, ?_, ?_⟩
  · unfold pA; rw [if_pos c]
  · unfold pO; rw [if_pos c]
  · unfold pQ; rw [if_pos c]
theorem ok_way {s : ByteArray} (c : pC s = 0) : allg s s.size ∧ ¬ s.size < 3 := by
  have h := fb_spec s.size 0 (allg_zero s)
  have hle := fbad_le s
  unfold pC at c
  by_cases h1 : fbad s < s.size
  · rw [if_pos h1] at c; exact absurd c (by decide)
  · by_cases h2 : s.size < 3
    · rw [if_neg h1, if_pos h2] at c; exact absurd c (by decide)
    · have e : fbad s = s.size := by omega
      exact ⟨by rw [← e]; exact h.1, h2⟩

theorem sq_low (s : ByteArray) {k : Nat} (h : k ≤ 2) : sq s k = 0 := by
  rcases k with _ | k
  · rfl
  · show (if k < 2 then 0 else _) = 0
    rw [if_pos (by omega)]
theorem sq_next (s : ByteArray) {k : Nat} (h : ¬ k < 2) : sq s (k + 1) = sq s k * 10 + (bt s k - 48) := by
  show (if k < 2 then 0 else _) = _
  rw [if_neg h]
theorem so_next (s : ByteArray) {k : Nat} (h : 0 < k) : so s (k + 1) = so s k := by unfold so; rw [if_neg (by omega), if_neg (by omega)]

theorem good_hi {s : ByteArray} {k : Nat} (h : ¬ k < 2) (g : good s k = true) : 48 ≤ bt s k ∧ bt s k ≤ 57 ∧ (2 < k ∨ 48 < bt s k) ∧ sq s k * 10 + (bt s k - 48) ≤ 1048576 := by
  unfold good pok at g
  rw [if_neg (by omega), if_neg (by omega)] at g
  exact of_decide_eq_true g
theorem good_zero {s : ByteArray} (g : good s 0 = true) : 48 ≤ bt s 0 ∧ bt s 0 ≤ 55 := by
  unfold good pok at g
  rw [if_pos rfl] at g
  exact of_decide_eq_true g
theorem good_one {s : ByteArray} (g : good s 1 = true) : bt s 1 = 46 := by
  unfold good pok at g
  rw [if_neg (by decide), if_pos rfl] at g
  exact of_decide_eq_true g

theorem sq_le {s : ByteArray} {k : Nat} (ha : allg s k) : sq s k ≤ 1048576 := by
  rcases k with _ | k
  · exact Nat.zero_le _
  · by_cases h : k < 2
    · rw [sq_low s (by omega)]; omega
    · rw [sq_next s h]; exact (good_hi h (ha k (by omega))).2.2.2
theorem sq_pos {s : ByteArray} : ∀ {k : Nat}, allg s k → ¬ k < 3 → 0 < sq s k
  | 0, _, h => by omega
  | k + 1, ha, h => by
    have h2 : ¬ k < 2 := by omega
    have g := good_hi h2 (ha k (by omega))
    rw [sq_next s h2]
    by_cases e : 2 < k
    · have := sq_pos (k := k) (fun j hj => ha j (by omega)) (by omega)
      omega
    · omega
theorem so_le {s : ByteArray} {k : Nat} (ha : allg s k) : so s k ≤ 7 := by
  unfold so
  split
  · omega
  · have := good_zero (ha 0 (by omega)); omega

/-- A number's decimal digits, as a text. -/
def digS (n : Nat) : ByteArray := ⟨(Lib.decDigits n).toArray⟩

/-- The writing of a name. -/
def writ (o q : Nat) : List UInt8 := Lib.decDigits o ++ 46 :: Lib.decDigits q
def writS (o q : Nat) : ByteArray := ⟨(writ o q).toArray⟩

theorem bt_list (s : ByteArray) {l : List UInt8} (h : s.data.toList = l) (i : Nat) : bt s i = (l.getD i 0).toNat := by unfold bt; rw [h]

theorem dec_big {q : Nat} (h : ¬ q < 10) : Lib.decDigits q = Lib.decDigits (q / 10) ++ [UInt8.ofNat (48 + q % 10)] := by rw [Lib.decDigits, dif_neg h]
theorem dec_step {q d : Nat} (hq : 0 < q) (hd : d < 10) : Lib.decDigits (q * 10 + d) = Lib.decDigits q ++ [UInt8.ofNat (48 + d)] := by
  rw [dec_big (by omega), show (q * 10 + d) / 10 = q by omega, show (q * 10 + d) % 10 = d by omega]
theorem digit_byte {b : UInt8} (h1 : 48 ≤ b.toNat) : UInt8.ofNat (48 + (b.toNat - 48)) = b := by
  apply UInt8.toNat_inj.1
  have := UInt8.toNat_lt b
  rw [UInt8.toNat_ofNat']
  omega

/-- The digits that were read are the number's own. -/
theorem read_dec {s : ByteArray} : ∀ {k : Nat}, allg s k → ¬ k < 3 → k ≤ s.size → Lib.decDigits (sq s k) = (s.data.toList.take k).drop 2
  | 0, _, h, _ => by omega
  | k + 1, ha, h, hs => by
    have h2 : ¬ k < 2 := by omega
    have g := good_hi h2 (ha k (by omega))
    have hl : k < s.data.toList.length := by rw [← Lib.size_eq]; omega
    have hb : bt s k = (s.data.toList[k]).toNat := by unfold bt; rw [List.getD_eq_getElem?_getD, List.getElem?_eq_getElem hl]; rfl
    have ht : s.data.toList.take (k + 1) = s.data.toList.take k ++ [s.data.toList[k]] := by rw [List.take_succ_eq_append_getElem hl]
    rw [sq_next s h2, ht]
    by_cases e : 2 < k
    · have hp := sq_pos (s := s) (k := k) (fun j hj => ha j (by omega)) (by omega)
      have ih := read_dec (s := s) (k := k) (fun j hj => ha j (by omega)) (by omega) (by omega)
      rw [dec_step hp (by omega), ih, List.drop_append_of_le_length (by simp; omega), hb, digit_byte (by omega)]
    · have ek : k = 2 := by omega
      subst ek
      rw [sq_low s (Nat.le_refl _), Nat.zero_mul, Nat.zero_add, Lib.decDigits_one (by omega), hb, digit_byte (by omega), List.drop_append_of_le_length (by simp; omega)]
      simp

/-- What a writing says has just that writing. -/
theorem writ_read {s : ByteArray} (c : pC s = 0) : writS (pO s) (pQ s) = s := by
  obtain ⟨ha, h3⟩ := ok_way c
  obtain ⟨_, _, e1, e2⟩ := way_ok ha h3
  have h0 := good_zero (ha 0 (by omega))
  have h1 := good_one (ha 1 (by omega))
  have hd := read_dec ha h3 (Nat.le_refl _)
  have hl := Lib.size_eq s
  rw [hl, List.take_length] at hd
  rw [e1, e2]
  apply ByteArray.ext
  apply Array.toList_inj.1
  show writ _ _ = _
  unfold writ
  rw [hl, hd]
  have ho : so s s.data.toList.length = bt s 0 - 48 := by unfold so; rw [if_neg (by omega)]
  rw [ho, Lib.decDigits_one (by omega)]
  generalize hL : s.data.toList = L at *
  rcases L with _ | ⟨x, _ | ⟨y, L⟩⟩
  · simp only [List.length_nil] at hl; omega
  · simp only [List.length_cons, List.length_nil] at hl; omega
  · have b0 : bt s 0 = x.toNat := by rw [bt_list s hL]; rfl
    have b1 : bt s 1 = y.toNat := by rw [bt_list s hL]; rfl
    have ey : y = 46 := UInt8.toNat_inj.1 (by rw [← b1, h1]; rfl)
    rw [b0, digit_byte (by omega), ey]
    rfl

theorem name_ok {s : ByteArray} (c : pC s = 0) : pO s ≤ 7 ∧ 0 < pQ s ∧ pQ s ≤ 1048576 := by
  obtain ⟨ha, h3⟩ := ok_way c
  obtain ⟨_, _, e1, e2⟩ := way_ok ha h3
  rw [e1, e2]
  exact ⟨so_le ha, sq_pos ha h3, sq_le ha⟩

/-- Reading on a list: the number that digits make. -/
def valD (l : List UInt8) : Nat := l.foldl (fun a b => a * 10 + (b.toNat - 48)) 0
theorem valD_snoc (l : List UInt8) (b : UInt8) : valD (l ++ [b]) = valD l * 10 + (b.toNat - 48) := by simp [valD]

theorem dig_nat {d : Nat} (h : d < 10) : (UInt8.ofNat (48 + d)).toNat = 48 + d := by rw [UInt8.toNat_ofNat']; omega

theorem dec_val (q : Nat) : valD (Lib.decDigits q) = q := by
  induction q using Nat.strongRecOn with
  | _ q ih =>
    by_cases h : q < 10
    · rw [Lib.decDigits_one h]
      show 0 * 10 + ((UInt8.ofNat (48 + q)).toNat - 48) = q
      rw [dig_nat h]; omega
    · rw [dec_big h, valD_snoc, ih (q / 10) (by omega), dig_nat (by omega)]
      omega
theorem dec_ne (q : Nat) : Lib.decDigits q ≠ [] := by
  by_cases h : q < 10
  · rw [Lib.decDigits_one h]; simp
  · rw [dec_big h]; simp
/-- Every digit is one, the first is not 0, what the first ones make is no more than the whole. -/
theorem dec_good (q : Nat) : 0 < q → ∀ (P : List UInt8) (b : UInt8) (R : List UInt8), Lib.decDigits q = P ++ b :: R → 48 ≤ b.toNat ∧ b.toNat ≤ 57 ∧ (P = [] → 48 < b.toNat) ∧ valD P * 10 + (b.toNat - 48) ≤ q := by
  induction q using Nat.strongRecOn with
  | _ q ih =>
    intro hq P b R e
    by_cases h : q < 10
    · rw [Lib.decDigits_one h] at e
      rcases P with _ | ⟨x, P⟩
      · obtain ⟨rfl, rfl⟩ := List.cons.inj e
        have := dig_nat h
        simp only [valD, List.foldl_nil]
        exact ⟨by omega, by omega, fun _ => by omega, by omega⟩
      · have := congrArg List.length e; simp at this
    · rw [dec_big h] at e
      rcases List.eq_nil_or_concat R with rfl | ⟨R', c, rfl⟩
      · obtain ⟨e1, e2⟩ := List.append_inj' e rfl
        obtain ⟨rfl, _⟩ := List.cons.inj e2
        have := dig_nat (d := q % 10) (by omega)
        have hv := dec_val (q / 10)
        rw [e1] at hv
        refine ⟨by omega, by omega, fun hP => absurd (e1.trans hP) (dec_ne _), by omega⟩
      · rw [List.concat_eq_append, ← List.cons_append, ← List.append_assoc] at e
        obtain ⟨e1, e2⟩ := List.append_inj' e rfl
        have := ih (q / 10) (by omega) (by omega) P b R' e1
        exact ⟨this.1, this.2.1, this.2.2.1, by omega⟩

/-- What was written is read as it. -/
theorem read_writ {s : ByteArray} {o q : Nat} (hs : s = writS o q) (ho : o ≤ 7) (hq : 0 < q) (hm : q ≤ 1048576) : pC s = 0 ∧ pO s = o ∧ pQ s = q := by
  have hL : s.data.toList = UInt8.ofNat (48 + o) :: 46 :: Lib.decDigits q := by
    rw [hs]; show writ o q = _; unfold writ; rw [Lib.decDigits_one (by omega)]; rfl
  have hl := Lib.size_eq s
  rw [hL] at hl
  have hdl : 0 < (Lib.decDigits q).length := List.length_pos_iff.2 (dec_ne q)
  simp only [List.length_cons] at hl
  have b0 : bt s 0 = 48 + o := by rw [bt_list s hL]; exact dig_nat (by omega)
  have b1 : bt s 1 = 46 := by rw [bt_list s hL]; rfl
  have main : ∀ k, k ≤ s.size → allg s k ∧ (¬ k < 2 → sq s k = valD ((Lib.decDigits q).take (k - 2))) := by
    intro k
    induction k with
    | zero => exact fun _ => ⟨allg_zero s, fun h => by omega⟩
    | succ k ih =>
      intro hk
      obtain ⟨ha, hv⟩ := ih (by omega)
      by_cases k2 : k < 2
      · refine ⟨allg_succ ha ?_, fun h => ?_⟩
        · rcases (by omega : k = 0 ∨ k = 1) with rfl | rfl
          · unfold good pok; rw [if_pos rfl, b0]; exact decide_eq_true (by omega)
          · unfold good pok; rw [if_neg (by decide), if_pos rfl, b1]; rfl
        · rw [show k = 1 by omega]; rfl
      · have hkl : k - 2 < (Lib.decDigits q).length := by omega
        have hsp : Lib.decDigits q = (Lib.decDigits q).take (k - 2) ++ (Lib.decDigits q)[k - 2] :: (Lib.decDigits q).drop (k - 2 + 1) := by rw [List.getElem_cons_drop, List.take_append_drop]
        have hb : bt s k = ((Lib.decDigits q)[k - 2]).toNat := by
          rw [bt_list s hL]
          obtain ⟨m, rfl⟩ : ∃ m, k = m + 2 := ⟨k - 2, by omega⟩
          simp only [Nat.add_sub_cancel] at hkl ⊢
          rw [List.getD_cons_succ, List.getD_cons_succ, List.getD_eq_getElem?_getD, List.getElem?_eq_getElem hkl]
          rfl
        obtain ⟨g1, g2, g3, g4⟩ := dec_good q hq _ _ _ hsp
        rw [← hb, ← hv k2] at g4
        rw [← hb] at g1 g2 g3
        refine ⟨allg_succ ha ?_, fun _ => ?_⟩
        · unfold good pok
          rw [if_neg (by omega), if_neg (by omega)]
          refine decide_eq_true ⟨g1, g2, ?_, by omega⟩
          by_cases e : 2 < k
          · exact .inl e
          · refine .inr (g3 ?_)
            rw [show k - 2 = 0 by omega]; rfl
        · rw [sq_next s k2, hv k2, show k + 1 - 2 = k - 2 + 1 by omega, hb]
          have : (Lib.decDigits q).take (k - 2 + 1) = (Lib.decDigits q).take (k - 2) ++ [(Lib.decDigits q)[k - 2]] := by rw [List.take_succ_eq_append_getElem hkl]
          rw [this, valD_snoc]
  obtain ⟨ha, hv⟩ := main s.size (Nat.le_refl _)
  obtain ⟨c, _, e1, e2⟩ := way_ok ha (by omega)
  refine ⟨c, ?_, ?_⟩
  · rw [e1]; unfold so; rw [if_neg (by omega), b0]; omega
  · rw [e2, hv (by omega), show s.size - 2 = (Lib.decDigits q).length by omega, List.take_length, dec_val]

theorem dec_len : ∀ (k q : Nat), q < 10 ^ (k + 1) → (Lib.decDigits q).length ≤ k + 1
  | 0, q, h => by rw [Lib.decDigits_one (by simpa using h)]; simp
  | k + 1, q, h => by
    by_cases h1 : q < 10
    · rw [Lib.decDigits_one h1]; simp
    · rw [dec_big h1, List.length_append]
      have := dec_len k (q / 10) (by rw [Nat.pow_succ] at h; omega)
      simp only [List.length_cons, List.length_nil]
      omega
theorem digS_size {k q : Nat} (h : q < 10 ^ (k + 1)) : (digS q).size ≤ k + 1 := dec_len k q h
theorem writ_cat (o q : Nat) : digS o ++ ⟨#[46]⟩ ++ digS q = writS o q := by
  apply ByteArray.ext
  apply Array.toList_inj.1
  show _ = writ o q
  simp [digS, writ]
theorem writS_size {o q : Nat} (ho : o ≤ 7) (hq : q ≤ 1048576) : (writS o q).size ≤ 9 := by
  have h1 := dec_len 0 o (by omega)
  have h2 := dec_len 6 q (by omega)
  show (writ o q).length ≤ 9
  unfold writ
  simp only [List.length_append, List.length_cons]
  omega
end Go.Proofs.YtfmdmifpgmkohaaDoor
