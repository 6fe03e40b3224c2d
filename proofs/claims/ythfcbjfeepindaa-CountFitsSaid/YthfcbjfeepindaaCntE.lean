/- Plain facts: what fits still does with one operation, or one state, less. -/
import Derived.Test.YthfcbjfeepindaaCntC
import Derived.Test.YthfcbjfeepindaaStaP
namespace Go.Proofs.Ythfcbjfeepindaa
set_option linter.unusedVariables false
set_option linter.unusedSimpArgs false

theorem oAt_take {xs : List Op5} {m i : Nat} (h : i < m) : oAt (xs.take m) i = oAt xs i := by simp [oAt, List.getD, h]
theorem oOrd_congr {xs ys : List Op5} {i : Nat} {o : Op5} (h : ∀ j, j < i → oAt ys j = oAt xs j) : oOrd ys i o ↔ oOrd xs i o := by
  unfold oOrd
  constructor
  · rintro ⟨k, hk, h1⟩; exact ⟨k, hk, by rw [← h k hk]; exact h1⟩
  · rintro ⟨k, hk, h1⟩; exact ⟨k, hk, by rw [h k hk]; exact h1⟩
theorem oOpen_congr {xs ys : List Op5} {i : Nat} {o : Op5} (h : ∀ j, j < i → oAt ys j = oAt xs j) : oOpen ys i o ↔ oOpen xs i o := by
  unfold oOpen
  constructor
  · rintro ⟨k, hk, h1⟩; exact ⟨k, hk, by rw [← h k hk]; exact h1⟩
  · rintro ⟨k, hk, h1⟩; exact ⟨k, hk, by rw [h k hk]; exact h1⟩
theorem oErr_congr {xs ys : List Op5} {i : Nat} (h : ∀ j, j ≤ i → oAt ys j = oAt xs j) : oErr ys i = oErr xs i := by
  have h0 : ∀ j, j < i → oAt ys j = oAt xs j := fun j hj => h j (by omega)
  unfold oErr
  rw [h i (Nat.le_refl _)]
  by_cases a : oMay (oAt xs i) ≠ 0
  · rw [if_pos a, if_pos a]
  · rw [if_neg a, if_neg a]
    by_cases b : oOrd xs i (oAt xs i)
    · rw [if_pos b, if_pos ((oOrd_congr h0).2 b)]
    · rw [if_neg b, if_neg (fun h => b ((oOrd_congr h0).1 h))]
      by_cases c : oOpen xs i (oAt xs i)
      · rw [if_pos c, if_pos ((oOpen_congr h0).2 c)]
      · rw [if_neg c, if_neg (fun h => c ((oOpen_congr h0).1 h))]
theorem oOk_take {xs : List Op5} {m : Nat} (h : oOk xs) (hm : m ≤ xs.length) : oOk (xs.take m) := by
  have hl : (xs.take m).length = m := by rw [List.length_take]; omega
  refine ⟨by rw [hl]; exact Nat.le_trans hm h.1, ?_⟩
  rw [hl]
  intro i hi
  rw [oErr_congr (fun j hj => oAt_take (by omega))]
  exact h.2 i (by omega)

/-- What is ahead stands ahead in the list. -/
theorem oAhead_lt {xs : List Op5} {n i j : Nat} (h : oGood xs n) (hi : i < n) (hj : j < n) (ha : oAhead (oAt xs i) (oAt xs j) = true) : i < j := by
  have h1 := oMay_zero (oErr_zero (h i hi)).1
  unfold oAhead at ha
  have ha := of_decide_eq_true ha
  rcases Nat.lt_trichotomy i j with h2 | h2 | h2
  · exact h2
  · subst h2; omega
  · have := h.rise h2 hi; omega
theorem oPairRow_tri {xs : List Op5} {n : Nat} (h : oGood xs n) {i : Nat} (hi : i < n) (k : Nat) (hk : k ≤ n) : (oPairRow xs i k).length ≤ k - (i + 1) := by
  induction k with
  | zero => simp [oPairRow]
  | succ k ih =>
    have := ih (by omega)
    rw [oPairRow_succ]
    split
    · rename_i ha
      have := oAhead_lt h hi (by omega : k < n) ha
      rw [List.length_append, List.length_singleton]; omega
    · omega
theorem oPairUp_tri {xs : List Op5} {n : Nat} (h : oGood xs n) (k : Nat) (hk : k ≤ n) : 2 * (oPairUp xs n k).length + k * k + k ≤ 2 * (n * k) := by
  induction k with
  | zero => simp [oPairUp]
  | succ k ih =>
    have h1 := ih (by omega)
    have h2 := oPairRow_tri h (by omega : k < n) n (Nat.le_refl _)
    have e1 : (k + 1) * (k + 1) = k * k + 2 * k + 1 := by rw [Nat.add_mul, Nat.mul_add]; omega
    have e2 : n * (k + 1) = n * k + n := by rw [Nat.mul_add]; omega
    rw [oPairUp_succ, List.length_append, e1, e2]
    omega
theorem oPairs_up (xs : List Op5) : oPairs xs = oPairUp xs xs.length xs.length := rfl
theorem oPairs_tri {xs : List Op5} (h : oOk xs) : (oPairs xs).length ≤ tri xs.length := by
  have h1 := oPairUp_tri h.2 xs.length (Nat.le_refl _)
  rw [← oPairs_up] at h1
  have h2 := tri_two xs.length
  have h3 : xs.length * (xs.length - 1) + xs.length = xs.length * xs.length := by
    rcases Nat.eq_zero_or_pos xs.length with h0 | h0
    · rw [h0]
    · have : xs.length * (xs.length - 1) + xs.length * 1 = xs.length * (xs.length - 1 + 1) := (Nat.mul_add _ _ _).symm
      rw [Nat.mul_one, Nat.sub_add_cancel h0] at this; exact this
  omega
theorem oPairRow_take {xs : List Op5} {m i k : Nat} (hi : i < m) (hk : k ≤ m) : oPairRow (xs.take m) i k = oPairRow xs i k := by
  unfold oPairRow
  congr 1
  apply List.filter_congr
  intro j hj
  rw [oAt_take hi, oAt_take (by have := List.mem_range.1 hj; omega)]
theorem oPairUp_take {xs : List Op5} {m : Nat} (k : Nat) (hk : k ≤ m) : oPairUp (xs.take m) m k = oPairUp xs m k := by
  induction k with
  | zero => rfl
  | succ k ih => rw [oPairUp_succ, oPairUp_succ, ih (by omega), oPairRow_take (by omega) (Nat.le_refl _)]
theorem oPairRow_mono (xs : List Op5) (i n : Nat) : (oPairRow xs i n).length ≤ (oPairRow xs i (n + 1)).length := by
  rw [oPairRow_succ]; split
  · rw [List.length_append]; omega
  · omega
theorem oPairUp_mono (xs : List Op5) (n k : Nat) : (oPairUp xs n k).length ≤ (oPairUp xs (n + 1) k).length := by
  induction k with
  | zero => simp [oPairUp]
  | succ k ih => have := oPairRow_mono xs k n; rw [oPairUp_succ, oPairUp_succ, List.length_append, List.length_append]; omega
theorem oPairs_take {xs : List Op5} {m : Nat} (h : xs.length = m + 1) : (oPairs (xs.take m)).length ≤ (oPairs xs).length := by
  have hl : (xs.take m).length = m := by rw [List.length_take]; omega
  rw [oPairs_up, oPairs_up, hl, h, oPairUp_take m (Nat.le_refl _)]
  have h1 := oPairUp_mono xs m m
  rw [oPairUp_succ, List.length_append]; omega
theorem oPendUp_take {xs : List Op5} {m : Nat} : oPendUp (xs.take m) m = oPendUp xs m := by
  unfold oPendUp
  congr 1
  apply List.filter_congr
  intro j hj
  rw [oAt_take (List.mem_range.1 hj)]
theorem oPend_take {xs : List Op5} {m : Nat} (h : xs.length = m + 1) : (oPend (xs.take m)).length ≤ (oPend xs).length ∧ (oPend xs).length ≤ (oPend (xs.take m)).length + 1 ∧ (oPend (xs.take m)).length ≤ m := by
  have hl : (xs.take m).length = m := by rw [List.length_take]; omega
  have e1 : oPend (xs.take m) = oPendUp xs m := by rw [← oPendUp_take]; unfold oPend oPendUp; rw [hl]
  have e2 : oPend xs = oPendUp xs (m + 1) := by unfold oPend oPendUp; rw [h]
  have := oPendUp_len xs m
  rw [e1, e2, oPendUp_succ]
  split
  · rw [List.length_append, List.length_singleton]; omega
  · omega
theorem tri_mono {m n : Nat} (h : m ≤ n) : tri m ≤ tri n := by
  unfold tri; exact Nat.div_le_div_right (Nat.mul_le_mul h (by omega))
theorem tri_2016 {n : Nat} (h : n ≤ 64) : tri n ≤ 2016 := tri_mono h

/-- The sum, plainly. -/
def kNat (n S q e p : Nat) : Nat := (n + 2 * (n * tri n)) + tri n * q + (1 + (n + 1) * (1 + tri S)) + (e * (1 + n * S) + (p * 2) * (n * S))
theorem kAll_nat {n S : Nat} {xs : List Op5} (h : oOk xs) (hn : nOk n S) (hl : xs.length = n) : kAll n S xs = ((kNat n S (oPairs xs).length (n - (oPend xs).length) (oPend xs).length : Nat) : Int) := by
  have hq : (oPairs xs).length ≤ 2016 := by
    have := oPairs_tri h
    rw [hl] at this
    exact Nat.le_trans this (tri_2016 (by unfold nOk at hn; omega))
  have hp := oPend_len xs
  rw [hl] at hp
  have h1 : kP n S = ((n + 2 * (n * tri n) : Nat) : Int) := by unfold kP; rw [if_pos hn, Int.toNat_natCast]; rfl
  have h2 : kT n S (oPairs xs).length = ((tri n * (oPairs xs).length : Nat) : Int) := by unfold kT; rw [if_pos ⟨hn, by omega, by omega⟩, Int.toNat_natCast, Int.toNat_natCast]
  have h3 : kS n S = ((1 + (n + 1) * (1 + tri S) : Nat) : Int) := by unfold kS; rw [if_pos hn, Int.toNat_natCast, Int.toNat_natCast]; rfl
  have h4 : kM n S ((xs.length : Int) - (oPend xs).length) = (((n - (oPend xs).length) * (1 + n * S) + ((oPend xs).length * 2) * (n * S) : Nat) : Int) := by
    rw [hl, show (n : Int) - (oPend xs).length = ((n - (oPend xs).length : Nat) : Int) by omega]
    unfold kM; rw [if_pos ⟨hn, by omega, by omega⟩, Int.toNat_natCast, Int.toNat_natCast, Int.toNat_natCast]
    unfold cMv
    rw [show n - (n - (oPend xs).length) = (oPend xs).length by omega]
  unfold kAll
  rw [if_pos ⟨h, hn, by rw [hl]⟩, h1, h2, h3, h4]
  unfold kNat
  push_cast
  rfl
theorem kNat_mono {n S q e p n' S' q' e' p' : Nat} (h1 : n' ≤ n) (h2 : S' ≤ S) (h3 : q' ≤ q) (h4 : e' ≤ e) (h5 : p' ≤ p) : kNat n' S' q' e' p' ≤ kNat n S q e p := by
  unfold kNat
  have a1 := Nat.mul_le_mul h1 (tri_mono h1)
  have a2 := Nat.mul_le_mul (tri_mono h1) h3
  have a3 : (n' + 1) * (1 + tri S') ≤ (n + 1) * (1 + tri S) := Nat.mul_le_mul (by omega) (by have := tri_mono h2; omega)
  have a4 := Nat.mul_le_mul h1 h2
  have a5 : e' * (1 + n' * S') ≤ e * (1 + n * S) := Nat.mul_le_mul h4 (by omega)
  have a6 : (p' * 2) * (n' * S') ≤ (p * 2) * (n * S) := Nat.mul_le_mul (by omega) a4
  omega
theorem kNat_pos (n S q e p : Nat) : 0 < kNat n S q e p := by unfold kNat; omega
theorem nVars_nat {n S : Nat} (h : nOk n S) : nVars n S = ((n * n + n + (n + 1) * S : Nat) : Int) := stVars h
theorem nV_mono {n S n' S' : Nat} (h1 : n' ≤ n) (h2 : S' ≤ S) : n' * n' + n' + (n' + 1) * S' ≤ n * n + n + (n + 1) * S := by
  have a1 := Nat.mul_le_mul h1 h1
  have a2 : (n' + 1) * S' ≤ (n + 1) * S := Nat.mul_le_mul (by omega) h2
  omega

theorem kFits_zero {o s : Int} {xs : List Op5} (h : kFits o s xs = 0) : ∃ n S : Nat, o = n ∧ s = S ∧ oOk xs ∧ nOk n S ∧ xs.length = n ∧ kAll n S xs ≤ 500000 ∧ nVars n S ≤ 900 := by
  unfold kFits at h
  split at h
  · omega
  · rename_i h0
    split at h
    · omega
    · rename_i h1
      have h2 : oOk xs ∧ nOk o s ∧ (xs.length : Int) = o := by
        by_cases hx : oOk xs ∧ nOk o s ∧ (xs.length : Int) = o
        · exact hx
        · exact absurd (kAll_no hx) h0
      obtain ⟨n, S, rfl, rfl⟩ := nOk_nats h2.2.1
      exact ⟨n, S, rfl, rfl, h2.1, h2.2.1, by omega, by omega, by omega⟩
theorem kFits_mk {n S : Nat} {xs : List Op5} (h : oOk xs) (hn : nOk n S) (hl : xs.length = n) (h1 : kAll n S xs ≤ 500000) (h2 : nVars n S ≤ 900) : kFits n S xs = 0 := by
  have h0 : kAll n S xs ≠ 0 := by
    rw [kAll_nat h hn hl]
    have := kNat_pos n S (oPairs xs).length (n - (oPend xs).length) (oPend xs).length
    omega
  unfold kFits
  rw [if_neg h0, if_neg (by omega)]
/-- With one operation less. -/
theorem kFits_oper {o s : Int} {xs : List Op5} (h : kFits o s xs = 0) (ho : 0 < o) : kFits (o - 1) s (xs.take (xs.length - 1)) = 0 := by
  obtain ⟨n, S, rfl, rfl, h1, h2, h3, h4, h5⟩ := kFits_zero h
  obtain ⟨m, rfl⟩ : ∃ m, n = m + 1 := ⟨n - 1, by omega⟩
  have h2' : nOk m S := by unfold nOk at h2 ⊢; omega
  have hm : xs.length - 1 = m := by omega
  have hl : (xs.take m).length = m := by rw [List.length_take]; omega
  have hok := oOk_take h1 (m := m) (by omega)
  rw [hm, show ((m + 1 : Nat) : Int) - 1 = (m : Int) by omega]
  have hp := oPend_take h3
  refine kFits_mk hok h2' hl ?_ ?_
  · rw [kAll_nat h1 h2 h3] at h4
    rw [kAll_nat hok h2' hl]
    have := kNat_mono (n := m + 1) (S := S) (q := (oPairs xs).length) (e := m + 1 - (oPend xs).length) (p := (oPend xs).length) (n' := m) (S' := S) (q' := (oPairs (xs.take m)).length) (e' := m - (oPend (xs.take m)).length) (p' := (oPend (xs.take m)).length) (by omega) (Nat.le_refl _) (oPairs_take h3) (by omega) hp.1
    omega
  · rw [nVars_nat h2] at h5
    rw [nVars_nat h2']
    have := nV_mono (n := m + 1) (S := S) (n' := m) (S' := S) (by omega) (Nat.le_refl _)
    omega
/-- With one state less. -/
theorem kFits_state {o s : Int} {xs : List Op5} (h : kFits o s xs = 0) (hs : 1 < s) : kFits o (s - 1) xs = 0 := by
  obtain ⟨n, S, rfl, rfl, h1, h2, h3, h4, h5⟩ := kFits_zero h
  obtain ⟨t, rfl⟩ : ∃ t, S = t + 1 := ⟨S - 1, by omega⟩
  have h2' : nOk n t := by unfold nOk at h2 ⊢; omega
  rw [show ((t + 1 : Nat) : Int) - 1 = (t : Int) by omega]
  refine kFits_mk h1 h2' h3 ?_ ?_
  · rw [kAll_nat h1 h2 h3] at h4
    rw [kAll_nat h1 h2' h3]
    have := kNat_mono (n := n) (S := t + 1) (q := (oPairs xs).length) (e := n - (oPend xs).length) (p := (oPend xs).length) (n' := n) (S' := t) (q' := (oPairs xs).length) (e' := n - (oPend xs).length) (p' := (oPend xs).length) (Nat.le_refl _) (by omega) (Nat.le_refl _) (Nat.le_refl _) (Nat.le_refl _)
    omega
  · rw [nVars_nat h2] at h5
    rw [nVars_nat h2']
    have := nV_mono (n := n) (S := t + 1) (n' := n) (S' := t) (Nat.le_refl _) (by omega)
    omega
end Go.Proofs.Ythfcbjfeepindaa
