import Derived.Test.YtcjnikkmjhagmaaGreatDoorMgBJ
import Derived.Test.YtcjnikkmjhagmaaGreatDoorMgBC
namespace Go.Proofs.YtcjnikkmjhagmaaGreatDoor
open Go.RowKit
theorem tri_succ (n : Nat) : tri (n + 1) = tri n + n := by
  have h1 := tri_two n
  have h2 := tri_two (n + 1)
  rcases Nat.eq_zero_or_pos n with rfl | hp
  · rfl
  have e : (n + 1) * (n + 1 - 1) = n * (n - 1) + 2 * n := by
    obtain ⟨m, rfl⟩ : ∃ m, n = m + 1 := ⟨n - 1, by omega⟩
    simp only [Nat.add_sub_cancel]
    rw [Nat.add_mul (m + 1) 1 (m + 1), Nat.mul_succ (m + 1) m]; omega
  rw [e] at h2; omega
theorem msUp_tri (xs : List Int) : ∀ k, k ≤ xs.length → (msUp xs k).length + tri (xs.length - k) = tri xs.length
  | 0, _ => by simp [msUp]
  | k + 1, h => by
    have := msUp_tri xs k (by omega)
    have e : msUp xs (k + 1) = msUp xs k ++ msRow xs k (xs.length - (k + 1)) := by unfold msUp; rw [List.range_succ, List.flatMap_append]; simp
    have e2 : (msRow xs k (xs.length - (k + 1))).length = xs.length - (k + 1) := by unfold msRow; simp
    have e3 : xs.length - k = xs.length - (k + 1) + 1 := by omega
    rw [e3, tri_succ] at this
    rw [e, List.length_append, e2]; omega
theorem msAll_tri (xs : List Int) : (msAll xs).length = tri xs.length := by
  have := msUp_tri xs xs.length (Nat.le_refl _)
  rw [Nat.sub_self] at this
  exact this
theorem flatM_len {α : Type} (f : Nat → List α) (c : Nat) (hf : ∀ i, (f i).length = c) : ∀ k, ((List.range k).flatMap f).length = k * c
  | 0 => by simp
  | k + 1 => by
    have := flatM_len f c hf k
    rw [List.range_succ, List.flatMap_append, List.length_append, this, Nat.add_mul]; simp [hf k]
theorem plCl_len (n m : Int) : ((plCl n m).length : Int) = qP n m := by
  unfold plCl qP
  by_cases h : nOk n m
  · rw [if_pos h, if_pos h, List.length_append]
    unfold plU1 plU2
    rw [flatM_len _ (1 + tri n.toNat) (fun i => by rw [List.length_cons, msAll_tri]; simp [rowV]; omega), flatM_len _ (tri n.toNat) (fun i => by rw [msAll_tri]; simp [colV])]
    unfold cP
    generalize n.toNat = N
    generalize tri N = T
    rw [Nat.mul_add, Nat.mul_one]; push_cast; rw [Int.mul_assoc]; omega
  · rw [if_neg h, if_neg h]; rfl
theorem stL_len (n m init : Int) (hi : nOk n m → 0 ≤ init ∧ init < m) : ((stL n m init).length : Int) = qS n m := by
  unfold stL qS
  by_cases h : nOk n m
  · rw [if_pos ⟨h, hi h⟩, if_pos h, List.length_cons]
    unfold stUp
    rw [flatM_len _ (1 + tri m.toNat) (fun i => by unfold stP; rw [List.length_cons, msAll_tri]; simp [atV]; omega)]
    unfold cSt
    push_cast; omega
  · rw [if_neg (fun hh => h hh.1), if_neg h]; rfl
theorem cAll_no {n m : Int} {l : List Op5} (h : ¬ nOk n m) : cAll n m l = 0 := by unfold cAll; rw [if_neg fun hh => h hh.2.1]
end Go.Proofs.YtcjnikkmjhagmaaGreatDoor
namespace Go.Proofs.YtcjnikkmjhagmaaGreatDoor
open Go.RowKit
theorem oGood_of {l : List Op5} (h : oCE l = 0) : oGood l l.length := by
  unfold oCE at h
  by_cases h0 : 5000 < l.length
  · rw [if_pos h0] at h; cases h
  rw [if_neg h0] at h
  by_cases h1 : fb (oErr l) l.length < l.length
  · rw [if_pos h1] at h; exact absurd h (fb_bad h1)
  · have h2 := fb_le (oErr l) l.length
    exact fb_eq.1 (by omega)
theorem ahead_lt {xs : List Op5} {n i j : Nat} (h : oGood xs n) (hi : i < n) (hj : j < n) (ha : oAhead (oAt xs i) (oAt xs j) = true) : i < j := by
  have h1 := oMay_zero (oErr_zero (h i hi)).1
  unfold oAhead at ha
  have ha := of_decide_eq_true ha
  rcases Nat.lt_trichotomy i j with h2 | h2 | h2
  · exact h2
  · subst h2; omega
  · have := h.rise h2 hi; omega
def PG (n : Int) (us : List Int) : Prop := ∃ z, us.length = z * 2 ∧ ∀ p, p < z → tmG n (us.getD (p * 2) 0) (us.getD (p * 2 + 1) 0)
theorem PG.app {n : Int} {us vs : List Int} (h1 : PG n us) (h2 : PG n vs) : PG n (us ++ vs) := by
  obtain ⟨z1, l1, g1⟩ := h1
  obtain ⟨z2, l2, g2⟩ := h2
  refine ⟨z1 + z2, by rw [List.length_append]; omega, fun p hp => ?_⟩
  rcases Nat.lt_or_ge p z1 with h | h
  · have := g1 p h
    simp only [List.getD_eq_getElem?_getD] at this ⊢
    rw [List.getElem?_append_left (by omega), List.getElem?_append_left (by omega)]
    exact this
  · have := g2 (p - z1) (by omega)
    simp only [List.getD_eq_getElem?_getD] at this ⊢
    rw [List.getElem?_append_right (by omega), List.getElem?_append_right (by omega)]
    rw [show p * 2 - us.length = (p - z1) * 2 by omega, show p * 2 + 1 - us.length = (p - z1) * 2 + 1 by omega]
    exact this
theorem pg_pair {l : List Op5} (h : oGood l l.length) {i : Nat} (hi : i < l.length) : ∀ k, k ≤ l.length → PG l.length (oPair l i k)
  | 0, _ => ⟨0, by simp [oPair], fun p hp => absurd hp (by omega)⟩
  | k + 1, hk => by
    have ih := pg_pair h hi k (by omega)
    rw [oPair_succ]
    split
    · next ha =>
      have hlt := ahead_lt h hi (by omega : k < l.length) ha
      refine ih.app ⟨1, rfl, fun p hp => ?_⟩
      obtain rfl : p = 0 := by omega
      show tmG _ (i : Int) (k : Int)
      exact ⟨⟨by omega, by omega⟩, ⟨by omega, by omega⟩, by omega⟩
    · exact ih
theorem pg_pairs {l : List Op5} (h : oGood l l.length) : ∀ k, k ≤ l.length → PG l.length (oPairL l k)
  | 0, _ => ⟨0, by simp [oPairL], fun p hp => absurd hp (by omega)⟩
  | k + 1, hk => by rw [oPairL_succ]; exact (pg_pairs h k (by omega)).app (pg_pair h (by omega) _ (Nat.le_refl _))
theorem tmP_tri (n m a b : Int) : ∀ k, (tmP n m a b k).length = tri k
  | 0 => rfl
  | k + 1 => by rw [tmP_succ, List.length_append, tmA_len, tmP_tri n m a b k, tri_succ]
theorem tmU_cnt {N : Nat} {m : Int} {us : List Int} : ∀ k, (∀ p, p < k → tmG N (us.getD (p * 2) 0) (us.getD (p * 2 + 1) 0)) → (tmU N m us k).length = k * tri N
  | 0, _ => by simp [tmU]
  | k + 1, h => by
    rw [tmU_succ, List.length_append, tmU_cnt k fun p hp => h p (by omega)]
    unfold tmI
    rw [if_pos (h k (by omega)), tmP_tri, Nat.add_mul, Nat.one_mul]
theorem tmL_cnt {l : List Op5} {m : Int} (h : oCE l = 0) (hok : nOk l.length m) : (tmL l.length m (oPairL l l.length) (prN l)).length = prN l * tri l.length := by
  obtain ⟨z, h1, h2⟩ := pg_pairs (oGood_of h) l.length (Nat.le_refl _)
  have e : prN l = z := by unfold prN; omega
  unfold tmL
  rw [if_pos hok, Int.toNat_natCast]
  exact tmU_cnt _ fun p hp => h2 p (by omega)
end Go.Proofs.YtcjnikkmjhagmaaGreatDoor
namespace Go.Proofs.YtcjnikkmjhagmaaGreatDoor
open Go.RowKit
theorem mA_cnt (o : Ob) (l : List Op5) (i p b : Nat) : (mA o l i p b).length = if (oAt l i).e = -1 then 2 else 1 := by
  unfold mA; rw [List.length_append]; show 1 + _ = _; split <;> rfl
def mvC (l : List Op5) (i : Nat) : Nat := if (oAt l i).e = -1 then 2 else 1
theorem mB_cnt (o : Ob) (l : List Op5) (i p : Nat) : ∀ k, (mB o l i p k).length = mvC l i * k
  | 0 => by simp [mB]
  | k + 1 => by rw [mB_succ, List.length_append, mB_cnt o l i p k, mA_cnt, Nat.mul_succ]; rfl
theorem mP_cnt (o : Ob) (l : List Op5) (i : Nat) : ∀ k, (mP o l i k).length = mvC l i * (k * o.S.toNat)
  | 0 => by simp [mP]
  | k + 1 => by rw [mP_succ, List.length_append, mP_cnt o l i k, mB_cnt, ← Nat.mul_add, Nat.succ_mul]
def mvN1 (l : List Op5) (P : Nat) (i : Nat) : Nat := if (oAt l i).e = -1 then 2 * P else 1 + P
def mvNs (l : List Op5) (P : Nat) : Nat → Nat
  | 0 => 0
  | k + 1 => mvNs l P k + mvN1 l P k
theorem mI_cnt (o : Ob) (l : List Op5) (i : Nat) : (mI o l i).length = mvN1 l (l.length * o.S.toNat) i := by
  unfold mI mvN1
  rw [List.length_append, mP_cnt]; unfold mvC
  split
  · show 0 + _ = _; omega
  · show 1 + _ = _; omega
theorem mCl_cnt (o : Ob) (l : List Op5) : ∀ k, (mCl o l k).length = mvNs l (l.length * o.S.toNat) k
  | 0 => rfl
  | k + 1 => by rw [mCl_succ, List.length_append, mCl_cnt o l k, mI_cnt]; rfl
theorem mvNs_le (l : List Op5) (P : Nat) : ∀ k, mvNs l P k ≤ k * (2 * P + 1)
  | 0 => Nat.zero_le _
  | k + 1 => by
    have := mvNs_le l P k
    have h : mvN1 l P k ≤ 2 * P + 1 := by unfold mvN1; split <;> omega
    show mvNs l P k + mvN1 l P k ≤ _
    rw [Nat.succ_mul]; omega
def shR (R : List (List Int)) : Prop := ∀ r ∈ R, 1 ≤ r.length ∧ r.length ≤ 4
theorem mRes_len (o : Ob) (l : List Op5) : (mRes o l).length ≤ 1000000 := by
  unfold mRes; split
  · rename_i h
    obtain ⟨hm, hl, h1, h2⟩ := m_nOk h
    rw [mCl_cnt]
    have h3 := mvNs_le l (l.length * o.S.toNat) l.length
    have h4 : l.length * o.S.toNat ≤ 64 * 32 := Nat.mul_le_mul hl (by omega)
    have h5 : l.length * (2 * (l.length * o.S.toNat) + 1) ≤ 64 * (2 * (64 * 32) + 1) := Nat.mul_le_mul hl (by omega)
    omega
  · exact Nat.zero_le _
end Go.Proofs.YtcjnikkmjhagmaaGreatDoor
