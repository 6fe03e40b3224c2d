import Derived.Test.YtcjnikkmjhagmaaGreatDoorMgBH
import Derived.Test.YtcjnikkmjhagmaaGreatDoorMgBB
namespace Go.Proofs.YtcjnikkmjhagmaaGreatDoor
open Go.RowKit
theorem oGood_of {l : List Op5} (h : oCE l = 0) : oGood l l.length := by
  unfold oCE at h
  by_cases h0 : 5000 < l.length
  · rw [if_pos h0] at h; cases h
  rw [if_neg h0] at h
  by_cases h1 : fb (oErr l) l.length < l.length
  · rw [if_pos h1] at h; exact absurd h (fb_bad h1)
  · have h2 := fb_le (oErr l) l.length
    exact fb_eq.1 (by omega)
theorem ahead_lt {xs : List Op5} {n i j : Nat} (h : oGood xs n) (hi : i < n) (hj : j < n) (ha : oAhead (oAt xs i) (oAt xs j) = true) : i < j := by
  have h1 := oMay_zero (oErr_zero (h i hi)).1
  unfold oAhead at ha
  have ha := of_decide_eq_true ha
  rcases Nat.lt_trichotomy i j with h2 | h2 | h2
  · exact h2
  · subst h2; omega
  · have := h.rise h2 hi; omega
def PG (n : Int) (us : List Int) : Prop := ∃ z, us.length = z * 2 ∧ ∀ p, p < z → tmG n (us.getD (p * 2) 0) (us.getD (p * 2 + 1) 0)
theorem PG.app {n : Int} {us vs : List Int} (h1 : PG n us) (h2 : PG n vs) : PG n (us ++ vs) := by
  obtain ⟨z1, l1, g1⟩ := h1
  obtain ⟨z2, l2, g2⟩ := h2
  refine ⟨z1 + z2, by rw [List.length_append]; omega, fun p hp => ?_⟩
  rcases Nat.lt_or_ge p z1 with h | h
  · have := g1 p h
    simp only [List.getD_eq_getElem?_getD] at this ⊢
    rw [List.getElem?_append_left (by omega), List.getElem?_append_left (by omega)]
    exact this
  · have := g2 (p - z1) (by omega)
    simp only [List.getD_eq_getElem?_getD] at this ⊢
    rw [List.getElem?_append_right (by omega), List.getElem?_append_right (by omega)]
    rw [show p * 2 - us.length = (p - z1) * 2 by omega, show p * 2 + 1 - us.length = (p - z1) * 2 + 1 by omega]
    exact this
theorem pg_pair {l : List Op5} (h : oGood l l.length) {i : Nat} (hi : i < l.length) : ∀ k, k ≤ l.length → PG l.length (oPair l i k)
  | 0, _ => ⟨0, by simp [oPair], fun p hp => absurd hp (by omega)⟩
  | k + 1, hk => by
    have ih := pg_pair h hi k (by omega)
    rw [oPair_succ]
    split
    · next ha =>
      have hlt := ahead_lt h hi (by omega : k < l.length) ha
      refine ih.app ⟨1, rfl, fun p hp => ?_⟩
      obtain rfl : p = 0 := by omega
      show tmG _ (i : Int) (k : Int)
      exact ⟨⟨by omega, by omega⟩, ⟨by omega, by omega⟩, by omega⟩
    · exact ih
theorem pg_pairs {l : List Op5} (h : oGood l l.length) : ∀ k, k ≤ l.length → PG l.length (oPairL l k)
  | 0, _ => ⟨0, by simp [oPairL], fun p hp => absurd hp (by omega)⟩
  | k + 1, hk => by rw [oPairL_succ]; exact (pg_pairs h k (by omega)).app (pg_pair h (by omega) _ (Nat.le_refl _))
theorem tmP_tri (n m a b : Int) : ∀ k, (tmP n m a b k).length = tri k
  | 0 => rfl
  | k + 1 => by rw [tmP_succ, List.length_append, tmA_len, tmP_tri n m a b k, tri_succ]
theorem tmU_cnt {N : Nat} {m : Int} {us : List Int} : ∀ k, (∀ p, p < k → tmG N (us.getD (p * 2) 0) (us.getD (p * 2 + 1) 0)) → (tmU N m us k).length = k * tri N
  | 0, _ => by simp [tmU]
  | k + 1, h => by
    rw [tmU_succ, List.length_append, tmU_cnt k fun p hp => h p (by omega)]
    unfold tmI
    rw [if_pos (h k (by omega)), tmP_tri, Nat.add_mul, Nat.one_mul]
theorem tmL_cnt {l : List Op5} {m : Int} (h : oCE l = 0) (hok : nOk l.length m) : (tmL l.length m (oPairL l l.length) (prN l)).length = prN l * tri l.length := by
  obtain ⟨z, h1, h2⟩ := pg_pairs (oGood_of h) l.length (Nat.le_refl _)
  have e : prN l = z := by unfold prN; omega
  unfold tmL
  rw [if_pos hok, Int.toNat_natCast]
  exact tmU_cnt _ fun p hp => h2 p (by omega)
end Go.Proofs.YtcjnikkmjhagmaaGreatDoor
namespace Go.Proofs.YtcjnikkmjhagmaaGreatDoor
open Go.RowKit
theorem mA_cnt (o : Ob) (l : List Op5) (i p b : Nat) : (mA o l i p b).length = if (oAt l i).e = -1 then 2 else 1 := by
  unfold mA; rw [List.length_append]; show 1 + _ = _; split <;> rfl
def mvC (l : List Op5) (i : Nat) : Nat := if (oAt l i).e = -1 then 2 else 1
theorem mB_cnt (o : Ob) (l : List Op5) (i p : Nat) : ∀ k, (mB o l i p k).length = mvC l i * k
  | 0 => by simp [mB]
  | k + 1 => by rw [mB_succ, List.length_append, mB_cnt o l i p k, mA_cnt, Nat.mul_succ]; rfl
theorem mP_cnt (o : Ob) (l : List Op5) (i : Nat) : ∀ k, (mP o l i k).length = mvC l i * (k * o.S.toNat)
  | 0 => by simp [mP]
  | k + 1 => by rw [mP_succ, List.length_append, mP_cnt o l i k, mB_cnt, ← Nat.mul_add, Nat.succ_mul]
def mvN1 (l : List Op5) (P : Nat) (i : Nat) : Nat := if (oAt l i).e = -1 then 2 * P else 1 + P
def mvNs (l : List Op5) (P : Nat) : Nat → Nat
  | 0 => 0
  | k + 1 => mvNs l P k + mvN1 l P k
theorem mI_cnt (o : Ob) (l : List Op5) (i : Nat) : (mI o l i).length = mvN1 l (l.length * o.S.toNat) i := by
  unfold mI mvN1
  rw [List.length_append, mP_cnt]; unfold mvC
  split
  · show 0 + _ = _; omega
  · show 1 + _ = _; omega
theorem mCl_cnt (o : Ob) (l : List Op5) : ∀ k, (mCl o l k).length = mvNs l (l.length * o.S.toNat) k
  | 0 => rfl
  | k + 1 => by rw [mCl_succ, List.length_append, mCl_cnt o l k, mI_cnt]; rfl
theorem mvNs_le (l : List Op5) (P : Nat) : ∀ k, mvNs l P k ≤ k * (2 * P + 1)
  | 0 => Nat.zero_le _
  | k + 1 => by
    have := mvNs_le l P k
    have h : mvN1 l P k ≤ 2 * P + 1 := by unfold mvN1; split <;> omega
    show mvNs l P k + mvN1 l P k ≤ _
    rw [Nat.succ_mul]; omega
def shR (R : List (List Int)) : Prop := ∀ r ∈ R, 1 ≤ r.length ∧ r.length ≤ 4
theorem mRes_len (o : Ob) (l : List Op5) : (mRes o l).length ≤ 1000000 := by
  unfold mRes; split
  · rename_i h
    obtain ⟨hm, hl, h1, h2⟩ := m_nOk h
    rw [mCl_cnt]
    have h3 := mvNs_le l (l.length * o.S.toNat) l.length
    have h4 : l.length * o.S.toNat ≤ 64 * 32 := Nat.mul_le_mul hl (by omega)
    have h5 : l.length * (2 * (l.length * o.S.toNat) + 1) ≤ 64 * (2 * (64 * 32) + 1) := Nat.mul_le_mul hl (by omega)
    omega
  · exact Nat.zero_le _
end Go.Proofs.YtcjnikkmjhagmaaGreatDoor
namespace Go.Proofs.YtcjnikkmjhagmaaGreatDoor
open Go.RowKit
theorem mvNs_cnt (l : List Op5) (P : Nat) : ∀ k, mvNs l P k = (k - (oPends l k).length) * (1 + P) + (oPends l k).length * (2 * P)
  | 0 => by simp [mvNs, oPends]
  | k + 1 => by
    have ih := mvNs_cnt l P k
    have hl := oPends_len l k
    show mvNs l P k + mvN1 l P k = _
    rw [ih, oPends_succ]
    unfold mvN1
    split
    · rw [List.length_append, List.length_singleton, Nat.add_mul (oPends l k).length 1]
      rw [show k + 1 - ((oPends l k).length + 1) = k - (oPends l k).length by omega]; omega
    · rw [show k + 1 - (oPends l k).length = (k - (oPends l k).length) + 1 by omega, Nat.add_mul (k - (oPends l k).length) 1]; omega
theorem ob_init {o : Ob} (h : obE o = 0) : 0 ≤ o.I ∧ o.I < o.S := by
  unfold obE at h
  by_cases h1 : obHead o
  · unfold obHead at h1; omega
  · rw [if_neg h1] at h; cases h
theorem cl_len (o : Ob) (l : List Op5) (hl : l.length ≤ 40) : ClLen o l := by
  by_cases hok : nOk (mN o l) (mS o l)
  · obtain ⟨hm, h1, h2, h3⟩ := m_nOk hok
    obtain ⟨e1, e2⟩ := m_yes hm
    have hS : ∃ S : Nat, o.S = S := ⟨o.S.toNat, by omega⟩
    obtain ⟨S, hS⟩ := hS
    have hres : mRes o l = mCl o l l.length := by unfold mRes; rw [if_pos hok]
    have hmv := mCl_cnt o l l.length
    rw [← hres, mvNs_cnt] at hmv
    rw [e1, e2] at hok
    have htm := tmL_cnt hm.2 hok
    have hpl := plCl_len l.length o.S
    have hst := stL_len l.length o.S o.I fun _ => ob_init hm.1
    have hple := pairs_le l l.length
    have hll : l.length * l.length ≤ 40 * 40 := Nat.mul_le_mul hl hl
    have hpr : prN l ≤ 1600 := by unfold prN; omega
    have hpn := oPends_len l l.length
    have ht : qT l.length o.S (prN l) = ((prN l * tri l.length : Nat) : Int) := by
      unfold qT; rw [if_pos ⟨hok, by omega⟩, Int.toNat_natCast]; unfold cTm; rw [Int.mul_comm]; push_cast; rfl
    have hq : qM l.length o.S (enN l) = ((mRes o l).length : Int) := by
      have he : enN l ≤ l.length := by unfold enN; omega
      have hp : (oPends l l.length).length = l.length - enN l := by unfold enN; omega
      unfold qM; rw [if_pos ⟨hok, by omega⟩, Int.toNat_natCast, hmv, hp]
      rw [show l.length - (l.length - enN l) = enN l by omega, hS, Int.toNat_natCast]
      unfold cMv
      rw [← Int.natCast_sub he]
      push_cast
      rw [Int.mul_assoc ((l.length - enN l : Nat) : Int) 2]
    have b1 := qT_lim l.length o.S (prN l)
    have b2 := qM_lim l.length o.S (enN l)
    rw [ht, ← htm] at b1
    rw [hq] at b2
    refine ⟨by rw [e1, e2]; exact hpl, by rw [e1, e2]; exact hst, by rw [e1, e2]; omega, by omega, ?_, fun h => absurd (by rw [e1, e2]; exact hok) h⟩
    rw [e1, e2]
    unfold cAll
    rw [if_pos ⟨hm.2, hok, rfl⟩, hpl, hst, htm, ht, hq]
  · have hres : mRes o l = [] := by unfold mRes; rw [if_neg hok]
    have ht : tmL (mN o l) (mS o l) (oPairL l l.length) (prN l) = [] := by unfold tmL; rw [if_neg hok]
    have hp : plCl (mN o l) (mS o l) = [] := by unfold plCl; rw [if_neg hok]
    have hs : stL (mN o l) (mS o l) o.I = [] := by unfold stL; rw [if_neg fun h => hok h.1]
    refine ⟨plCl_len _ _, stL_len _ _ _ fun h => absurd h hok, by rw [ht]; decide, by rw [hres]; decide, ?_, fun h => cAll_no h⟩
    rw [hp, ht, hs, hres, cAll_no hok]; rfl
end Go.Proofs.YtcjnikkmjhagmaaGreatDoor
