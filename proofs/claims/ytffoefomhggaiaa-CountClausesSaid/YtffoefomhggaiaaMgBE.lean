import Derived.Test.YtffoefomhggaiaaMgAX
import Derived.Test.YtffoefomhggaiaaMgBD
import Derived.Test.YtffoefomhggaiaaMgAS
import Derived.Test.YtffoefomhggaiaaMgAP
namespace Go.Proofs.Ytffoefomhggaiaa
open Go.RowKit
/-! ### How many clauses, and how long -/
theorem mA_cnt (o : Ob) (l : List Op5) (i p b : Nat) : (mA o l i p b).length = if (oAt l i).e = -1 then 2 else 1 := by
  unfold mA; rw [List.length_append]; show 1 + _ = _; split <;> rfl
def mvC (l : List Op5) (i : Nat) : Nat := if (oAt l i).e = -1 then 2 else 1
theorem mB_cnt (o : Ob) (l : List Op5) (i p : Nat) : ∀ k, (mB o l i p k).length = mvC l i * k
  | 0 => by simp [mB]
  | k + 1 => by rw [mB_succ, List.length_append, mB_cnt o l i p k, mA_cnt, Nat.mul_succ]; rfl
theorem mP_cnt (o : Ob) (l : List Op5) (i : Nat) : ∀ k, (mP o l i k).length = mvC l i * (k * o.S.toNat)
  | 0 => by simp [mP]
  | k + 1 => by rw [mP_succ, List.length_append, mP_cnt o l i k, mB_cnt, ← Nat.mul_add, Nat.succ_mul]
def mvN1 (l : List Op5) (P : Nat) (i : Nat) : Nat := if (oAt l i).e = -1 then 2 * P else 1 + P
def mvNs (l : List Op5) (P : Nat) : Nat → Nat
  | 0 => 0
  | k + 1 => mvNs l P k + mvN1 l P k
theorem mI_cnt (o : Ob) (l : List Op5) (i : Nat) : (mI o l i).length = mvN1 l (l.length * o.S.toNat) i := by
  unfold mI mvN1
  rw [List.length_append, mP_cnt]; unfold mvC
  split
  · show 0 + _ = _; omega
  · show 1 + _ = _; omega
theorem mCl_cnt (o : Ob) (l : List Op5) : ∀ k, (mCl o l k).length = mvNs l (l.length * o.S.toNat) k
  | 0 => rfl
  | k + 1 => by rw [mCl_succ, List.length_append, mCl_cnt o l k, mI_cnt]; rfl
def shR (R : List (List Int)) : Prop := ∀ r ∈ R, 1 ≤ r.length ∧ r.length ≤ 4
end Go.Proofs.Ytffoefomhggaiaa
namespace Go.Proofs.Ytffoefomhggaiaa
open Go.RowKit
theorem mvNs_cnt (l : List Op5) (P : Nat) : ∀ k, mvNs l P k = (k - (oPends l k).length) * (1 + P) + (oPends l k).length * (2 * P)
  | 0 => by simp [mvNs, oPends]
  | k + 1 => by
    have ih := mvNs_cnt l P k
    have hl := oPends_len l k
    show mvNs l P k + mvN1 l P k = _
    rw [ih, oPends_succ]
    unfold mvN1
    split
    · rw [List.length_append, List.length_singleton, Nat.add_mul (oPends l k).length 1]
      rw [show k + 1 - ((oPends l k).length + 1) = k - (oPends l k).length by omega]; omega
    · rw [show k + 1 - (oPends l k).length = (k - (oPends l k).length) + 1 by omega, Nat.add_mul (k - (oPends l k).length) 1]; omega
theorem ob_init {o : Ob} (h : obE o = 0) : 0 ≤ o.I ∧ o.I < o.S := by
  unfold obE at h
  by_cases h1 : obHead o
  · unfold obHead at h1; omega
  · rw [if_neg h1] at h; cases h
theorem cl_len (o : Ob) (l : List Op5) (hl : l.length ≤ 8) : ClLen o l := by
  by_cases hok : nOk (mN o l) (mS o l)
  · obtain ⟨hm, h1, h2, h3⟩ := m_nOk hok
    obtain ⟨e1, e2⟩ := m_yes hm
    have hS : ∃ S : Nat, o.S = S := ⟨o.S.toNat, by omega⟩
    obtain ⟨S, hS⟩ := hS
    have hres : mRes o l = mCl o l l.length := by unfold mRes; rw [if_pos hok]
    have hmv := mCl_cnt o l l.length
    rw [← hres, mvNs_cnt] at hmv
    rw [e1, e2] at hok
    have htm := tmL_cnt hm.2 hok
    have hpl := plCl_len l.length o.S
    have hst := stL_len l.length o.S o.I fun _ => ob_init hm.1
    have hple := pairs_le l l.length
    have hll : l.length * l.length ≤ 8 * 8 := Nat.mul_le_mul hl hl
    have hpr : prN l ≤ 64 := by unfold prN; omega
    have hpn := oPends_len l l.length
    have ht : qT l.length o.S (prN l) = ((prN l * tri l.length : Nat) : Int) := by
      unfold qT; rw [if_pos ⟨hok, by omega⟩, Int.toNat_natCast]; unfold cTm; rw [Int.mul_comm]; push_cast; rfl
    have hq : qM l.length o.S (enN l) = ((mRes o l).length : Int) := by
      have he : enN l ≤ l.length := by unfold enN; omega
      have hp : (oPends l l.length).length = l.length - enN l := by unfold enN; omega
      unfold qM; rw [if_pos ⟨hok, by omega⟩, Int.toNat_natCast, hmv, hp]
      rw [show l.length - (l.length - enN l) = enN l by omega, hS, Int.toNat_natCast]
      unfold cMv
      rw [← Int.natCast_sub he]
      push_cast
      rw [Int.mul_assoc ((l.length - enN l : Nat) : Int) 2]
    have b1 := qT_lim l.length o.S (prN l)
    have b2 := qM_lim l.length o.S (enN l)
    rw [ht, ← htm] at b1
    rw [hq] at b2
    refine ⟨by rw [e1, e2]; exact hpl, by rw [e1, e2]; exact hst, by rw [e1, e2]; omega, by omega, ?_, fun h => absurd (by rw [e1, e2]; exact hok) h⟩
    rw [e1, e2]
    unfold cAll
    rw [if_pos ⟨hm.2, hok, rfl⟩, hpl, hst, htm, ht, hq]
  · have hres : mRes o l = [] := by unfold mRes; rw [if_neg hok]
    have ht : tmL (mN o l) (mS o l) (oPairL l l.length) (prN l) = [] := by unfold tmL; rw [if_neg hok]
    have hp : plCl (mN o l) (mS o l) = [] := by unfold plCl; rw [if_neg hok]
    have hs : stL (mN o l) (mS o l) o.I = [] := by unfold stL; rw [if_neg fun h => hok h.1]
    refine ⟨plCl_len _ _, stL_len _ _ _ fun h => absurd h hok, by rw [ht]; decide, by rw [hres]; decide, ?_, fun h => cAll_no h⟩
    rw [hp, ht, hs, hres, cAll_no hok]; rfl
end Go.Proofs.Ytffoefomhggaiaa
namespace Go.Proofs.Ytffoefomhggaiaa
open Go.RowKit
theorem wf_i {x : Int} (h : (Lit.int .i64 x).wf = true) : -9223372036854775808 ≤ x ∧ x ≤ 9223372036854775807 := bounds_i64 h
theorem countClauses_walk (w : World) (x y z : Int) (wx : (Lit.int .i64 x).wf = true) (wy : (Lit.int .i64 y).wf = true) (wz : (Lit.int .i64 z).wf = true) (a : Option Addr) (len cap : Nat) (hs : StructRow w 4 a len cap) (a2 : Option Addr) (len2 cap2 : Nat) (hs2 : StructRow w 5 a2 len2 cap2) :
    Calls Try.prog 5 #[.agg #[.int .i64 x, .int .i64 y, .int .i64 z, .slice a len cap], .slice a2 len2 cap2] w fun e w' => e = .returned (.bool true) ∧ Below w.heap.size w w' := by
  obtain ⟨xs, e1, _, r1⟩ := hs.rwsA
  obtain ⟨ys, e2, o2, r2⟩ := hs2.opsA
  have b1 := hs.2.1; have b2 := hs2.2.1
  have c1 := hs.1; have c2 := hs2.1
  unfold maxLen at b1 b2
  exact law_of (SF.mono (pf_CountClauses ⟨x, y, z, xs⟩ ys ⟨wf_i wx, wf_i wy, wf_i wz⟩ (by show xs.length ≤ _; omega) (by omega) (fun i => okI_s o2 i) fun _ h => cl_len _ _ h) fun r H' h => h.1) w _ (RL.two (RL.obj r1) (.iv _ _ r2))
end Go.Proofs.Ytffoefomhggaiaa
