import Derived.Test.YtcjnikkmjhagmaaGreatDoorMgBB
import Derived.Test.YtcjnikkmjhagmaaGreatDoorMgBI
import Derived.Test.YtcjnikkmjhagmaaGreatDoorMgBA
namespace Go.Proofs.YtcjnikkmjhagmaaGreatDoor
open Go.RowKit
theorem mA_cnt (o : Ob) (l : List Op5) (i p b : Nat) : (mA o l i p b).length = if (oAt l i).e = -1 then 2 else 1 := by
  unfold mA; rw [List.length_append]; show 1 + _ = _; split <;> rfl
def mvC (l : List Op5) (i : Nat) : Nat := if (oAt l i).e = -1 then 2 else 1
theorem mB_cnt (o : Ob) (l : List Op5) (i p : Nat) : ∀ k, (mB o l i p k).length = mvC l i * k
  | 0 => by simp [mB]
  | k + 1 => by rw [mB_succ, List.length_append, mB_cnt o l i p k, mA_cnt, Nat.mul_succ]; rfl
theorem mP_cnt (o : Ob) (l : List Op5) (i : Nat) : ∀ k, (mP o l i k).length = mvC l i * (k * o.S.toNat)
  | 0 => by simp [mP]
  | k + 1 => by rw [mP_succ, List.length_append, mP_cnt o l i k, mB_cnt, ← Nat.mul_add, Nat.succ_mul]
def mvN1 (l : List Op5) (P : Nat) (i : Nat) : Nat := if (oAt l i).e = -1 then 2 * P else 1 + P
def mvNs (l : List Op5) (P : Nat) : Nat → Nat
  | 0 => 0
  | k + 1 => mvNs l P k + mvN1 l P k
theorem mI_cnt (o : Ob) (l : List Op5) (i : Nat) : (mI o l i).length = mvN1 l (l.length * o.S.toNat) i := by
  unfold mI mvN1
  rw [List.length_append, mP_cnt]; unfold mvC
  split
  · show 0 + _ = _; omega
  · show 1 + _ = _; omega
theorem mCl_cnt (o : Ob) (l : List Op5) : ∀ k, (mCl o l k).length = mvNs l (l.length * o.S.toNat) k
  | 0 => rfl
  | k + 1 => by rw [mCl_succ, List.length_append, mCl_cnt o l k, mI_cnt]; rfl
theorem mvNs_le (l : List Op5) (P : Nat) : ∀ k, mvNs l P k ≤ k * (2 * P + 1)
  | 0 => Nat.zero_le _
  | k + 1 => by
    have := mvNs_le l P k
    have h : mvN1 l P k ≤ 2 * P + 1 := by unfold mvN1; split <;> omega
    show mvNs l P k + mvN1 l P k ≤ _
    rw [Nat.succ_mul]; omega
def shR (R : List (List Int)) : Prop := ∀ r ∈ R, 1 ≤ r.length ∧ r.length ≤ 4
theorem mRes_len (o : Ob) (l : List Op5) : (mRes o l).length ≤ 1000000 := by
  unfold mRes; split
  · rename_i h
    obtain ⟨hm, hl, h1, h2⟩ := m_nOk h
    rw [mCl_cnt]
    have h3 := mvNs_le l (l.length * o.S.toNat) l.length
    have h4 : l.length * o.S.toNat ≤ 64 * 32 := Nat.mul_le_mul hl (by omega)
    have h5 : l.length * (2 * (l.length * o.S.toNat) + 1) ≤ 64 * (2 * (64 * 32) + 1) := Nat.mul_le_mul hl (by omega)
    omega
  · exact Nat.zero_le _
end Go.Proofs.YtcjnikkmjhagmaaGreatDoor
namespace Go.Proofs.YtcjnikkmjhagmaaGreatDoor
open Go.RowKit
theorem mvNs_cnt (l : List Op5) (P : Nat) : ∀ k, mvNs l P k = (k - (oPends l k).length) * (1 + P) + (oPends l k).length * (2 * P)
  | 0 => by simp [mvNs, oPends]
  | k + 1 => by
    have ih := mvNs_cnt l P k
    have hl := oPends_len l k
    show mvNs l P k + mvN1 l P k = _
    rw [ih, oPends_succ]
    unfold mvN1
    split
    · rw [List.length_append, List.length_singleton, Nat.add_mul (oPends l k).length 1]
      rw [show k + 1 - ((oPends l k).length + 1) = k - (oPends l k).length by omega]; omega
    · rw [show k + 1 - (oPends l k).length = (k - (oPends l k).length) + 1 by omega, Nat.add_mul (k - (oPends l k).length) 1]; omega
theorem ob_init {o : Ob} (h : obE o = 0) : 0 ≤ o.I ∧ o.I < o.S := by
  unfold obE at h
  by_cases h1 : obHead o
  · unfold obHead at h1; omega
  · rw [if_neg h1] at h; cases h
theorem cl_len (o : Ob) (l : List Op5) (hl : l.length ≤ 40) : ClLen o l := by
  by_cases hok : nOk (mN o l) (mS o l)
  · obtain ⟨hm, h1, h2, h3⟩ := m_nOk hok
    obtain ⟨e1, e2⟩ := m_yes hm
    have hS : ∃ S : Nat, o.S = S := ⟨o.S.toNat, by omega⟩
    obtain ⟨S, hS⟩ := hS
    have hres : mRes o l = mCl o l l.length := by unfold mRes; rw [if_pos hok]
    have hmv := mCl_cnt o l l.length
    rw [← hres, mvNs_cnt] at hmv
    rw [e1, e2] at hok
    have htm := tmL_cnt hm.2 hok
    have hpl := plCl_len l.length o.S
    have hst := stL_len l.length o.S o.I fun _ => ob_init hm.1
    have hple := pairs_le l l.length
    have hll : l.length * l.length ≤ 40 * 40 := Nat.mul_le_mul hl hl
    have hpr : prN l ≤ 1600 := by unfold prN; omega
    have hpn := oPends_len l l.length
    have ht : qT l.length o.S (prN l) = ((prN l * tri l.length : Nat) : Int) := by
      unfold qT; rw [if_pos ⟨hok, by omega⟩, Int.toNat_natCast]; unfold cTm; rw [Int.mul_comm]; push_cast; rfl
    have hq : qM l.length o.S (enN l) = ((mRes o l).length : Int) := by
      have he : enN l ≤ l.length := by unfold enN; omega
      have hp : (oPends l l.length).length = l.length - enN l := by unfold enN; omega
      unfold qM; rw [if_pos ⟨hok, by omega⟩, Int.toNat_natCast, hmv, hp]
      rw [show l.length - (l.length - enN l) = enN l by omega, hS, Int.toNat_natCast]
      unfold cMv
      rw [← Int.natCast_sub he]
      push_cast
      rw [Int.mul_assoc ((l.length - enN l : Nat) : Int) 2]
    have b1 := qT_lim l.length o.S (prN l)
    have b2 := qM_lim l.length o.S (enN l)
    rw [ht, ← htm] at b1
    rw [hq] at b2
    refine ⟨by rw [e1, e2]; exact hpl, by rw [e1, e2]; exact hst, by rw [e1, e2]; omega, by omega, ?_, fun h => absurd (by rw [e1, e2]; exact hok) h⟩
    rw [e1, e2]
    unfold cAll
    rw [if_pos ⟨hm.2, hok, rfl⟩, hpl, hst, htm, ht, hq]
  · have hres : mRes o l = [] := by unfold mRes; rw [if_neg hok]
    have ht : tmL (mN o l) (mS o l) (oPairL l l.length) (prN l) = [] := by unfold tmL; rw [if_neg hok]
    have hp : plCl (mN o l) (mS o l) = [] := by unfold plCl; rw [if_neg hok]
    have hs : stL (mN o l) (mS o l) o.I = [] := by unfold stL; rw [if_neg fun h => hok h.1]
    refine ⟨plCl_len _ _, stL_len _ _ _ fun h => absurd h hok, by rw [ht]; decide, by rw [hres]; decide, ?_, fun h => cAll_no h⟩
    rw [hp, ht, hs, hres, cAll_no hok]; rfl
end Go.Proofs.YtcjnikkmjhagmaaGreatDoor
namespace Go.Proofs.YtcjnikkmjhagmaaGreatDoor
open Go.RowKit
set_option linter.unusedVariables false
set_option linter.unusedSimpArgs false
set_option maxRecDepth 100000 in
set_option maxHeartbeats 1000000 in
theorem pf_sameInts (xs ys : List Int) (hx : xs.length ≤ 1000000) (hy : ys.length ≤ 1000000) : PF Tryz.prog 48 [.iv (iInts xs), .iv (iInts ys)] fun r H' => r = lt (.bool (decide (xs = ys))) ∧ H' = [] := by
  refine SF.forgetAll ?_
  (refine SF_of_bodyX (aload tt) (aload_ok tyOK) Tryz.func48 rfl (by kernel_rfl) ?_; simp only [Tryz.ntmps48, List.length_cons, List.length_nil, Nat.reduceAdd, Nat.reduceSub, List.replicate_succ, List.replicate_zero, List.cons_append, List.nil_append])
  unfold iInts
  by_cases hl : xs.length = ys.length
  · (repeat (first | (first | (with_reducible first | refine AX_block ?_ | refine AX_skip ?_ | refine AX_exit ?_ | refine AX_ret ?_ | refine AX_ift ?_ | refine AX_iff ?_ | refine AX_seq_k (fun K hK => ?_) | refine ContX.use (by assumption) ?_) | simp only [thenX, inBlockX, if_true, if_false, reduceCtorEq]) | (first | ((with_reducible first | refine XOP tyOK ?_ | refine AOP tyOK ?_); simp (maxSteps := 2000000) (disch := omega) only [go_sem , List.length_nil]; (with_reducible first | refine XRes_id ?_ | refine ADF_id ?_)) | ((with_reducible first | refine XSK ?_ | refine ASK ?_); (simp only [putL, List.set_cons_succ, List.set_cons_zero]))) | ((first | (with_reducible refine XRes_nil ?_) | (with_reducible refine ADF_nil ?_)); (first | refine hK _ ?_ | refine hK _ _ ?_); clear hK K) | ((first | (with_reducible refine AX_reg0 fun K hK => ?_) | (refine AX_drawG1 tyOK (by kernel_rfl) (by rfl) (by kernel_rfl) fun K hK => ?_)); simp only [go_sem]) | fail))
    (refine AX_wh (σ := Nat) [11, 12, 13, 14, 17, 18, 19, 20, 21, 22, 23, 24, 25, 4, 15, 16] (fun k => [(5, lint k)]) (fun k => []) (fun k => []) (fun k => k ≤ xs.length ∧ ∀ i, i < k → xs.getD i 0 = ys.getD i 0) (fun k => xs.length - k) 0 (fun d => by first | ((simp only [deadS, updS, List.set_cons_succ, List.set_cons_zero, lint, List.length_nil, List.length_cons]); done) | ((simp only [deadS, updS, List.set_cons_succ, List.set_cons_zero, lint, List.length_nil, List.length_cons]); rfl) | rfl) (by first | (with_reducible rfl) | (simp only [hinit]; done) | rfl) (by first | (with_reducible rfl) | rfl) (by first | exact ⟨Nat.zero_le _, fun i h => absurd h (by omega)⟩) ?_; rintro k d fr hfr ⟨hk, hp⟩; simp only [updS, deadS, List.set_cons_succ, List.set_cons_zero, lint] at hfr; subst hfr; (try dsimp only))
    (repeat' (first | (first | (with_reducible first | refine AX_block ?_ | refine AX_skip ?_ | refine AX_exit ?_ | refine AX_ret ?_ | refine AX_ift ?_ | refine AX_iff ?_ | refine AX_seq_k (fun K hK => ?_) | refine ContX.use (by assumption) ?_) | simp only [thenX, inBlockX, if_true, if_false, reduceCtorEq]) | (first | ((with_reducible first | refine XOP tyOK ?_ | refine AOP tyOK ?_); simp (maxSteps := 2000000) (disch := omega) only [go_sem , List.length_nil]; (with_reducible first | refine XRes_id ?_ | refine ADF_id ?_)) | ((with_reducible first | refine XSK ?_ | refine ASK ?_); (simp only [putL, List.set_cons_succ, List.set_cons_zero]))) | ((first | (with_reducible refine XRes_nil ?_) | (with_reducible refine ADF_nil ?_)); (first | refine hK _ ?_ | refine hK _ _ ?_); clear hK K) | ((first | (with_reducible refine AX_reg0 fun K hK => ?_) | (refine AX_drawG1 tyOK (by kernel_rfl) (by rfl) (by kernel_rfl) fun K hK => ?_)); simp only [go_sem]) | fail | ((first | (refine XRes_splitG (by rfl) (fun hc => ?_) (fun hc => ?_)) | (refine ADF_splitG (by rfl) (fun hc => ?_) (fun hc => ?_))) <;> (try simp only [eqRes, List.cons_beq_cons, Bool.and_eq_true, Bool.not_eq_true, Bool.and_eq_false_iff, decide_eq_true_eq, decide_eq_false_iff_not, bne_iff_ne, beq_iff_eq, bne_eq_false_iff_eq, beq_eq_false_iff_ne, Bool.not_eq_true', Bool.not_eq_false', ne_eq, Int.not_lt, Int.not_le, Decidable.not_not] at hc) <;> simp only [List.set_cons_succ, List.set_cons_zero]) | (first | ((with_reducible refine AX_if_t ?_ ?_); focus (simp (maxSteps := 2000000) (disch := omega) only [go_sem , List.length_nil]; done)) | ((with_reducible refine AX_if_f ?_ ?_); focus (simp (maxSteps := 2000000) (disch := omega) only [go_sem , List.length_nil]; done)) | (refine AX_cond _ (by rfl) (fun hc => ?_) (fun hc => ?_) <;> (try simp only [eqRes, List.cons_beq_cons, Bool.and_eq_true, Bool.not_eq_true, Bool.and_eq_false_iff, decide_eq_true_eq, decide_eq_false_iff_not, bne_iff_ne, beq_iff_eq, bne_eq_false_iff_eq, beq_eq_false_iff_ne, Bool.not_eq_true', Bool.not_eq_false', ne_eq, Int.not_lt, Int.not_le, Decidable.not_not] at hc)))))
    · (simp only [bodyX]; refine ⟨_, by simp only [aresults, aresult, XS.as, Tryz.results48, aload, go_sem, Option.bind_some]; rfl, ?_⟩)
      exact ⟨.iv _, (by rw [decide_eq_false]; intro e; subst e; exact hc rfl), trivial⟩
    · exact whx_end (k + 1) ⟨by omega, fun i hi => by
        rcases Nat.lt_or_ge i k with h | h
        · exact hp i h
        · rw [show i = k by omega]; exact hc⟩ (by (first | omega | (dsimp only; omega) | (simp only; omega))) rfl (by first | rfl | (simp (maxSteps := 2000000) (disch := omega) only [go_sem, lint])) (fun d => by first | ((simp only [deadS, updS, List.set_cons_succ, List.set_cons_zero, lint, List.length_nil, List.length_cons]); done) | ((simp only [deadS, updS, List.set_cons_succ, List.set_cons_zero, lint, List.length_nil, List.length_cons]); rfl) | rfl)
    · (simp only [bodyX]; refine ⟨_, by simp only [aresults, aresult, XS.as, Tryz.results48, aload, go_sem, Option.bind_some]; rfl, ?_⟩)
      refine ⟨.iv _, (by
        rw [decide_eq_true]
        apply List.ext_getElem hl
        intro i h1 h2
        have := hp i (by omega)
        simpa [List.getD, h1, h2] using this), trivial⟩
  · (repeat' (first | (first | (with_reducible first | refine AX_block ?_ | refine AX_skip ?_ | refine AX_exit ?_ | refine AX_ret ?_ | refine AX_ift ?_ | refine AX_iff ?_ | refine AX_seq_k (fun K hK => ?_) | refine ContX.use (by assumption) ?_) | simp only [thenX, inBlockX, if_true, if_false, reduceCtorEq]) | (first | ((with_reducible first | refine XOP tyOK ?_ | refine AOP tyOK ?_); simp (maxSteps := 2000000) (disch := omega) only [go_sem , List.length_nil]; (with_reducible first | refine XRes_id ?_ | refine ADF_id ?_)) | ((with_reducible first | refine XSK ?_ | refine ASK ?_); (simp only [putL, List.set_cons_succ, List.set_cons_zero]))) | ((first | (with_reducible refine XRes_nil ?_) | (with_reducible refine ADF_nil ?_)); (first | refine hK _ ?_ | refine hK _ _ ?_); clear hK K) | ((first | (with_reducible refine AX_reg0 fun K hK => ?_) | (refine AX_drawG1 tyOK (by kernel_rfl) (by rfl) (by kernel_rfl) fun K hK => ?_)); simp only [go_sem]) | fail | ((first | (refine XRes_splitG (by rfl) (fun hc => ?_) (fun hc => ?_)) | (refine ADF_splitG (by rfl) (fun hc => ?_) (fun hc => ?_))) <;> (try simp only [eqRes, List.cons_beq_cons, Bool.and_eq_true, Bool.not_eq_true, Bool.and_eq_false_iff, decide_eq_true_eq, decide_eq_false_iff_not, bne_iff_ne, beq_iff_eq, bne_eq_false_iff_eq, beq_eq_false_iff_ne, Bool.not_eq_true', Bool.not_eq_false', ne_eq, Int.not_lt, Int.not_le, Decidable.not_not] at hc) <;> simp only [List.set_cons_succ, List.set_cons_zero]) | (first | ((with_reducible refine AX_if_t ?_ ?_); focus (simp (maxSteps := 2000000) (disch := omega) only [go_sem , List.length_nil]; done)) | ((with_reducible refine AX_if_f ?_ ?_); focus (simp (maxSteps := 2000000) (disch := omega) only [go_sem , List.length_nil]; done)) | (refine AX_cond _ (by rfl) (fun hc => ?_) (fun hc => ?_) <;> (try simp only [eqRes, List.cons_beq_cons, Bool.and_eq_true, Bool.not_eq_true, Bool.and_eq_false_iff, decide_eq_true_eq, decide_eq_false_iff_not, bne_iff_ne, beq_iff_eq, bne_eq_false_iff_eq, beq_eq_false_iff_ne, Bool.not_eq_true', Bool.not_eq_false', ne_eq, Int.not_lt, Int.not_le, Decidable.not_not] at hc)))))
    (simp only [bodyX]; refine ⟨_, by simp only [aresults, aresult, XS.as, Tryz.results48, aload, go_sem, Option.bind_some]; rfl, ?_⟩)
    exact ⟨.iv _, (by rw [decide_eq_false]; intro e; subst e; exact hl rfl), trivial⟩
end Go.Proofs.YtcjnikkmjhagmaaGreatDoor
