import Derived.Test.YtcjnikkmjhagmaaGreatDoorMgBR
import Derived.Test.YtcjnikkmjhagmaaGreatDoorMgBF
import Derived.Test.YtcjnikkmjhagmaaGreatDoorMgAY
import Derived.Test.YtcjnikkmjhagmaaGreatDoorMgAZ
import Derived.Test.YtcjnikkmjhagmaaGreatDoorMgBM
import Derived.Test.YtcjnikkmjhagmaaGreatDoorMgBP
import Derived.Test.YtcjnikkmjhagmaaGreatDoorMgBJ
import Derived.Test.YtcjnikkmjhagmaaGreatDoorMgBO
namespace Go.Proofs.YtcjnikkmjhagmaaGreatDoor
open Go.RowKit
set_option linter.unusedVariables false
set_option linter.unusedSimpArgs false
theorem pf_rPairsN (l : List Op5) (hl : l.length ≤ 100) : PF Tryz.prog 34 [.iv (iOps l)] fun r H' => r = .iv (iFlat (oPairL l l.length) (prN l) 2) ∧ H' = [] :=
  SF.mono (pf_rPairs l hl) fun r H' ⟨n, h1, h2, h3⟩ => by
    have e : n = prN l := by unfold prN; omega
    subst e; exact ⟨h2, h3⟩
theorem cAll_ok {n m : Int} {l : List Op5} (h : cAll n m l ≠ 0) : nOk n m := by
  unfold cAll at h
  by_cases g : oCE l = 0 ∧ nOk n m ∧ (l.length : Int) = n
  · exact g.2.1
  · rw [if_neg g] at h; exact absurd rfl h
theorem Wfb2da {A B : Prop} (h9 : B) (w : B → A := by (intro h9; (repeat intro K hK); refine ⟨?_⟩; (repeat (first | (first | (with_reducible first | refine AX_block ?_ | refine AX_skip ?_ | refine AX_exit ?_ | refine AX_ret ?_ | refine AX_ift ?_ | refine AX_iff ?_ | refine AX_seq_k (fun K hK => ?_) | refine ContX.use (by assumption) ?_) | simp only [thenX, inBlockX, if_true, if_false, reduceCtorEq]) | (first | ((with_reducible first | refine XOP tyOK ?_ | refine AOP tyOK ?_); simp (disch := omega) only [go_sem , szG, iOps, iFlat, iInts, eqRes, Int.toNat_zero, Int.toNat_one, hs1, hs2, hs3, rows_one, rows_take, List.length_nil]; (with_reducible first | refine XRes_id ?_ | refine ADF_id ?_)) | (with_reducible first | refine XSK ?_ | refine ASK ?_)) | ((first | (with_reducible refine XRes_nil ?_) | (with_reducible refine ADF_nil ?_)); (first | refine hK _ ?_ | refine hK _ _ ?_); clear hK K) | ((first | (with_reducible refine AX_reg0 fun K hK => ?_) | (refine AX_drawG1 tyOK (by kernel_rfl) (by rfl) (by kernel_rfl) fun K hK => ?_)); simp only [go_sem]) | (first | (first | refine XTL (by rfl) hO ?_ | refine ATL tyOK (by rfl) hO ?_ | refine XTL (by rfl) hCk ?_ | refine ATL tyOK (by rfl) hCk ?_ | refine XTL (by rfl) hE ?_ | refine ATL tyOK (by rfl) hE ?_ | refine XTL (by rfl) hP ?_ | refine ATL tyOK (by rfl) hP ?_ | refine XTL (by rfl) hPr ?_ | refine ATL tyOK (by rfl) hPr ?_ | refine XTL (by rfl) hT ?_ | refine ATL tyOK (by rfl) hT ?_ | refine XTL (by rfl) hS ?_ | refine ATL tyOK (by rfl) hS ?_ | refine XTL (by rfl) hM ?_ | refine ATL tyOK (by rfl) hM ?_ | refine XTL (by rfl) hA ?_ | refine ATL tyOK (by rfl) hA ?_)))); refine Wk.o ?_; (repeat revert hK K); exact h9)) : A := w h9
set_option maxRecDepth 100000 in
set_option maxHeartbeats 1000000 in
theorem pf_rAll (n m : Int) (l : List Op5) (hl : l.length ≤ 100) : PF Tryz.prog 116 [lt (.int .i64 n), lt (.int .i64 m), .iv (iOps l)] fun r H' => r = lt (.int .i64 (cAll n m l)) ∧ H' = [] := by
  refine SF.forgetAll ?_
  have hs1 := trivial; have hs2 := trivial; have hs3 := trivial; have hA := trivial
  have hO := pf_rOChk l (by omega)
  have hCk := pf_r31Check n m
  have hE := pf_rPending l (by omega)
  have hPr := pf_rPairsN l hl
  have hpl := oPends_len l l.length
  have hen : (enN l : Int) = (l.length : Int) - ((oPends l l.length).length : Int) := by unfold enN; omega
  have hpr : prN l ≤ 1000000000 := by have := pairs_le l l.length; have h2 : l.length * l.length ≤ 100 * 100 := Nat.mul_le_mul hl hl; unfold prN; omega
  by_cases h1 : oCE l = 0
  · by_cases h2 : nOk n m
    · rw [nCheck_yes h2] at hCk
      by_cases h3 : (l.length : Int) = n
      · have e : cAll n m l = qP n m + qT n m (prN l) + qS n m + qM n m (enN l) := by unfold cAll; rw [if_pos ⟨h1, h2, h3⟩]
        rw [e]
        rw [h1] at hO
        have hP : PF Tryz.prog 125 [lt (.int .i64 n), lt (.int .i64 m)] fun r H' => r = lt (.int .i64 (qP n m)) ∧ H' = [] := pf_rPlaces n m
        have hT : PF Tryz.prog 126 [lt (.int .i64 n), lt (.int .i64 m), lt (.int .i64 (prN l))] fun r H' => r = lt (.int .i64 (qT n m (prN l))) ∧ H' = [] := pf_rTimes n m (prN l)
        have hS : PF Tryz.prog 127 [lt (.int .i64 n), lt (.int .i64 m)] fun r H' => r = lt (.int .i64 (qS n m)) ∧ H' = [] := pf_rStates n m
        have hM : PF Tryz.prog 128 [lt (.int .i64 n), lt (.int .i64 m), lt (.int .i64 (enN l))] fun r H' => r = lt (.int .i64 (qM n m (enN l))) ∧ H' = [] := pf_rMoves n m (enN l)
        rw [hen] at hM
        have l1 := qP_lim n m
        have l2 := qT_lim n m (prN l)
        have l3 := qS_lim n m
        have l4 := qM_lim n m (enN l)
        subst h3
        generalize qP (l.length : Int) m = a at *
        generalize qT (l.length : Int) m (prN l) = b at *
        generalize qS (l.length : Int) m = c at *
        generalize qM (l.length : Int) m (enN l) = d at *
        (refine SF_of_bodyX (aload tt) (aload_ok tyOK) Tryz.func116 rfl (by kernel_rfl) ?_; simp only [Tryz.ntmps116, List.length_cons, List.length_nil, Nat.reduceAdd, Nat.reduceSub, List.replicate_succ, List.replicate_zero, List.cons_append, List.nil_append])
        (refine Wk.o ?_; (repeat revert hK K); refine Wfb2da ?_; (repeat intro K hK); refine ⟨?_⟩)
        (simp only [bodyX]; refine ⟨_, by simp only [aresults, aresult, XS.as, Tryz.results116, aload, go_sem, Option.bind_some]; rfl, ?_⟩)
        exact ⟨.iv _, rfl, trivial⟩
      · have e : cAll n m l = 0 := by unfold cAll; rw [if_neg fun h => h3 h.2.2]
        rw [e]
        rw [h1] at hO
        have hP := trivial; have hT := trivial; have hS := trivial; have hM := trivial
        (refine SF_of_bodyX (aload tt) (aload_ok tyOK) Tryz.func116 rfl (by kernel_rfl) ?_; simp only [Tryz.ntmps116, List.length_cons, List.length_nil, Nat.reduceAdd, Nat.reduceSub, List.replicate_succ, List.replicate_zero, List.cons_append, List.nil_append])
        (refine Wk.o ?_; (repeat revert hK K); refine Wfb2da ?_; (repeat intro K hK); refine ⟨?_⟩)
        (simp only [bodyX]; refine ⟨_, by simp only [aresults, aresult, XS.as, Tryz.results116, aload, go_sem, Option.bind_some]; rfl, ?_⟩)
        exact ⟨.iv _, rfl, trivial⟩
    · rw [nCheck_no h2] at hCk
      have e : cAll n m l = 0 := by unfold cAll; rw [if_neg fun h => h2 h.2.1]
      rw [e]
      rw [h1] at hO
      have hP := trivial; have hT := trivial; have hS := trivial; have hM := trivial
      (refine SF_of_bodyX (aload tt) (aload_ok tyOK) Tryz.func116 rfl (by kernel_rfl) ?_; simp only [Tryz.ntmps116, List.length_cons, List.length_nil, Nat.reduceAdd, Nat.reduceSub, List.replicate_succ, List.replicate_zero, List.cons_append, List.nil_append])
      (refine Wk.o ?_; (repeat revert hK K); refine Wfb2da ?_; (repeat intro K hK); refine ⟨?_⟩)
      (simp only [bodyX]; refine ⟨_, by simp only [aresults, aresult, XS.as, Tryz.results116, aload, go_sem, Option.bind_some]; rfl, ?_⟩)
      exact ⟨.iv _, rfl, trivial⟩
  · have e : cAll n m l = 0 := by unfold cAll; rw [if_neg fun h => h1 h.1]
    rw [e]
    have hP := trivial; have hT := trivial; have hS := trivial; have hM := trivial
    (refine SF_of_bodyX (aload tt) (aload_ok tyOK) Tryz.func116 rfl (by kernel_rfl) ?_; simp only [Tryz.ntmps116, List.length_cons, List.length_nil, Nat.reduceAdd, Nat.reduceSub, List.replicate_succ, List.replicate_zero, List.cons_append, List.nil_append])
    (refine Wk.o ?_; (repeat revert hK K); refine Wfb2da ?_; (repeat intro K hK); refine ⟨?_⟩)
    (simp only [bodyX]; refine ⟨_, by simp only [aresults, aresult, XS.as, Tryz.results116, aload, go_sem, Option.bind_some]; rfl, ?_⟩)
    exact ⟨.iv _, rfl, trivial⟩
set_option maxRecDepth 100000 in
set_option maxHeartbeats 1000000 in
theorem pf_rFits (n m : Int) (l : List Op5) (hl : l.length ≤ 100) : PF Tryz.prog 84 [lt (.int .i64 n), lt (.int .i64 m), .iv (iOps l)] fun r H' => r = lt (.int .i64 (cFits n m l)) ∧ H' = [] := by
  refine SF.forgetAll ?_
  have hs1 := trivial; have hs2 := trivial; have hs3 := trivial
  have hO := trivial; have hCk := trivial; have hE := trivial; have hPr := trivial
  have hP := trivial; have hT := trivial; have hS := trivial; have hM := trivial
  have hA := pf_rAll n m l hl
  have hb := cAll_lim n m l
  have hok := cAll_ok (n := n) (m := m) (l := l)
  unfold cFits
  generalize cAll n m l = A at *
  by_cases h1 : A = 0
  · rw [if_pos h1]
    (refine SF_of_bodyX (aload tt) (aload_ok tyOK) Tryz.func84 rfl (by kernel_rfl) ?_; simp only [Tryz.ntmps84, List.length_cons, List.length_nil, Nat.reduceAdd, Nat.reduceSub, List.replicate_succ, List.replicate_zero, List.cons_append, List.nil_append])
    (refine Wk.o ?_; (repeat revert hK K); refine Wfb2da ?_; (repeat intro K hK); refine ⟨?_⟩)
    (simp only [bodyX]; refine ⟨_, by simp only [aresults, aresult, XS.as, Tryz.results84, aload, go_sem, Option.bind_some]; rfl, ?_⟩)
    exact ⟨.iv _, rfl, trivial⟩
  · rw [if_neg h1]
    have hok := hok h1
    by_cases h2 : 500000 < A
    · rw [if_pos (.inl h2)]
      (refine SF_of_bodyX (aload tt) (aload_ok tyOK) Tryz.func84 rfl (by kernel_rfl) ?_; simp only [Tryz.ntmps84, List.length_cons, List.length_nil, Nat.reduceAdd, Nat.reduceSub, List.replicate_succ, List.replicate_zero, List.cons_append, List.nil_append])
      (refine Wk.o ?_; (repeat revert hK K); refine Wfb2da ?_; (repeat intro K hK); refine ⟨?_⟩)
      (simp only [bodyX]; refine ⟨_, by simp only [aresults, aresult, XS.as, Tryz.results84, aload, go_sem, Option.bind_some]; rfl, ?_⟩)
      exact ⟨.iv _, rfl, trivial⟩
    · have hsq := nOk_sq hok
      have hst := nOk_st hok
      have hV : nVars n m = n * n + n + (n + 1) * m := by unfold nVars; rw [if_pos hok]; rfl
      have hn : 0 ≤ n ∧ n ≤ 64 := by unfold nOk at hok; omega
      have hm : 0 ≤ m ∧ m ≤ 32 := by unfold nOk at hok; omega
      rw [hV]
      clear hV hok
      by_cases h3 : 900 < n * n + n + (n + 1) * m
      · rw [if_pos (.inr h3)]
        (refine SF_of_bodyX (aload tt) (aload_ok tyOK) Tryz.func84 rfl (by kernel_rfl) ?_; simp only [Tryz.ntmps84, List.length_cons, List.length_nil, Nat.reduceAdd, Nat.reduceSub, List.replicate_succ, List.replicate_zero, List.cons_append, List.nil_append])
        (refine Wk.o ?_; (repeat revert hK K); refine Wfb2da ?_; (repeat intro K hK); refine ⟨?_⟩)
        (simp only [bodyX]; refine ⟨_, by simp only [aresults, aresult, XS.as, Tryz.results84, aload, go_sem, Option.bind_some]; rfl, ?_⟩)
        exact ⟨.iv _, rfl, trivial⟩
      · rw [if_neg (by omega)]
        (refine SF_of_bodyX (aload tt) (aload_ok tyOK) Tryz.func84 rfl (by kernel_rfl) ?_; simp only [Tryz.ntmps84, List.length_cons, List.length_nil, Nat.reduceAdd, Nat.reduceSub, List.replicate_succ, List.replicate_zero, List.cons_append, List.nil_append])
        (refine Wk.o ?_; (repeat revert hK K); refine Wfb2da ?_; (repeat intro K hK); refine ⟨?_⟩)
        (simp only [bodyX]; refine ⟨_, by simp only [aresults, aresult, XS.as, Tryz.results84, aload, go_sem, Option.bind_some]; rfl, ?_⟩)
        exact ⟨.iv _, rfl, trivial⟩
end Go.Proofs.YtcjnikkmjhagmaaGreatDoor
namespace Go.Proofs.YtcjnikkmjhagmaaGreatDoor
open Go.RowKit
set_option linter.unusedVariables false
set_option linter.unusedSimpArgs false
theorem W288fa {A B : Prop} (h9 : B) (w : B → A := by (intro h9; (repeat intro K hK); refine ⟨?_⟩; (repeat (first | (first | (with_reducible first | refine AX_block ?_ | refine AX_skip ?_ | refine AX_exit ?_ | refine AX_ret ?_ | refine AX_ift ?_ | refine AX_iff ?_ | refine AX_seq_k (fun K hK => ?_) | refine ContX.use (by assumption) ?_) | simp only [thenX, inBlockX, if_true, if_false, reduceCtorEq]) | (first | ((with_reducible first | refine XOP tyOK ?_ | refine AOP tyOK ?_); simp (disch := omega) only [go_sem , iOps, iFlat, hs1, hs2]; (with_reducible first | refine XRes_id ?_ | refine ADF_id ?_)) | (with_reducible first | refine XSK ?_ | refine ASK ?_)) | ((first | (with_reducible refine XRes_nil ?_) | (with_reducible refine ADF_nil ?_)); (first | refine hK _ ?_ | refine hK _ _ ?_); clear hK K) | ((first | (with_reducible refine AX_reg0 fun K hK => ?_) | (refine AX_drawG1 tyOK (by kernel_rfl) (by rfl) (by kernel_rfl) fun K hK => ?_)); simp only [go_sem]) | (first | (first | refine XTL (by rfl) hB ?_ | refine ATL tyOK (by rfl) hB ?_ | refine XTL (by rfl) hO ?_ | refine ATL tyOK (by rfl) hO ?_ | refine XTL (by rfl) hF ?_ | refine ATL tyOK (by rfl) hF ?_)))); refine Wk.o ?_; (repeat revert hK K); exact h9)) : A := w h9
set_option maxRecDepth 100000 in
set_option maxHeartbeats 1000000 in
theorem pf_rError (o : Ob) (l : List Op5) (hr : o.R.length ≤ 100000) (ho : o.Ok) (hl : l.length ≤ 100000) : PF Tryz.prog 31 [obA o, .iv (iOps l)] fun r H' => r = lt (.int .i64 (eE o l)) ∧ H' = [] := by
  refine SF.forgetAll ?_
  have hs1 := trivial; have hs2 := trivial; have hF := trivial
  have hB := pf_rObCheck o hr ho
  have hO := pf_rOChk l hl
  by_cases h1 : obE o = 0
  · rw [h1] at hB
    by_cases h2 : oCE l = 0
    · rw [h2] at hO
      by_cases h3 : 64 < l.length
      · rw [show eE o l = 3 by unfold eE; rw [if_neg (fun h => h ⟨h1, h2⟩), if_pos h3]]
        (refine SF_of_bodyX (aload tt) (aload_ok tyOK) Tryz.func31 rfl (by kernel_rfl) ?_; simp only [Tryz.ntmps31, List.length_cons, List.length_nil, Nat.reduceAdd, Nat.reduceSub, List.replicate_succ, List.replicate_zero, List.cons_append, List.nil_append])
        (refine Wk.o ?_; (repeat revert hK K); refine W288fa ?_; (repeat intro K hK); refine ⟨?_⟩)
        (simp only [bodyX]; refine ⟨_, by simp only [aresults, aresult, XS.as, Tryz.results31, aload, go_sem, Option.bind_some]; rfl, ?_⟩)
        exact ⟨.iv _, rfl, trivial⟩
      · rw [show eE o l = cFits (l.length : Int) o.S l by unfold eE; rw [if_neg (fun h => h ⟨h1, h2⟩), if_neg h3, (m_yes ⟨h1, h2⟩).1, (m_yes ⟨h1, h2⟩).2]]
        have hF := pf_rFits (l.length : Int) o.S l (by omega)
        generalize cFits (l.length : Int) o.S l = F at *
        (refine SF_of_bodyX (aload tt) (aload_ok tyOK) Tryz.func31 rfl (by kernel_rfl) ?_; simp only [Tryz.ntmps31, List.length_cons, List.length_nil, Nat.reduceAdd, Nat.reduceSub, List.replicate_succ, List.replicate_zero, List.cons_append, List.nil_append])
        (refine Wk.o ?_; (repeat revert hK K); refine W288fa ?_; (repeat intro K hK); refine ⟨?_⟩)
        (simp only [bodyX]; refine ⟨_, by simp only [aresults, aresult, XS.as, Tryz.results31, aload, go_sem, Option.bind_some]; rfl, ?_⟩)
        exact ⟨.iv _, rfl, trivial⟩
    · rw [show eE o l = 2 by unfold eE; rw [if_pos (fun h => h2 h.2)]]
      (refine SF_of_bodyX (aload tt) (aload_ok tyOK) Tryz.func31 rfl (by kernel_rfl) ?_; simp only [Tryz.ntmps31, List.length_cons, List.length_nil, Nat.reduceAdd, Nat.reduceSub, List.replicate_succ, List.replicate_zero, List.cons_append, List.nil_append])
      (refine Wk.o ?_; (repeat revert hK K); refine W288fa ?_; (repeat intro K hK); refine ⟨?_⟩)
      (simp only [bodyX]; refine ⟨_, by simp only [aresults, aresult, XS.as, Tryz.results31, aload, go_sem, Option.bind_some]; rfl, ?_⟩)
      exact ⟨.iv _, rfl, trivial⟩
  · rw [show eE o l = 2 by unfold eE; rw [if_pos (fun h => h1 h.1)]]
    (refine SF_of_bodyX (aload tt) (aload_ok tyOK) Tryz.func31 rfl (by kernel_rfl) ?_; simp only [Tryz.ntmps31, List.length_cons, List.length_nil, Nat.reduceAdd, Nat.reduceSub, List.replicate_succ, List.replicate_zero, List.cons_append, List.nil_append])
    (refine Wk.o ?_; (repeat revert hK K); refine W288fa ?_; (repeat intro K hK); refine ⟨?_⟩)
    (simp only [bodyX]; refine ⟨_, by simp only [aresults, aresult, XS.as, Tryz.results31, aload, go_sem, Option.bind_some]; rfl, ?_⟩)
    exact ⟨.iv _, rfl, trivial⟩
end Go.Proofs.YtcjnikkmjhagmaaGreatDoor
namespace Go.Proofs.YtcjnikkmjhagmaaGreatDoor
open Go.RowKit
set_option linter.unusedVariables false
set_option linter.unusedSimpArgs false
section
variable {n : Nat} {m : Int} {M : List Bool}
def rcW (n : Nat) (m : Int) (M : List Bool) (k : Nat) : Nat := lastT (fun a => ptF n m M a k) n
def rcU (n : Nat) (m : Int) (M : List Bool) (k : Nat) : List Int := (List.range k).map fun i => (rcW n m M i : Int)
theorem rcU_succ (n : Nat) (m : Int) (M : List Bool) (k : Nat) : rcU n m M (k + 1) = rcU n m M k ++ [(rcW n m M k : Int)] := by unfold rcU; rw [List.range_succ, List.map_append]; rfl
theorem rcU_len (n : Nat) (m : Int) (M : List Bool) (k : Nat) : (rcU n m M k).length = k := by simp [rcU]
theorem rcU_at (n : Nat) (m : Int) (M : List Bool) {k j : Nat} (h : j < k) : (rcU n m M k).getD j 0 = rcW n m M j := by
  unfold rcU; rw [List.getD_eq_getElem?_getD, List.getElem?_map, List.getElem?_range h]; rfl
def rcG (n : Nat) (m : Int) (M : List Bool) (k : Nat) : Prop := cntT (fun a => ptF n m M a k) n = 1 ∧ ∀ j, j < k → rcW n m M j ≠ rcW n m M k
theorem rc_ord (h : ∀ k, k < n → rcG n m M k) : OrdL n (ptF n m M) (rcU n m M n) := by
  refine ⟨rcU_len n m M n, fun k hk => ?_, fun j k hj hk e => ?_⟩
  · have h1 := one_at (h k hk).1
    exact ⟨rcW n m M k, h1.1, rcU_at n m M hk, fun b hb => h1.2 b hb⟩
  · rw [rcU_at n m M hj, rcU_at n m M hk] at e
    rcases Nat.lt_trichotomy j k with h1 | h1 | h1
    · exact absurd (by omega) ((h k hk).2 j h1)
    · exact h1
    · exact absurd (by omega) ((h j hj).2 k h1)
theorem rc_of {l : List Int} (h : OrdL n (ptF n m M) l) : ∀ k, k < n → rcG n m M k := by
  have key : ∀ k, k < n → cntT (fun a => ptF n m M a k) n = 1 ∧ l.getD k 0 = rcW n m M k := fun k hk => by
    obtain ⟨a, ha, e, hm⟩ := h.2.1 k hk
    have h1 := cntT_of (B := fun a => ptF n m M a k) ha fun b hb => hm b hb
    refine ⟨h1.1, ?_⟩
    unfold rcW; rw [h1.2, e]
  intro k hk
  refine ⟨(key k hk).1, fun j hj e => ?_⟩
  have := h.2.2 j k (by omega) hk (by rw [(key j (by omega)).2, (key k hk).2, e])
  omega
theorem rc_yes (hok : nOk n m) (hl : (M.length : Int) = nVars n m) (h : ∀ k, k < n → rcG n m M k) : ooX n m M = rcU n m M n ∧ decide (ooOk n m M) = true := by
  have ho := rc_ord h
  have hg := oo_ord' ho
  have hoo : ooOk n m M := ⟨hok, hl, by rw [Int.toNat_natCast]; exact hg⟩
  refine ⟨?_, decide_eq_true hoo⟩
  rw [(oo_yes hoo).1, Int.toNat_natCast]
  exact (oo_ord hg).uniq ho
theorem rc_no {k : Nat} (hk : k < n) (h : ¬ rcG n m M k) : ¬ ooOk n m M := fun hh => by
  have hg := hh.2.2
  rw [Int.toNat_natCast] at hg
  exact h (rc_of (oo_ord hg) k hk)
end
theorem W7daea {A B : Prop} (h9 : B) (w : B → A := by (intro h9; (repeat intro K hK); refine ⟨?_⟩; (repeat (first | (first | (with_reducible first | refine AX_block ?_ | refine AX_skip ?_ | refine AX_exit ?_ | refine AX_ret ?_ | refine AX_ift ?_ | refine AX_iff ?_ | refine AX_seq_k (fun K hK => ?_) | refine ContX.use (by assumption) ?_) | simp only [thenX, inBlockX, if_true, if_false, reduceCtorEq]) | (first | ((with_reducible refine XOP tyOK ?_); simp (disch := omega) only [go_sem , iInts, iBools, hs1, hs2, hs3, hs4, rcU_len, Int.add_sub_cancel, List.length_nil]; (with_reducible refine XRes_id ?_)) | (with_reducible refine XSK ?_)) | ((with_reducible refine XRes_nil ?_); refine hK _ ?_; clear hK K) | ((with_reducible refine AX_reg0 fun K hK => ?_); simp only [go_sem]) | (first | (first | refine XTL (by rfl) hCk ?_ | refine XTL (by rfl) hAt ?_)))); refine Wk.o ?_; (repeat revert hK K); exact h9)) : A := w h9
set_option maxRecDepth 100000 in
set_option maxHeartbeats 8000000 in
theorem pf_rOrder (n m : Int) (M : List Bool) (hM : M.length ≤ 1000000) : PF Tryz.prog 43 [lt (.int .i64 n), lt (.int .i64 m), .iv (iBools M)] fun r H' => r = .tup [.iv (iInts (ooX n m M)), lt (.bool (decide (ooOk n m M)))] ∧ H' = [] := by
  refine SF.frozen ?_
  have hs1 := trivial; have hs2 := trivial; have hs3 := trivial; have hs4 := trivial; have hAt := trivial
  have hCk := pf_r31Check n m
  by_cases hok : nOk n m
  · rw [nCheck_yes hok] at hCk
    have hsq := nOk_sq hok
    have hst := nOk_st hok
    have hV : nVars n m = n * n + n + (n + 1) * m := by unfold nVars; rw [if_pos hok]; rfl
    obtain ⟨n, rfl⟩ : ∃ N : Nat, n = N := ⟨n.toNat, by unfold nOk at hok; omega⟩
    have hn : n ≤ 64 := by unfold nOk at hok; omega
    have hmb : 1 ≤ m ∧ m ≤ 32 := by unfold nOk at hok; omega
    by_cases hl : (M.length : Int) = nVars n m
    · have hl2 := hl
      rw [hV] at hl2
      have hA := fun (a k : Nat) (ha : a < n) (hk : k < n) => pf_r31At (n := n) (m := m) (a := a) (b := k) hok (by omega) (by omega) (by omega) (by omega)
      have hvb := fun (a k : Nat) (ha : a < n) (hk : k < n) => nVar_pos (nName_1 (n := n) (m := m) (a := a) (b := k) hok (by omega) (by omega) (by omega) (by omega))
      rw [← hl] at hvb
      have hyes := fun h => rc_yes (n := n) (m := m) (M := M) hok hl h
      have hnoG := fun (k : Nat) (hk : k < n) (h : ¬ rcG n m M k) => oo_no (rc_no hk h)
      generalize hq1 : (n : Int) * n = q1 at *
      generalize hq2 : ((n : Int) + 1) * m = q2 at *
      clear hV
      (refine SF_of_bodyX (aload tt) (aload_ok tyOK) Tryz.func43 rfl (by kernel_rfl) ?_; simp only [Tryz.ntmps43, List.length_cons, List.length_nil, Nat.reduceAdd, Nat.reduceSub, List.replicate_succ, List.replicate_zero, List.cons_append, List.nil_append])
      unfold iBools
      have hs1 := hq1
      have hs2 : ((n + 1 : Nat) : Int) * m = q2 := by rw [← hq2]; push_cast; rfl
      (refine Wk.o ?_; (repeat revert hK K); refine W7daea ?_; (repeat intro K hK); refine ⟨?_⟩)
      refine AX_nil 8 3 1 rfl ?_
      (refine AWH (σ := Nat) [33, 34, 35, 10, 11, 12, 38, 39, 40, 43, 44, 45, 46, 47, 48, 49, 50, 51, 52, 53, 54, 41, 42, 55, 56, 6, 7, 13, 57, 58, 59, 60, 63, 64, 65, 66, 67, 68, 61, 62, 69, 70, 71, 72, 36, 37] (fun k => [(9, lint k), (8, .osl 0 0 k 1)]) (fun k => [some ⟨3, (rcU n m M k).map lint⟩]) (fun k => []) (fun k => k ≤ n ∧ ∀ j, j < k → rcG n m M j) (fun k => n - k) 0 (by first | exact ⟨Nat.zero_le _, fun j h => absurd h (by omega)⟩) ?_; rintro k d fr hfr ⟨hk, hj⟩; simp only [updS, deadS, List.set_cons_succ, List.set_cons_zero, lint] at hfr; subst hfr; (try dsimp only))
      have hul := rcU_len n m M k
      by_cases hlt : k < n
      · (refine Wk.o ?_; (repeat revert hK K); refine W7daea ?_; (repeat intro K hK); refine ⟨?_⟩)
        (refine AWH (σ := Nat × Int × Nat) [38, 39, 40, 43, 44, 45, 46, 47, 48, 49, 50, 51, 52, 53, 54, 41, 42] (fun (a, w, c) => [(12, lint a), (10, lint w), (11, lint c)]) (fun (a, w, c) => [some ⟨3, (rcU n m M k).map lint⟩]) (fun (a, w, c) => []) (fun (a, w, c) => a ≤ n ∧ c = cntT (fun a => ptF n m M a k) a ∧ (0 < c → w = lastT (fun a => ptF n m M a k) a) ∧ c ≤ a ∧ -1 ≤ w ∧ w ≤ 64) (fun (a, w, c) => n - a) (0, -1, 0) (by first | exact ⟨Nat.zero_le _, rfl, fun h => absurd h (by decide), Nat.le_refl _, by decide, by decide⟩) ?_; rintro ⟨a, w, c⟩ d fr hfr ⟨ha, hc, hw, hca, hw1, hw2⟩; simp only [updS, deadS, List.set_cons_succ, List.set_cons_zero, lint] at hfr; subst hfr; (try dsimp only))
        by_cases hla : a < n
        · have hAt := hA a k hla hlt
          have hb := hvb a k hla hlt
          have ht0 : ptF n m M a k = M.getD (nVar n m 1 a k - 1).toNat false := rfl
          generalize nVar n m 1 a k = v at *
          cases ht : ptF n m M a k with
          | true =>
            have hs3 : M.getD (v - 1).toNat false = true := by rw [← ht0, ht]
            (refine Wk.o ?_; (repeat revert hK K); refine W7daea ?_; (repeat intro K hK); refine ⟨?_⟩)
            exact WEND (a + 1, (a : Int), c + 1) ⟨by omega, by simp only [cntT, ht, if_true, hc], fun _ => by simp only [lastT, ht, if_true], by (first | omega | (dsimp only; omega) | (simp only; omega)), by (first | omega | (dsimp only; omega) | (simp only; omega)), by (first | omega | (dsimp only; omega) | (simp only; omega))⟩ (by (first | omega | (dsimp only; omega) | (simp only; omega)))
          | false =>
            have hs3 : M.getD (v - 1).toNat false = false := by rw [← ht0, ht]
            (refine Wk.o ?_; (repeat revert hK K); refine W7daea ?_; (repeat intro K hK); refine ⟨?_⟩)
            exact WEND (a + 1, w, c) ⟨by omega, by simp only [cntT, ht, Bool.false_eq_true, if_false, hc], fun h => by simp only [lastT, ht, Bool.false_eq_true, if_false]; exact hw h, by (first | omega | (dsimp only; omega) | (simp only; omega)), by (first | omega | (dsimp only; omega) | (simp only; omega)), by (first | omega | (dsimp only; omega) | (simp only; omega))⟩ (by (first | omega | (dsimp only; omega) | (simp only; omega)))
        · obtain rfl : a = n := by omega
          by_cases h1 : c = 1
          · subst h1
            obtain rfl : w = rcW a m M k := hw (by decide)
            (refine Wk.o ?_; (repeat revert hK K); refine W7daea ?_; (repeat intro K hK); refine ⟨?_⟩)
            (refine AWH (σ := Nat) [57, 58, 59, 60, 63, 64, 65, 66, 67, 68, 6, 7, 61, 62] (fun j => [(13, lint j)]) (fun j => [some ⟨3, (rcU a m M k).map lint⟩]) (fun j => []) (fun j => j ≤ k ∧ ∀ i, i < j → rcW a m M i ≠ rcW a m M k) (fun j => k - j) 0 (by first | exact ⟨Nat.zero_le _, fun j h => absurd h (by omega)⟩) ?_; rintro j d fr hfr ⟨hjk, hji⟩; simp only [updS, deadS, List.set_cons_succ, List.set_cons_zero, lint] at hfr; subst hfr; (try dsimp only))
            by_cases hlj : j < k
            · have hs3 := rcU_at a m M hlj
              by_cases h2 : rcW a m M j = rcW a m M k
              · obtain ⟨f1, f2⟩ := hnoG k hlt fun h => h.2 j hlj h2
                generalize hr1 : rcW a m M j = r1 at *
                generalize hr2 : rcW a m M k = r2 at *
                subst h2
                (refine Wk.o ?_; (repeat revert hK K); refine W7daea ?_; (repeat intro K hK); refine ⟨?_⟩)
                (simp only [bodyX]; refine ⟨_, by simp only [aresults, aresult, XS.as, Tryz.results43, aload, go_sem, Option.bind_some]; rfl, ?_⟩)
                exact ⟨_, Snap.twoP (.iv _ _ (.nil _ _)) (.same _ (.iv _)), by (rw [f1, f2]) <;> rfl, trivial⟩
              · (refine Wk.o ?_; (repeat revert hK K); refine W7daea ?_; (repeat intro K hK); refine ⟨?_⟩)
                refine WEND (j + 1) ⟨by omega, fun i hi => ?_⟩ (by (first | omega | (dsimp only; omega) | (simp only; omega)))
                rcases Nat.lt_or_ge i j with h | h
                · exact hji i h
                · rw [show i = j by omega]; exact h2
            · obtain rfl : j = k := by omega
              have hsu := rcU_succ a m M j
              (refine Wk.o ?_; (repeat revert hK K); refine W7daea ?_; (repeat intro K hK); refine ⟨?_⟩)
              refine whx_ren [2] (j + 1) ⟨by omega, fun i hi => ?_⟩ (by (first | omega | (dsimp only; omega) | (simp only; omega))) rfl (by decide) (by decide) (by (simp (disch := omega) only [go_sem, lint])) (by (simp (disch := omega) only [go_sem, lint])) (by rw [hsu]; (simp (disch := omega) only [go_sem, lint])) (fun d => by (simp (disch := omega) only [go_sem, lint]))
              rcases Nat.lt_or_ge i j with h | h
              · exact hj i h
              · rw [show i = j by omega]; exact ⟨hc.symm, hji⟩
          · obtain ⟨f1, f2⟩ := hnoG k hlt fun h => h1 (by rw [hc]; exact h.1)
            (refine Wk.o ?_; (repeat revert hK K); refine W7daea ?_; (repeat intro K hK); refine ⟨?_⟩)
            (simp only [bodyX]; refine ⟨_, by simp only [aresults, aresult, XS.as, Tryz.results43, aload, go_sem, Option.bind_some]; rfl, ?_⟩)
            exact ⟨_, Snap.twoP (.iv _ _ (.nil _ _)) (.same _ (.iv _)), by (rw [f1, f2]) <;> rfl, trivial⟩
      · obtain rfl : k = n := by omega
        obtain ⟨f1, f2⟩ := hyes hj
        (refine Wk.o ?_; (repeat revert hK K); refine W7daea ?_; (repeat intro K hK); refine ⟨?_⟩)
        (simp only [bodyX]; refine ⟨_, by simp only [aresults, aresult, XS.as, Tryz.results43, aload, go_sem, Option.bind_some]; rfl, ?_⟩)
        exact ⟨_, Snap.twoP (snap_ints rfl hul.symm) (.same _ (.iv _)), by (rw [f1, f2]) <;> rfl, trivial⟩
    · have hno : ¬ ooOk n m M := fun h => hl h.2.1
      rw [hV] at hl
      generalize hq1 : (n : Int) * n = q1 at *
      generalize hq2 : ((n : Int) + 1) * m = q2 at *
      have hs1 := hq1
      have hs2 : ((n + 1 : Nat) : Int) * m = q2 := by rw [← hq2]; push_cast; rfl
      (refine SF_of_bodyX (aload tt) (aload_ok tyOK) Tryz.func43 rfl (by kernel_rfl) ?_; simp only [Tryz.ntmps43, List.length_cons, List.length_nil, Nat.reduceAdd, Nat.reduceSub, List.replicate_succ, List.replicate_zero, List.cons_append, List.nil_append])
      unfold iBools
      (refine Wk.o ?_; (repeat revert hK K); refine W7daea ?_; (repeat intro K hK); refine ⟨?_⟩)
      ((simp only [bodyX]; refine ⟨_, by simp only [aresults, aresult, XS.as, Tryz.results43, aload, go_sem, Option.bind_some]; rfl, ?_⟩); exact ⟨_, Snap.twoP (.iv _ _ (.nil _ _)) (.same _ (.iv _)), by (rw [(oo_no hno).1, (oo_no hno).2]) <;> rfl, trivial⟩)
  · have hno : ¬ ooOk n m M := fun h => hok h.1
    rw [nCheck_no hok] at hCk
    (refine SF_of_bodyX (aload tt) (aload_ok tyOK) Tryz.func43 rfl (by kernel_rfl) ?_; simp only [Tryz.ntmps43, List.length_cons, List.length_nil, Nat.reduceAdd, Nat.reduceSub, List.replicate_succ, List.replicate_zero, List.cons_append, List.nil_append])
    unfold iBools
    (refine Wk.o ?_; (repeat revert hK K); refine W7daea ?_; (repeat intro K hK); refine ⟨?_⟩)
    ((simp only [bodyX]; refine ⟨_, by simp only [aresults, aresult, XS.as, Tryz.results43, aload, go_sem, Option.bind_some]; rfl, ?_⟩); exact ⟨_, Snap.twoP (.iv _ _ (.nil _ _)) (.same _ (.iv _)), by (rw [(oo_no hno).1, (oo_no hno).2]) <;> rfl, trivial⟩)
end Go.Proofs.YtcjnikkmjhagmaaGreatDoor
