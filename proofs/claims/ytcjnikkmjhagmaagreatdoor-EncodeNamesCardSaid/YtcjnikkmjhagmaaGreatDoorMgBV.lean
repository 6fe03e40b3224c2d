import Derived.Test.YtcjnikkmjhagmaaGreatDoorMgBU
import Derived.Test.YtcjnikkmjhagmaaGreatDoorMgBH
import Derived.Test.YtcjnikkmjhagmaaGreatDoorMgAZ
import Derived.Test.YtcjnikkmjhagmaaGreatDoorMgBA
import Derived.Test.YtcjnikkmjhagmaaGreatDoorMgBQ
import Derived.Test.YtcjnikkmjhagmaaGreatDoorMgBT
import Derived.Test.YtcjnikkmjhagmaaGreatDoorMgBO
namespace Go.Proofs.YtcjnikkmjhagmaaGreatDoor
open Go.RowKit
set_option linter.unusedVariables false
set_option linter.unusedSimpArgs false
theorem pf_rPairsN (l : List Op5) (hl : l.length ≤ 100) : PF Tryz.prog 34 [.iv (iOps l)] fun r H' => r = .iv (iFlat (oPairL l l.length) (prN l) 2) ∧ H' = [] :=
  SF.mono (pf_rPairs l hl) fun r H' ⟨n, h1, h2, h3⟩ => by
    have e : n = prN l := by unfold prN; omega
    subst e; exact ⟨h2, h3⟩
theorem cAll_ok {n m : Int} {l : List Op5} (h : cAll n m l ≠ 0) : nOk n m := by
  unfold cAll at h
  by_cases g : oCE l = 0 ∧ nOk n m ∧ (l.length : Int) = n
  · exact g.2.1
  · rw [if_neg g] at h; exact absurd rfl h
theorem Wfb2da {A B : Prop} (h9 : B) (w : B → A := by (intro h9; (repeat intro K hK); refine ⟨?_⟩; (repeat (first | (first | (with_reducible first | refine AX_block ?_ | refine AX_skip ?_ | refine AX_exit ?_ | refine AX_ret ?_ | refine AX_ift ?_ | refine AX_iff ?_ | refine AX_seq_k (fun K hK => ?_) | refine ContX.use (by assumption) ?_) | simp only [thenX, inBlockX, if_true, if_false, reduceCtorEq]) | (first | ((with_reducible first | refine XOP tyOK ?_ | refine AOP tyOK ?_); simp (disch := omega) only [go_sem , szG, iOps, iFlat, iInts, eqRes, Int.toNat_zero, Int.toNat_one, hs1, hs2, hs3, rows_one, rows_take, List.length_nil]; (with_reducible first | refine XRes_id ?_ | refine ADF_id ?_)) | (with_reducible first | refine XSK ?_ | refine ASK ?_)) | ((first | (with_reducible refine XRes_nil ?_) | (with_reducible refine ADF_nil ?_)); (first | refine hK _ ?_ | refine hK _ _ ?_); clear hK K) | ((first | (with_reducible refine AX_reg0 fun K hK => ?_) | (refine AX_drawG1 tyOK (by kernel_rfl) (by rfl) (by kernel_rfl) fun K hK => ?_)); simp only [go_sem]) | (first | (first | refine XTL (by rfl) hO ?_ | refine ATL tyOK (by rfl) hO ?_ | refine XTL (by rfl) hCk ?_ | refine ATL tyOK (by rfl) hCk ?_ | refine XTL (by rfl) hE ?_ | refine ATL tyOK (by rfl) hE ?_ | refine XTL (by rfl) hP ?_ | refine ATL tyOK (by rfl) hP ?_ | refine XTL (by rfl) hPr ?_ | refine ATL tyOK (by rfl) hPr ?_ | refine XTL (by rfl) hT ?_ | refine ATL tyOK (by rfl) hT ?_ | refine XTL (by rfl) hS ?_ | refine ATL tyOK (by rfl) hS ?_ | refine XTL (by rfl) hM ?_ | refine ATL tyOK (by rfl) hM ?_ | refine XTL (by rfl) hA ?_ | refine ATL tyOK (by rfl) hA ?_)))); refine Wk.o ?_; (repeat revert hK K); exact h9)) : A := w h9
set_option maxRecDepth 100000 in
set_option maxHeartbeats 1000000 in
theorem pf_rAll (n m : Int) (l : List Op5) (hl : l.length ≤ 100) : PF Tryz.prog 116 [lt (.int .i64 n), lt (.int .i64 m), .iv (iOps l)] fun r H' => r = lt (.int .i64 (cAll n m l)) ∧ H' = [] := by
  refine SF.forgetAll ?_
  have hs1 := trivial; have hs2 := trivial; have hs3 := trivial; have hA := trivial
  have hO := pf_rOChk l (by omega)
  have hCk := pf_r31Check n m
  have hE := pf_rPending l (by omega)
  have hPr := pf_rPairsN l hl
  have hpl := oPends_len l l.length
  have hen : (enN l : Int) = (l.length : Int) - ((oPends l l.length).length : Int) := by unfold enN; omega
  have hpr : prN l ≤ 1000000000 := by have := pairs_le l l.length; have h2 : l.length * l.length ≤ 100 * 100 := Nat.mul_le_mul hl hl; unfold prN; omega
  by_cases h1 : oCE l = 0
  · by_cases h2 : nOk n m
    · rw [nCheck_yes h2] at hCk
      by_cases h3 : (l.length : Int) = n
      · have e : cAll n m l = qP n m + qT n m (prN l) + qS n m + qM n m (enN l) := by unfold cAll; rw [if_pos ⟨h1, h2, h3⟩]
        rw [e]
        rw [h1] at hO
        have hP : PF Tryz.prog 125 [lt (.int .i64 n), lt (.int .i64 m)] fun r H' => r = lt (.int .i64 (qP n m)) ∧ H' = [] := pf_rPlaces n m
        have hT : PF Tryz.prog 126 [lt (.int .i64 n), lt (.int .i64 m), lt (.int .i64 (prN l))] fun r H' => r = lt (.int .i64 (qT n m (prN l))) ∧ H' = [] := pf_rTimes n m (prN l)
        have hS : PF Tryz.prog 127 [lt (.int .i64 n), lt (.int .i64 m)] fun r H' => r = lt (.int .i64 (qS n m)) ∧ H' = [] := pf_rStates n m
        have hM : PF Tryz.prog 128 [lt (.int .i64 n), lt (.int .i64 m), lt (.int .i64 (enN l))] fun r H' => r = lt (.int .i64 (qM n m (enN l))) ∧ H' = [] := pf_rMoves n m (enN l)
        rw [hen] at hM
        have l1 := qP_lim n m
        have l2 := qT_lim n m (prN l)
        have l3 := qS_lim n m
        have l4 := qM_lim n m (enN l)
        subst h3
        generalize qP (l.length : Int) m = a at *
        generalize qT (l.length : Int) m (prN l) = b at *
        generalize qS (l.length : Int) m = c at *
        generalize qM (l.length : Int) m (enN l) = d at *
        (refine SF_of_bodyX (aload tt) (aload_ok tyOK) Tryz.func116 rfl (by kernel_rfl) ?_; simp only [Tryz.ntmps116, List.length_cons, List.length_nil, Nat.reduceAdd, Nat.reduceSub, List.replicate_succ, List.replicate_zero, List.cons_append, List.nil_append])
        (refine Wk.o ?_; (repeat revert hK K); refine Wfb2da ?_; (repeat intro K hK); refine ⟨?_⟩)
        (simp only [bodyX]; refine ⟨_, by simp only [aresults, aresult, XS.as, Tryz.results116, aload, go_sem, Option.bind_some]; rfl, ?_⟩)
        exact ⟨.iv _, rfl, trivial⟩
      · have e : cAll n m l = 0 := by unfold cAll; rw [if_neg fun h => h3 h.2.2]
        rw [e]
        rw [h1] at hO
        have hP := trivial; have hT := trivial; have hS := trivial; have hM := trivial
        (refine SF_of_bodyX (aload tt) (aload_ok tyOK) Tryz.func116 rfl (by kernel_rfl) ?_; simp only [Tryz.ntmps116, List.length_cons, List.length_nil, Nat.reduceAdd, Nat.reduceSub, List.replicate_succ, List.replicate_zero, List.cons_append, List.nil_append])
        (refine Wk.o ?_; (repeat revert hK K); refine Wfb2da ?_; (repeat intro K hK); refine ⟨?_⟩)
        (simp only [bodyX]; refine ⟨_, by simp only [aresults, aresult, XS.as, Tryz.results116, aload, go_sem, Option.bind_some]; rfl, ?_⟩)
        exact ⟨.iv _, rfl, trivial⟩
    · rw [nCheck_no h2] at hCk
      have e : cAll n m l = 0 := by unfold cAll; rw [if_neg fun h => h2 h.2.1]
      rw [e]
      rw [h1] at hO
      have hP := trivial; have hT := trivial; have hS := trivial; have hM := trivial
      (refine SF_of_bodyX (aload tt) (aload_ok tyOK) Tryz.func116 rfl (by kernel_rfl) ?_; simp only [Tryz.ntmps116, List.length_cons, List.length_nil, Nat.reduceAdd, Nat.reduceSub, List.replicate_succ, List.replicate_zero, List.cons_append, List.nil_append])
      (refine Wk.o ?_; (repeat revert hK K); refine Wfb2da ?_; (repeat intro K hK); refine ⟨?_⟩)
      (simp only [bodyX]; refine ⟨_, by simp only [aresults, aresult, XS.as, Tryz.results116, aload, go_sem, Option.bind_some]; rfl, ?_⟩)
      exact ⟨.iv _, rfl, trivial⟩
  · have e : cAll n m l = 0 := by unfold cAll; rw [if_neg fun h => h1 h.1]
    rw [e]
    have hP := trivial; have hT := trivial; have hS := trivial; have hM := trivial
    (refine SF_of_bodyX (aload tt) (aload_ok tyOK) Tryz.func116 rfl (by kernel_rfl) ?_; simp only [Tryz.ntmps116, List.length_cons, List.length_nil, Nat.reduceAdd, Nat.reduceSub, List.replicate_succ, List.replicate_zero, List.cons_append, List.nil_append])
    (refine Wk.o ?_; (repeat revert hK K); refine Wfb2da ?_; (repeat intro K hK); refine ⟨?_⟩)
    (simp only [bodyX]; refine ⟨_, by simp only [aresults, aresult, XS.as, Tryz.results116, aload, go_sem, Option.bind_some]; rfl, ?_⟩)
    exact ⟨.iv _, rfl, trivial⟩
set_option maxRecDepth 100000 in
set_option maxHeartbeats 1000000 in
theorem pf_rFits (n m : Int) (l : List Op5) (hl : l.length ≤ 100) : PF Tryz.prog 84 [lt (.int .i64 n), lt (.int .i64 m), .iv (iOps l)] fun r H' => r = lt (.int .i64 (cFits n m l)) ∧ H' = [] := by
  refine SF.forgetAll ?_
  have hs1 := trivial; have hs2 := trivial; have hs3 := trivial
  have hO := trivial; have hCk := trivial; have hE := trivial; have hPr := trivial
  have hP := trivial; have hT := trivial; have hS := trivial; have hM := trivial
  have hA := pf_rAll n m l hl
  have hb := cAll_lim n m l
  have hok := cAll_ok (n := n) (m := m) (l := l)
  unfold cFits
  generalize cAll n m l = A at *
  by_cases h1 : A = 0
  · rw [if_pos h1]
    (refine SF_of_bodyX (aload tt) (aload_ok tyOK) Tryz.func84 rfl (by kernel_rfl) ?_; simp only [Tryz.ntmps84, List.length_cons, List.length_nil, Nat.reduceAdd, Nat.reduceSub, List.replicate_succ, List.replicate_zero, List.cons_append, List.nil_append])
    (refine Wk.o ?_; (repeat revert hK K); refine Wfb2da ?_; (repeat intro K hK); refine ⟨?_⟩)
    (simp only [bodyX]; refine ⟨_, by simp only [aresults, aresult, XS.as, Tryz.results84, aload, go_sem, Option.bind_some]; rfl, ?_⟩)
    exact ⟨.iv _, rfl, trivial⟩
  · rw [if_neg h1]
    have hok := hok h1
    by_cases h2 : 500000 < A
    · rw [if_pos (.inl h2)]
      (refine SF_of_bodyX (aload tt) (aload_ok tyOK) Tryz.func84 rfl (by kernel_rfl) ?_; simp only [Tryz.ntmps84, List.length_cons, List.length_nil, Nat.reduceAdd, Nat.reduceSub, List.replicate_succ, List.replicate_zero, List.cons_append, List.nil_append])
      (refine Wk.o ?_; (repeat revert hK K); refine Wfb2da ?_; (repeat intro K hK); refine ⟨?_⟩)
      (simp only [bodyX]; refine ⟨_, by simp only [aresults, aresult, XS.as, Tryz.results84, aload, go_sem, Option.bind_some]; rfl, ?_⟩)
      exact ⟨.iv _, rfl, trivial⟩
    · have hsq := nOk_sq hok
      have hst := nOk_st hok
      have hV : nVars n m = n * n + n + (n + 1) * m := by unfold nVars; rw [if_pos hok]; rfl
      have hn : 0 ≤ n ∧ n ≤ 64 := by unfold nOk at hok; omega
      have hm : 0 ≤ m ∧ m ≤ 32 := by unfold nOk at hok; omega
      rw [hV]
      clear hV hok
      by_cases h3 : 900 < n * n + n + (n + 1) * m
      · rw [if_pos (.inr h3)]
        (refine SF_of_bodyX (aload tt) (aload_ok tyOK) Tryz.func84 rfl (by kernel_rfl) ?_; simp only [Tryz.ntmps84, List.length_cons, List.length_nil, Nat.reduceAdd, Nat.reduceSub, List.replicate_succ, List.replicate_zero, List.cons_append, List.nil_append])
        (refine Wk.o ?_; (repeat revert hK K); refine Wfb2da ?_; (repeat intro K hK); refine ⟨?_⟩)
        (simp only [bodyX]; refine ⟨_, by simp only [aresults, aresult, XS.as, Tryz.results84, aload, go_sem, Option.bind_some]; rfl, ?_⟩)
        exact ⟨.iv _, rfl, trivial⟩
      · rw [if_neg (by omega)]
        (refine SF_of_bodyX (aload tt) (aload_ok tyOK) Tryz.func84 rfl (by kernel_rfl) ?_; simp only [Tryz.ntmps84, List.length_cons, List.length_nil, Nat.reduceAdd, Nat.reduceSub, List.replicate_succ, List.replicate_zero, List.cons_append, List.nil_append])
        (refine Wk.o ?_; (repeat revert hK K); refine Wfb2da ?_; (repeat intro K hK); refine ⟨?_⟩)
        (simp only [bodyX]; refine ⟨_, by simp only [aresults, aresult, XS.as, Tryz.results84, aload, go_sem, Option.bind_some]; rfl, ?_⟩)
        exact ⟨.iv _, rfl, trivial⟩
end Go.Proofs.YtcjnikkmjhagmaaGreatDoor
namespace Go.Proofs.YtcjnikkmjhagmaaGreatDoor
open Go.RowKit
set_option linter.unusedVariables false
set_option linter.unusedSimpArgs false
theorem W288fa {A B : Prop} (h9 : B) (w : B → A := by (intro h9; (repeat intro K hK); refine ⟨?_⟩; (repeat (first | (first | (with_reducible first | refine AX_block ?_ | refine AX_skip ?_ | refine AX_exit ?_ | refine AX_ret ?_ | refine AX_ift ?_ | refine AX_iff ?_ | refine AX_seq_k (fun K hK => ?_) | refine ContX.use (by assumption) ?_) | simp only [thenX, inBlockX, if_true, if_false, reduceCtorEq]) | (first | ((with_reducible first | refine XOP tyOK ?_ | refine AOP tyOK ?_); simp (disch := omega) only [go_sem , iOps, iFlat, hs1, hs2]; (with_reducible first | refine XRes_id ?_ | refine ADF_id ?_)) | (with_reducible first | refine XSK ?_ | refine ASK ?_)) | ((first | (with_reducible refine XRes_nil ?_) | (with_reducible refine ADF_nil ?_)); (first | refine hK _ ?_ | refine hK _ _ ?_); clear hK K) | ((first | (with_reducible refine AX_reg0 fun K hK => ?_) | (refine AX_drawG1 tyOK (by kernel_rfl) (by rfl) (by kernel_rfl) fun K hK => ?_)); simp only [go_sem]) | (first | (first | refine XTL (by rfl) hB ?_ | refine ATL tyOK (by rfl) hB ?_ | refine XTL (by rfl) hO ?_ | refine ATL tyOK (by rfl) hO ?_ | refine XTL (by rfl) hF ?_ | refine ATL tyOK (by rfl) hF ?_)))); refine Wk.o ?_; (repeat revert hK K); exact h9)) : A := w h9
set_option maxRecDepth 100000 in
set_option maxHeartbeats 1000000 in
theorem pf_rError (o : Ob) (l : List Op5) (hr : o.R.length ≤ 100000) (ho : o.Ok) (hl : l.length ≤ 100000) : PF Tryz.prog 31 [obA o, .iv (iOps l)] fun r H' => r = lt (.int .i64 (eE o l)) ∧ H' = [] := by
  refine SF.forgetAll ?_
  have hs1 := trivial; have hs2 := trivial; have hF := trivial
  have hB := pf_rObCheck o hr ho
  have hO := pf_rOChk l hl
  by_cases h1 : obE o = 0
  · rw [h1] at hB
    by_cases h2 : oCE l = 0
    · rw [h2] at hO
      by_cases h3 : 64 < l.length
      · rw [show eE o l = 3 by unfold eE; rw [if_neg (fun h => h ⟨h1, h2⟩), if_pos h3]]
        (refine SF_of_bodyX (aload tt) (aload_ok tyOK) Tryz.func31 rfl (by kernel_rfl) ?_; simp only [Tryz.ntmps31, List.length_cons, List.length_nil, Nat.reduceAdd, Nat.reduceSub, List.replicate_succ, List.replicate_zero, List.cons_append, List.nil_append])
        (refine Wk.o ?_; (repeat revert hK K); refine W288fa ?_; (repeat intro K hK); refine ⟨?_⟩)
        (simp only [bodyX]; refine ⟨_, by simp only [aresults, aresult, XS.as, Tryz.results31, aload, go_sem, Option.bind_some]; rfl, ?_⟩)
        exact ⟨.iv _, rfl, trivial⟩
      · rw [show eE o l = cFits (l.length : Int) o.S l by unfold eE; rw [if_neg (fun h => h ⟨h1, h2⟩), if_neg h3, (m_yes ⟨h1, h2⟩).1, (m_yes ⟨h1, h2⟩).2]]
        have hF := pf_rFits (l.length : Int) o.S l (by omega)
        generalize cFits (l.length : Int) o.S l = F at *
        (refine SF_of_bodyX (aload tt) (aload_ok tyOK) Tryz.func31 rfl (by kernel_rfl) ?_; simp only [Tryz.ntmps31, List.length_cons, List.length_nil, Nat.reduceAdd, Nat.reduceSub, List.replicate_succ, List.replicate_zero, List.cons_append, List.nil_append])
        (refine Wk.o ?_; (repeat revert hK K); refine W288fa ?_; (repeat intro K hK); refine ⟨?_⟩)
        (simp only [bodyX]; refine ⟨_, by simp only [aresults, aresult, XS.as, Tryz.results31, aload, go_sem, Option.bind_some]; rfl, ?_⟩)
        exact ⟨.iv _, rfl, trivial⟩
    · rw [show eE o l = 2 by unfold eE; rw [if_pos (fun h => h2 h.2)]]
      (refine SF_of_bodyX (aload tt) (aload_ok tyOK) Tryz.func31 rfl (by kernel_rfl) ?_; simp only [Tryz.ntmps31, List.length_cons, List.length_nil, Nat.reduceAdd, Nat.reduceSub, List.replicate_succ, List.replicate_zero, List.cons_append, List.nil_append])
      (refine Wk.o ?_; (repeat revert hK K); refine W288fa ?_; (repeat intro K hK); refine ⟨?_⟩)
      (simp only [bodyX]; refine ⟨_, by simp only [aresults, aresult, XS.as, Tryz.results31, aload, go_sem, Option.bind_some]; rfl, ?_⟩)
      exact ⟨.iv _, rfl, trivial⟩
  · rw [show eE o l = 2 by unfold eE; rw [if_pos (fun h => h1 h.1)]]
    (refine SF_of_bodyX (aload tt) (aload_ok tyOK) Tryz.func31 rfl (by kernel_rfl) ?_; simp only [Tryz.ntmps31, List.length_cons, List.length_nil, Nat.reduceAdd, Nat.reduceSub, List.replicate_succ, List.replicate_zero, List.cons_append, List.nil_append])
    (refine Wk.o ?_; (repeat revert hK K); refine W288fa ?_; (repeat intro K hK); refine ⟨?_⟩)
    (simp only [bodyX]; refine ⟨_, by simp only [aresults, aresult, XS.as, Tryz.results31, aload, go_sem, Option.bind_some]; rfl, ?_⟩)
    exact ⟨.iv _, rfl, trivial⟩
end Go.Proofs.YtcjnikkmjhagmaaGreatDoor
namespace Go.Proofs.YtcjnikkmjhagmaaGreatDoor
open Go.RowKit
set_option linter.unusedVariables false
set_option linter.unusedSimpArgs false
theorem ba_itoa {a : Int} (h : 0 ≤ a) : ba (Go.Lib.itoa a) = itoaS a := by unfold Go.Lib.itoa itoaS ba; rw [if_neg (by omega)]
theorem pf_rDig100 (a : Int) (h0 : 0 ≤ a) (h1 : a < 100) : PF Tryz.prog 53 [lt (.int .i64 a)] fun r H' => r = lt (.string (itoaS a)) ∧ H' = [] := by
  rw [← ba_itoa h0]; exact pf_rDigits a (by omega) (by omega)
theorem nmD_place (a b : Int) : ((⟨#[112, 108, 97, 99, 101, 32]⟩ : ByteArray) ++ itoaS a ++ ⟨#[32]⟩ ++ itoaS b) = tlS wPlace [a, b] 2 := by
  apply ByteArray.ext
  simp [tlS, wPlace, ByteArray.data_append, Array.append_assoc]
theorem nmD_state (a b : Int) : ((⟨#[115, 116, 97, 116, 101, 32]⟩ : ByteArray) ++ itoaS a ++ ⟨#[32]⟩ ++ itoaS b) = tlS wState [a, b] 2 := by
  apply ByteArray.ext
  simp [tlS, wState, ByteArray.data_append, Array.append_assoc]
theorem nmD_in (a : Int) : ((⟨#[105, 110, 32]⟩ : ByteArray) ++ itoaS a) = tlS wIn [a] 1 := by
  apply ByteArray.ext
  simp [tlS, wIn, ByteArray.data_append, Array.append_assoc]
attribute [go_sem] rnL_lstr idL_lstr lstr_one lstr_snoc take_lstr
theorem W9c27a {A B : Prop} (h9 : B) (w : B → A := by (intro h9; (repeat intro K hK); refine ⟨?_⟩; (repeat (first | (first | (with_reducible first | refine AX_block ?_ | refine AX_skip ?_ | refine AX_exit ?_ | refine AX_ret ?_ | refine AX_ift ?_ | refine AX_iff ?_ | refine AX_seq_k (fun K hK => ?_) | refine ContX.use (by assumption) ?_) | simp only [thenX, inBlockX, if_true, if_false, reduceCtorEq]) | (first | ((with_reducible first | refine XOP tyOK ?_ | refine AOP tyOK ?_); simp (disch := omega) only [go_sem , hs1, hs2, hs3, hs4, hs5, iOps, iFlat, ByteArray.size_append, List.length_nil]; (with_reducible first | refine XRes_id ?_ | refine ADF_id ?_)) | (with_reducible first | refine XSK ?_ | refine ASK ?_)) | ((first | (with_reducible refine XRes_nil ?_) | (with_reducible refine ADF_nil ?_)); (first | refine hK _ ?_ | refine hK _ _ ?_); clear hK K) | ((first | (with_reducible refine AX_reg0 fun K hK => ?_) | (refine AX_drawG1 tyOK (by kernel_rfl) (by rfl) (by kernel_rfl) fun K hK => ?_)); simp only [go_sem]) | (first | (first | refine XTL (by rfl) hE ?_ | refine ATL tyOK (by rfl) hE ?_ | refine XTL (by rfl) hN ?_ | refine ATL tyOK (by rfl) hN ?_ | refine XTL (by rfl) hD1 ?_ | refine ATL tyOK (by rfl) hD1 ?_ | refine XTL (by rfl) hD2 ?_ | refine ATL tyOK (by rfl) hD2 ?_)))); refine Wk.o ?_; (repeat revert hK K); exact h9)) : A := w h9
set_option maxRecDepth 100000 in
set_option maxHeartbeats 8000000 in
theorem pf_rNames37 (o : Ob) (l : List Op5) (hr : o.R.length ≤ 100000) (ho : o.Ok) (hl : l.length ≤ 100000) (hs : okS l) : PF Tryz.prog 16 [obA o, .iv (iOps l)] fun r H' => r = .iv (iStrs (nmX o l)) ∧ H' = [] := by
  refine SF.frozen ?_
  have hs1 := trivial; have hs2 := trivial; have hs3 := trivial; have hs4 := trivial; have hs5 := trivial; have hN := trivial; have hD1 := trivial; have hD2 := trivial; have hlen := True.intro
  have hE := pf_rError o l hr ho hl
  by_cases he : eE o l = 0
  · obtain ⟨hm, hln, hok, _, _, hv9⟩ := eE_ok he
    rw [show nmX o l = nmU (mN o l) (mS o l) (nVars (mN o l) (mS o l)).toNat by unfold nmX; rw [if_pos he]]
    rw [(m_yes hm).1, (m_yes hm).2] at hok hv9 ⊢
    have hvn := nVars_nonneg (l.length : Int) o.S
    have hVs : nVars (l.length : Int) o.S = (l.length : Int) * l.length + l.length + ((l.length : Int) + 1) * o.S := by unfold nVars; rw [if_pos hok]; rfl
    have hbd := fun (v : Nat) h => nOf_bd (n := (l.length : Int)) (m := o.S) (v := (v + 1 : Nat)) (by omega) h
    obtain ⟨V, hVe⟩ : ∃ V : Nat, nVars (l.length : Int) o.S = V := ⟨(nVars (l.length : Int) o.S).toNat, by omega⟩
    rw [hVe] at hv9 hbd hVs
    rw [hVe, Int.toNat_natCast]
    have hN := pf_rNames31 (l.length : Int) o.S hok V hVs
    have hat := fun {j : Nat} (h : j < V) => nF_at (l.length : Int) o.S h
    rw [he] at hE
    clear hok hm he hVs hvn hVe
    generalize nF (l.length : Int) o.S V = F at *
    (refine SF_of_bodyX (aload tt) (aload_ok tyOK) Tryz.func16 rfl (by kernel_rfl) ?_; simp only [Tryz.ntmps16, List.length_cons, List.length_nil, Nat.reduceAdd, Nat.reduceSub, List.replicate_succ, List.replicate_zero, List.cons_append, List.nil_append])
    (refine Wk.o ?_; (repeat revert hK K); refine W9c27a ?_; (repeat intro K hK); refine ⟨?_⟩)
    refine AX_nil 5 9 1 rfl ?_
    (refine AWH (σ := Nat × List ByteArray) [21, 22, 23, 24, 27, 28, 29, 30, 8, 31, 32, 33, 34, 35, 36, 9, 10, 37, 38, 39, 40, 41, 42, 43, 44, 45, 46, 47, 48, 49, 50, 51, 52, 53, 54, 55, 56, 57, 58, 59, 60, 61, 62, 63, 25, 26] (fun (k, ss) => [(7, lint k), (5, .osl 1 0 ss.length 1)]) (fun (k, ss) => [some ⟨24, [lt (.int .i64 o.S), lt (.int .i64 o.K), lt (.int .i64 o.I), .iv (iRws o.R)]⟩, some ⟨9, ss.map lstr⟩]) (fun (k, ss) => []) (fun (k, ss) => k ≤ V ∧ ss = nmU (l.length : Int) o.S k ∧ ss.length = k) (fun (k, ss) => V - k) (0, []) (by first | exact ⟨Nat.zero_le _, rfl, rfl⟩) ?_; rintro ⟨k, ss⟩ d fr hfr ⟨hk, hss, hsl⟩; simp only [updS, deadS, List.set_cons_succ, List.set_cons_zero, lint] at hfr; subst hfr; (try dsimp only))
    by_cases hlt : k < V
    · have hbk := hbd k (by omega)
      obtain ⟨e1, e2, e3⟩ := hat hlt
      have hnm := nmS.eq_1 (l.length : Int) o.S ((k + 1 : Nat) : Int)
      generalize nOf (l.length : Int) o.S ((k + 1 : Nat) : Int) = q at hbk hnm e1 e2 e3
      obtain ⟨c, a, b⟩ := q
      simp only at hbk hnm e1 e2 e3
      have hD1 := pf_rDig100 a hbk.2.1.1 hbk.2.1.2
      have hD2 := pf_rDig100 b hbk.2.2.1 hbk.2.2.2
      have i1 := itoaS_size hbk.2.1.1 hbk.2.1.2
      have i2 := itoaS_size hbk.2.2.1 hbk.2.2.2
      have hlen : ∀ s : ByteArray, (ss ++ [s]).length = ss.length + 1 := fun s => by simp
      have hs1 := e1
      have hs2 := e2
      have hs3 := e3
      have hs4 : (⟨#[32]⟩ : ByteArray).size = 1 := rfl
      by_cases h1 : c = 1
      · subst h1
        rw [if_pos rfl] at hnm
        have hs5 : (⟨#[112, 108, 97, 99, 101, 32]⟩ : ByteArray).size = 6 := rfl
        (refine Wk.o ?_; (repeat revert hK K); refine W9c27a ?_; (repeat intro K hK); refine ⟨?_⟩)
        exact whx_ren [0, 4] (k + 1, ss ++ [nmS (l.length : Int) o.S ((k + 1 : Nat) : Int)]) ⟨by omega, by rw [nmU_succ, hss], by rw [List.length_append, hsl]; rfl⟩ (by (first | omega | (dsimp only; omega) | (simp only; omega))) rfl (by decide) (by decide) (by (simp (disch := omega) only [go_sem, lint, rnL_lstr, idL_lstr, lstr_one, hlen])) (by (simp (disch := omega) only [go_sem, lint, rnL_lstr, idL_lstr, lstr_one, hlen])) (by rw [hnm, ← nmD_place]; (simp (disch := omega) only [go_sem, lint, rnL_lstr, idL_lstr, lstr_one, hlen])) (fun d => by (simp (disch := omega) only [go_sem, lint, rnL_lstr, idL_lstr, lstr_one, hlen]))
      · by_cases h2 : c = 2
        · subst h2
          rw [if_neg (by decide), if_pos rfl] at hnm
          have hs5 : (⟨#[105, 110, 32]⟩ : ByteArray).size = 3 := rfl
          (refine Wk.o ?_; (repeat revert hK K); refine W9c27a ?_; (repeat intro K hK); refine ⟨?_⟩)
          exact whx_ren [0, 4] (k + 1, ss ++ [nmS (l.length : Int) o.S ((k + 1 : Nat) : Int)]) ⟨by omega, by rw [nmU_succ, hss], by rw [List.length_append, hsl]; rfl⟩ (by (first | omega | (dsimp only; omega) | (simp only; omega))) rfl (by decide) (by decide) (by (simp (disch := omega) only [go_sem, lint, rnL_lstr, idL_lstr, lstr_one, hlen])) (by (simp (disch := omega) only [go_sem, lint, rnL_lstr, idL_lstr, lstr_one, hlen])) (by rw [hnm, ← nmD_in]; (simp (disch := omega) only [go_sem, lint, rnL_lstr, idL_lstr, lstr_one, hlen])) (fun d => by (simp (disch := omega) only [go_sem, lint, rnL_lstr, idL_lstr, lstr_one, hlen]))
        · obtain rfl : c = 3 := by omega
          rw [if_neg (by decide), if_neg (by decide)] at hnm
          have hs5 : (⟨#[115, 116, 97, 116, 101, 32]⟩ : ByteArray).size = 6 := rfl
          (refine Wk.o ?_; (repeat revert hK K); refine W9c27a ?_; (repeat intro K hK); refine ⟨?_⟩)
          exact whx_ren [0, 4] (k + 1, ss ++ [nmS (l.length : Int) o.S ((k + 1 : Nat) : Int)]) ⟨by omega, by rw [nmU_succ, hss], by rw [List.length_append, hsl]; rfl⟩ (by (first | omega | (dsimp only; omega) | (simp only; omega))) rfl (by decide) (by decide) (by (simp (disch := omega) only [go_sem, lint, rnL_lstr, idL_lstr, lstr_one, hlen])) (by (simp (disch := omega) only [go_sem, lint, rnL_lstr, idL_lstr, lstr_one, hlen])) (by rw [hnm, ← nmD_state]; (simp (disch := omega) only [go_sem, lint, rnL_lstr, idL_lstr, lstr_one, hlen])) (fun d => by (simp (disch := omega) only [go_sem, lint, rnL_lstr, idL_lstr, lstr_one, hlen]))
    · obtain rfl : k = V := by omega
      (refine Wk.o ?_; (repeat revert hK K); refine W9c27a ?_; (repeat intro K hK); refine ⟨?_⟩)
      (simp only [bodyX]; refine ⟨_, by simp only [aresults, aresult, XS.as, Tryz.results16, aload, go_sem, Option.bind_some]; rfl, ?_⟩)
      exact ⟨_, snap_lstr rfl rfl, by rw [hss], trivial⟩
  · rw [show nmX o l = [] by unfold nmX; rw [if_neg he]]
    generalize eE o l = E at *
    (refine SF_of_bodyX (aload tt) (aload_ok tyOK) Tryz.func16 rfl (by kernel_rfl) ?_; simp only [Tryz.ntmps16, List.length_cons, List.length_nil, Nat.reduceAdd, Nat.reduceSub, List.replicate_succ, List.replicate_zero, List.cons_append, List.nil_append])
    (refine Wk.o ?_; (repeat revert hK K); refine W9c27a ?_; (repeat intro K hK); refine ⟨?_⟩)
    (simp only [bodyX]; refine ⟨_, by simp only [aresults, aresult, XS.as, Tryz.results16, aload, go_sem, Option.bind_some]; rfl, ?_⟩)
    exact ⟨_, .iv _ _ (.nil _ _), rfl, trivial⟩
end Go.Proofs.YtcjnikkmjhagmaaGreatDoor
