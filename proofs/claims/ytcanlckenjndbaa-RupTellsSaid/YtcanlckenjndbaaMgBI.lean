import Derived.Test.YtcanlckenjndbaaMgBH
import Derived.Test.YtcanlckenjndbaaMgAY
import Derived.Test.YtcanlckenjndbaaMgBF
namespace Go.Proofs.Ytcanlckenjndbaa
open Go.RowKit
set_option linter.unusedVariables false
set_option linter.unusedSimpArgs false
theorem rowsOk_few {h : List (List Int)} (h1 : h.length ≤ 60) (h2 : ∀ c ∈ h, c.length ≤ 50) : RowsOk h := rowsOk_of (by omega) fun c hc => by have := h2 c hc; omega
end Go.Proofs.Ytcanlckenjndbaa
namespace Go.Proofs.Ytcanlckenjndbaa
open Go.RowKit
set_option linter.unusedVariables false
set_option linter.unusedSimpArgs false
theorem stE_bd (c : List Int) : 0 ≤ stE c ∧ stE c ≤ 11 := by unfold stE; split <;> (try split) <;> omega
theorem chn_bd : ∀ (hs : List (List Int)) (l : List Int) (i : Nat), 0 ≤ (chn l hs i).2.2 ∧ (chn l hs i).2.2 ≤ 23
  | [], l, i => by unfold chn; simp
  | h :: hs, l, i => by
    unfold chn
    split
    · simp
    · split
      · exact chn_bd hs _ _
      · simp
theorem shE8_bd (c : List Int) (hs : List (List Int)) : 0 ≤ shE8 c hs ∧ shE8 c hs ≤ 23 := by
  unfold shE8; split
  · exact chn_bd _ _ _
  · have := stE_bd c; omega
theorem stpE_bd (l h : List Int) : 0 ≤ stpE l h ∧ stpE l h ≤ 22 := by unfold stpE; split <;> (try split) <;> omega
theorem stpL_len (l h : List Int) : (stpL l h).length ≤ l.length + 1 := by unfold stpL; split <;> (try split) <;> simp
theorem Wa56ca {A B : Prop} (h9 : B) (w : B → A := by (intro h9; (repeat intro K hK); refine ⟨?_⟩; (repeat (first | (first | (with_reducible first | refine AX_block ?_ | refine AX_skip ?_ | refine AX_exit ?_ | refine AX_ret ?_ | refine AX_ift ?_ | refine AX_iff ?_ | refine AX_seq_k (fun K hK => ?_) | refine ContX.use (by assumption) ?_) | simp only [thenX, inBlockX, if_true, if_false, reduceCtorEq]) | (first | ((first | (with_reducible refine XRes_op tyOK ?_ ?_) | ((with_reducible first | refine ADF_op tyOK ?_ ?_ ?_ | refine ADX_op tyOK ?_ ?_ ?_); (focus rfl)) | (with_reducible refine ADR_alloc1 tyOK ?_ ?_) | ((with_reducible refine ADR_free1 tyOK ?_ ?_ ?_); (focus rfl)) | ((with_reducible refine ADR_free0 tyOK ?_ ?_ ?_); (focus rfl)) | ((with_reducible refine ADR_read1 tyOK ?_ ?_ ?_); (focus rfl)) | (with_reducible refine ADR_chg1 tyOK ?_ ?_)); (focus (first | (with_reducible rfl) | ((simp (disch := omega) only [go_sem]); done))); simp (disch := omega) only [go_sem , hs1, hs2, hs3, hs4, Int.toNat_zero, Int.toNat_one, List.length_nil, Nat.reduceLeDiff]; (first | (with_reducible refine XRes_id ?_) | (with_reducible refine ADF_id ?_) | (with_reducible refine ADR_id1 ?_) | (with_reducible refine ADX_id ?_))) | ((first | (with_reducible refine XRes_skip ?_ ?_) | (with_reducible refine ADF_skip (b := true) ?_ ?_) | (with_reducible refine ADX_skip ?_ ?_) | ((with_reducible refine ADR_skip1 ?_ ?_ ?_); (focus rfl))); (focus (first | rfl | ((simp (disch := omega) only [go_sem]); done))); (simp only [putL, List.set_cons_succ, List.set_cons_zero]))) | ((first | (with_reducible refine XRes_nil ?_) | (with_reducible refine ADF_nil ?_) | (with_reducible refine ADR_nil ?_) | (with_reducible refine ADX_nil ?_)); (first | refine hK _ ?_ | refine hK _ _ ?_); clear hK K) | ((first | (with_reducible refine AX_reg0 fun K hK => ?_) | (refine AX_drawG1 tyOK (by kernel_rfl) (by rfl) (by kernel_rfl) fun K hK => ?_) | (refine AX_drawT tyOK (by kernel_rfl) (by decide +kernel) fun K hK => ?_) | (refine AX_drawM1 (by kernel_rfl) (by rfl) (by decide +kernel) fun K hK => ?_) | (refine AX_drawA tyOK (by kernel_rfl) (by decide +kernel) fun K hK => ?_)); (first | simp only [go_sem, preN, effOp, runF, alM, mapOp, alD2, kdOf2, Bool.not_false, Bool.not_true, reduceCtorEq] | simp only [go_sem, preN, effOp, runF, alM, mapOp, Bool.not_false, Bool.not_true, reduceCtorEq] | simp only [go_sem, preN, effOp, runF, alD2, kdOf2, Bool.not_false, Bool.not_true, reduceCtorEq] | simp only [go_sem, alD2, kdOf2, Bool.not_false, Bool.not_true, reduceCtorEq] | simp only [go_sem, preN, effOp, runF, Bool.not_false, Bool.not_true, reduceCtorEq] | simp only [go_sem])) | (first | (first | refine XTL (by rfl) hFew ?_ | refine ATL tyOK (by rfl) hFew ?_ | refine XTL (by rfl) hAw ?_ | refine ATL tyOK (by rfl) hAw ?_ | refine XTL (by rfl) hV1 ?_ | refine ATL tyOK (by rfl) hV1 ?_ | refine XTL (by rfl) hV2 ?_ | refine ATL tyOK (by rfl) hV2 ?_ | refine XTL (by rfl) hC1 ?_ | refine ATL tyOK (by rfl) hC1 ?_ | refine XTL (by rfl) hC2 ?_ | refine ATL tyOK (by rfl) hC2 ?_ | refine XTL (by rfl) hW1 ?_ | refine ATL tyOK (by rfl) hW1 ?_ | refine XTL (by rfl) hW2 ?_ | refine ATL tyOK (by rfl) hW2 ?_ | refine XTL (by rfl) hP1 ?_ | refine ATL tyOK (by rfl) hP1 ?_ | refine XTL (by rfl) hP2 ?_ | refine ATL tyOK (by rfl) hP2 ?_ | refine XTL (by rfl) hA1 ?_ | refine ATL tyOK (by rfl) hA1 ?_ | refine XTL (by rfl) hA2 ?_ | refine ATL tyOK (by rfl) hA2 ?_ | refine XTL (by rfl) hA3 ?_ | refine ATL tyOK (by rfl) hA3 ?_)))); refine Wk.o ?_; (repeat revert hK K); exact h9)) : A := w h9
set_option maxRecDepth 100000 in
set_option maxHeartbeats 8000000 in
theorem pf_RupTells (l c : List Int) (h : List (List Int)) (hl : l.length ≤ 9223372036854775807) (hc : c.length ≤ 9223372036854775807) (hh : h.length ≤ 9223372036854775807) (hf : Fits' l) (hf2 : Fits' c) : PF Try.prog 3 [.iv (iInts l), .iv (iInts c), .iv (iRows h)] fun r H' => r = lt (.bool true) ∧ H' = [] := by
  refine SF.forgetAll ?_
  have hs1 := trivial; have hs2 := trivial; have hs3 := trivial; have hs4 := trivial
  have hV1 := trivial; have hV2 := trivial; have hC1 := trivial; have hC2 := trivial; have hW1 := trivial; have hW2 := trivial; have hP1 := trivial; have hP2 := trivial; have hA1 := trivial; have hA2 := trivial; have hA3 := trivial
  have hAw := pf_awake08
  have hFew := pf_few08 h l hh hl
  cases hfw : fw08 h l with
  | false =>
    rw [hfw] at hFew
    (refine SF_of_bodyX (aload tt) (aload_ok tyOK) Try.func3 rfl (by kernel_rfl) ?_; simp only [Try.ntmps3, List.length_cons, List.length_nil, Nat.reduceAdd, Nat.reduceSub, List.replicate_succ, List.replicate_zero, List.cons_append, List.nil_append])
    (refine Wk.o ?_; (repeat revert hK K); refine Wa56ca ?_; (repeat intro K hK); refine ⟨?_⟩)
    (simp only [bodyX]; refine ⟨_, by simp only [aresults, aresult, XS.as, Try.results3, aload, go_sem, Option.bind_some]; rfl, ?_⟩)
    exact ⟨.iv _, rfl, trivial⟩
  | true =>
    rw [hfw] at hFew
    obtain ⟨f1, f2, f3⟩ := fw08_iff hfw
    have hok := rowsOk_few f1 f3
    have hs1 : iInts c = .sl (fun j => .lit (.int .i64 (c.getD j 0))) c.length 1 := rfl
    by_cases hcl : c.length ≤ 60
    · have hV1 := pf_Start c (by omega)
      have hV2 := pf_r08Start c (by omega)
      have hC1 := pf_Chain l h (by omega) hok
      have hC2 := pf_r08Chain l h (by omega) hok
      have hW1 := pf_Show c h (by omega) hok
      have hW2 := pf_r08Show c h (by omega) hok
      have hP1 := pf_Step l c (by omega) (by omega) hf hf2
      have hP2 := pf_r08Step l c (by omega) (by omega)
      have b1 := stE_bd c
      have b2 := chn_bd h l 0
      have b3 := shE8_bd c h
      have b4 := stpE_bd l c
      have n1 := stR_len c
      have n2 := chn_len l h 0
      have n3 := shN8_le c h
      have n4 := stpL_len l c
      have hA1 := pf_sameInts (stR c) (stR c) (by omega) (by omega)
      have hA2 := pf_sameInts (chn l h 0).1 (chn l h 0).1 (by omega) (by omega)
      have hA3 := pf_sameInts (stpL l c) (stpL l c) (by omega) (by omega)
      rw [decide_eq_true rfl] at hA1 hA2 hA3
      generalize stR c = l1 at *
      generalize stE c = E1 at *
      generalize chn l h 0 = q2 at *
      obtain ⟨l2, k2, E2⟩ := q2
      dsimp only at hC1 hC2 b2 n2 hA2
      generalize shN8 c h = k3 at *
      generalize shE8 c h = E3 at *
      generalize stpL l c = l4 at *
      generalize stpE l c = E4 at *
      generalize decide (aCl l c = -1) = b at *
      cases b
      · (refine SF_of_bodyX (aload tt) (aload_ok tyOK) Try.func3 rfl (by kernel_rfl) ?_; simp only [Try.ntmps3, List.length_cons, List.length_nil, Nat.reduceAdd, Nat.reduceSub, List.replicate_succ, List.replicate_zero, List.cons_append, List.nil_append])
        (refine Wk.o ?_; (repeat revert hK K); refine Wa56ca ?_; (repeat intro K hK); refine ⟨?_⟩)
        (simp only [bodyX]; refine ⟨_, by simp only [aresults, aresult, XS.as, Try.results3, aload, go_sem, Option.bind_some]; rfl, ?_⟩)
        exact ⟨.iv _, rfl, trivial⟩
      · (refine SF_of_bodyX (aload tt) (aload_ok tyOK) Try.func3 rfl (by kernel_rfl) ?_; simp only [Try.ntmps3, List.length_cons, List.length_nil, Nat.reduceAdd, Nat.reduceSub, List.replicate_succ, List.replicate_zero, List.cons_append, List.nil_append])
        (refine Wk.o ?_; (repeat revert hK K); refine Wa56ca ?_; (repeat intro K hK); refine ⟨?_⟩)
        (simp only [bodyX]; refine ⟨_, by simp only [aresults, aresult, XS.as, Try.results3, aload, go_sem, Option.bind_some]; rfl, ?_⟩)
        exact ⟨.iv _, rfl, trivial⟩
    · (refine SF_of_bodyX (aload tt) (aload_ok tyOK) Try.func3 rfl (by kernel_rfl) ?_; simp only [Try.ntmps3, List.length_cons, List.length_nil, Nat.reduceAdd, Nat.reduceSub, List.replicate_succ, List.replicate_zero, List.cons_append, List.nil_append])
      (refine Wk.o ?_; (repeat revert hK K); refine Wa56ca ?_; (repeat intro K hK); refine ⟨?_⟩)
      (simp only [bodyX]; refine ⟨_, by simp only [aresults, aresult, XS.as, Try.results3, aload, go_sem, Option.bind_some]; rfl, ?_⟩)
      exact ⟨.iv _, rfl, trivial⟩
end Go.Proofs.Ytcanlckenjndbaa
namespace Go.Proofs.Ytcanlckenjndbaa
open Go.RowKit
set_option linter.unusedVariables false
theorem rupTells_walk (w : World) (a : Option Addr) (len cap : Nat) (l : List Int) (hr : IntRow w a len l) (hf : Fits l) (hcap : len ≤ cap ∧ cap ≤ maxLen ∧ (a = none → cap = 0))
    (a3 : Option Addr) (len3 cap3 : Nat) (c : List Int) (hr3 : IntRow w a3 len3 c) (hf3 : Fits c) (hcap3 : len3 ≤ cap3 ∧ cap3 ≤ maxLen ∧ (a3 = none → cap3 = 0))
    (a2 : Option Addr) (len2 cap2 : Nat) (xss : List (List Int)) (hr2 : Rows2 w a2 len2 xss) (hfr : FitsR xss) (hcap2 : len2 ≤ cap2 ∧ cap2 ≤ maxLen ∧ (a2 = none → cap2 = 0)) :
    Calls Try.prog 3 #[.slice a len cap, .slice a3 len3 cap3, .slice a2 len2 cap2] w fun e w' => e = .returned (.bool true) ∧ Below w.heap.size w w' := by
  have l1 := hr.1; have l2 := hr2.1; have l3 := hr3.1
  have b1 := hcap.2.1; have b2 := hcap2.2.1; have b3 := hcap3.2.1
  unfold maxLen at b1 b2 b3
  have e1 := hcap.1; have e2 := hcap2.1; have e3 := hcap3.1
  exact law_of (SF.mono (pf_RupTells l c xss (by omega) (by omega) (by omega) hf hf3) fun r H' h => h.1) w _ (RL.three (.iv _ _ (ri_ints hr hcap.1 hcap.2.1)) (.iv _ _ (ri_ints hr3 hcap3.1 hcap3.2.1)) (.iv _ _ (ri_rows hr2 hcap2.1 hcap2.2.1)))
end Go.Proofs.Ytcanlckenjndbaa
