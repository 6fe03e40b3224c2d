import Derived.Test.YtpfbcjlgbdbcpaaMgBB
import Derived.Test.YtpfbcjlgbdbcpaaMgBC
import Derived.Test.YtpfbcjlgbdbcpaaMgBD
import Derived.Test.YtpfbcjlgbdbcpaaMgAV
namespace Go.Proofs.Ytpfbcjlgbdbcpaa
open Go.RowKit
set_option linter.unusedVariables false
set_option linter.unusedSimpArgs false
theorem W5e7ea {A B : Prop} (h9 : B) (w : B → A := by (intro h9; (repeat intro K hK); refine ⟨?_⟩; (repeat (first | (first | (with_reducible first | refine AX_block ?_ | refine AX_skip ?_ | refine AX_exit ?_ | refine AX_ret ?_ | refine AX_ift ?_ | refine AX_iff ?_ | refine AX_seq_k (fun K hK => ?_) | refine ContX.use (by assumption) ?_) | simp only [thenX, inBlockX, if_true, if_false, reduceCtorEq]) | (first | ((first | (with_reducible refine XRes_op tyOK ?_ ?_) | ((with_reducible first | refine ADF_op tyOK ?_ ?_ ?_ | refine ADX_op tyOK ?_ ?_ ?_); (focus rfl)) | (with_reducible refine ADR_alloc1 tyOK ?_ ?_) | ((with_reducible refine ADR_free1 tyOK ?_ ?_ ?_); (focus rfl)) | ((with_reducible refine ADR_free0 tyOK ?_ ?_ ?_); (focus rfl)) | ((with_reducible refine ADR_read1 tyOK ?_ ?_ ?_); (focus rfl)) | (with_reducible refine ADR_chg1 tyOK ?_ ?_)); (focus (first | (with_reducible rfl) | ((simp (disch := omega) only [go_sem]); done))); simp (disch := omega) only [go_sem , hs1, hs2, hs3, hs4, Int.toNat_zero, Int.toNat_one]; (first | (with_reducible refine XRes_id ?_) | (with_reducible refine ADF_id ?_) | (with_reducible refine ADR_id1 ?_) | (with_reducible refine ADX_id ?_))) | ((first | (with_reducible refine XRes_skip ?_ ?_) | (with_reducible refine ADF_skip (b := true) ?_ ?_) | (with_reducible refine ADX_skip ?_ ?_) | ((with_reducible refine ADR_skip1 ?_ ?_ ?_); (focus rfl))); (focus (first | rfl | ((simp (disch := omega) only [go_sem]); done))); (simp only [putL, List.set_cons_succ, List.set_cons_zero]))) | ((first | (with_reducible refine XRes_nil ?_) | (with_reducible refine ADF_nil ?_) | (with_reducible refine ADR_nil ?_) | (with_reducible refine ADX_nil ?_)); (first | refine hK _ ?_ | refine hK _ _ ?_); clear hK K) | ((first | (with_reducible refine AX_reg0 fun K hK => ?_) | (refine AX_drawG1 tyOK (by kernel_rfl) (by rfl) (by kernel_rfl) fun K hK => ?_) | (refine AX_drawT tyOK (by kernel_rfl) (by decide +kernel) fun K hK => ?_) | (refine AX_drawM1 (by kernel_rfl) (by rfl) (by decide +kernel) fun K hK => ?_) | (refine AX_drawA tyOK (by kernel_rfl) (by decide +kernel) fun K hK => ?_)); (first | simp only [go_sem, preN, effOp, runF, alM, mapOp, alD2, kdOf2, Bool.not_false, Bool.not_true, reduceCtorEq] | simp only [go_sem, preN, effOp, runF, alM, mapOp, Bool.not_false, Bool.not_true, reduceCtorEq] | simp only [go_sem, preN, effOp, runF, alD2, kdOf2, Bool.not_false, Bool.not_true, reduceCtorEq] | simp only [go_sem, alD2, kdOf2, Bool.not_false, Bool.not_true, reduceCtorEq] | simp only [go_sem, preN, effOp, runF, Bool.not_false, Bool.not_true, reduceCtorEq] | simp only [go_sem])) | (first | (first | refine XTL (by rfl) hF ?_ | refine ATL tyOK (by rfl) hF ?_ | refine XTL (by rfl) hF2 ?_ | refine ATL tyOK (by rfl) hF2 ?_ | refine XTL (by rfl) hAw ?_ | refine ATL tyOK (by rfl) hAw ?_ | refine XTL (by rfl) hC1 ?_ | refine ATL tyOK (by rfl) hC1 ?_ | refine XTL (by rfl) hC2 ?_ | refine ATL tyOK (by rfl) hC2 ?_ | refine XTL (by rfl) hM1 ?_ | refine ATL tyOK (by rfl) hM1 ?_ | refine XTL (by rfl) hM2 ?_ | refine ATL tyOK (by rfl) hM2 ?_ | refine XTL (by rfl) hR1 ?_ | refine ATL tyOK (by rfl) hR1 ?_ | refine XTL (by rfl) hR2 ?_ | refine ATL tyOK (by rfl) hR2 ?_ | refine XTL (by rfl) hD1 ?_ | refine ATL tyOK (by rfl) hD1 ?_ | refine XTL (by rfl) hD2 ?_ | refine ATL tyOK (by rfl) hD2 ?_ | refine XTL (by rfl) hS1 ?_ | refine ATL tyOK (by rfl) hS1 ?_ | refine XTL (by rfl) hS2 ?_ | refine ATL tyOK (by rfl) hS2 ?_ | refine XTL (by rfl) hT1 ?_ | refine ATL tyOK (by rfl) hT1 ?_ | refine XTL (by rfl) hT2 ?_ | refine ATL tyOK (by rfl) hT2 ?_ | refine XTL (by rfl) hI1 ?_ | refine ATL tyOK (by rfl) hI1 ?_ | refine XTL (by rfl) hI2 ?_ | refine ATL tyOK (by rfl) hI2 ?_ | refine XTL (by rfl) hI3 ?_ | refine ATL tyOK (by rfl) hI3 ?_)))); refine Wk.o ?_; (repeat revert hK K); exact h9)) : A := w h9
set_option maxRecDepth 100000 in
set_option maxHeartbeats 8000000 in
theorem pf_ObjectTells (o p : Ob) (x y : Int) (ho : o.Ok) (hol : o.R.length ≤ 9223372036854775807) (hpl : p.R.length ≤ 9223372036854775807) : PF Try.prog 3 [obA o, obA p, .agg [lt (.int .i64 x), lt (.int .i64 y)]] fun r H' => r = lt (.bool true) ∧ H' = [] := by
  refine SF.forgetAll ?_
  have hs1 := trivial; have hs2 := trivial; have hs3 := trivial; have hs4 := trivial
  have hC1 := trivial; have hC2 := trivial; have hM1 := trivial; have hM2 := trivial; have hR1 := trivial; have hR2 := trivial; have hD1 := trivial; have hD2 := trivial; have hS1 := trivial; have hS2 := trivial; have hT1 := trivial; have hT2 := trivial; have hI1 := trivial; have hI2 := trivial; have hI3 := trivial
  have hAw := pf_awake23
  have hF := pf_few23 o hol
  have hF2 := pf_few23 p hpl
  by_cases b1 : o.R.length ≤ 300
  · rw [decide_eq_true b1] at hF
    by_cases b2 : p.R.length ≤ 300
    · rw [decide_eq_true b2] at hF2
      have hC1 := pf_obCheck o (by omega) ho
      have hC2 := pf_rObCheck o (by omega) ho
      have hM1 := pf_obMove o x y (by omega)
      have hM2 := pf_rMove o x y (by omega)
      have hR1 := pf_Reach o (by omega) ho
      have hR2 := pf_rReach o (by omega) ho
      have hD1 := pf_Dead o (by omega) ho
      have hD2 := pf_rDead o (by omega) ho
      have hS1 := pf_obSame o p (by omega) (by omega)
      have hS2 := pf_rObSame o p (by omega) (by omega)
      have hT1 := pf_Sort o.R (by omega)
      have hT2 := pf_rSort o.R (by omega)
      have hrl : (reL o).length ≤ 1000000 := by
        by_cases e : obE o = 0
        · exact Nat.le_trans (reL_len e) (by omega)
        · unfold reL; rw [if_neg e]; simp
      have hdl : (deL o).length ≤ 1000000 := by
        by_cases e : obE o = 0
        · exact Nat.le_trans (deL_len e) (by omega)
        · unfold deL; rw [if_neg e]; simp
      have hI1 := pf_sameInts (reL o) (reL o) hrl hrl
      have hI2 := pf_sameInts (deL o) (deL o) hdl hdl
      have hI3 := pf_sameRows (srtR o.R) (srtR o.R) (by rw [srtR_len]; omega) (by rw [srtR_len]; omega)
      rw [decide_eq_true rfl] at hI1 hI2 hI3
      generalize reL o = l1 at *
      generalize deL o = l2 at *
      generalize srtR o.R = l3 at *
      generalize obAt o = k1 at *
      generalize obE o = k2 at *
      generalize mvN o x y = k3 at *
      generalize mvR o x y = k4 at *
      generalize mvOk o x y = k5 at *
      generalize obSm o p = k6 at *
      cases k5 <;> cases k6
      all_goals
        (refine SF_of_bodyX (aload tt) (aload_ok tyOK) Try.func3 rfl (by kernel_rfl) ?_; simp only [Try.ntmps3, List.length_cons, List.length_nil, Nat.reduceAdd, Nat.reduceSub, List.replicate_succ, List.replicate_zero, List.cons_append, List.nil_append])
        (refine Wk.o ?_; (repeat revert hK K); refine W5e7ea ?_; (repeat intro K hK); refine ⟨?_⟩)
        (simp only [bodyX]; refine ⟨_, by simp only [aresults, aresult, XS.as, Try.results3, aload, go_sem, Option.bind_some]; rfl, ?_⟩)
        exact ⟨.iv _, rfl, trivial⟩
    · rw [decide_eq_false b2] at hF2
      (refine SF_of_bodyX (aload tt) (aload_ok tyOK) Try.func3 rfl (by kernel_rfl) ?_; simp only [Try.ntmps3, List.length_cons, List.length_nil, Nat.reduceAdd, Nat.reduceSub, List.replicate_succ, List.replicate_zero, List.cons_append, List.nil_append])
      (refine Wk.o ?_; (repeat revert hK K); refine W5e7ea ?_; (repeat intro K hK); refine ⟨?_⟩)
      (simp only [bodyX]; refine ⟨_, by simp only [aresults, aresult, XS.as, Try.results3, aload, go_sem, Option.bind_some]; rfl, ?_⟩)
      exact ⟨.iv _, rfl, trivial⟩
  · rw [decide_eq_false b1] at hF
    (refine SF_of_bodyX (aload tt) (aload_ok tyOK) Try.func3 rfl (by kernel_rfl) ?_; simp only [Try.ntmps3, List.length_cons, List.length_nil, Nat.reduceAdd, Nat.reduceSub, List.replicate_succ, List.replicate_zero, List.cons_append, List.nil_append])
    (refine Wk.o ?_; (repeat revert hK K); refine W5e7ea ?_; (repeat intro K hK); refine ⟨?_⟩)
    (simp only [bodyX]; refine ⟨_, by simp only [aresults, aresult, XS.as, Try.results3, aload, go_sem, Option.bind_some]; rfl, ?_⟩)
    exact ⟨.iv _, rfl, trivial⟩
end Go.Proofs.Ytpfbcjlgbdbcpaa
namespace Go.Proofs.Ytpfbcjlgbdbcpaa
open Go.RowKit
set_option linter.unusedVariables false
theorem objectTells_walk (w : World) (x y z : Int) (wx : (Lit.int .i64 x).wf = true) (wy : (Lit.int .i64 y).wf = true) (wz : (Lit.int .i64 z).wf = true) (a : Option Addr) (len cap : Nat) (hs : StructRow w 4 a len cap)
    (x2 y2 z2 : Int) (wx2 : (Lit.int .i64 x2).wf = true) (wy2 : (Lit.int .i64 y2).wf = true) (wz2 : (Lit.int .i64 z2).wf = true) (a2 : Option Addr) (len2 cap2 : Nat) (hs2 : StructRow w 4 a2 len2 cap2) (u v : Int) (wu : (Lit.int .i64 u).wf = true) (wv : (Lit.int .i64 v).wf = true) :
    Calls Try.prog 3 #[.agg #[.int .i64 x, .int .i64 y, .int .i64 z, .slice a len cap], .agg #[.int .i64 x2, .int .i64 y2, .int .i64 z2, .slice a2 len2 cap2], .agg #[.int .i64 u, .int .i64 v]] w fun e w' => e = .returned (.bool true) ∧ Below w.heap.size w w' := by
  obtain ⟨xs, e1, _, r1⟩ := hs.rwsA
  obtain ⟨ys, e2, _, r2⟩ := hs2.rwsA
  have b1 := hs.2.1
  have c1 := hs.1
  have b2 := hs2.2.1
  have c2 := hs2.1
  unfold maxLen at b1 b2
  exact law_of (SF.mono (pf_ObjectTells ⟨x, y, z, xs⟩ ⟨x2, y2, z2, ys⟩ u v ⟨wf_i23 wx, wf_i23 wy, wf_i23 wz⟩ (by show xs.length ≤ _; omega) (by show ys.length ≤ _; omega)) fun r H' h => h.1) w _ (RL.three (RL.obj r1) (RL.obj r2) (ra_arr2 _ _ _))
end Go.Proofs.Ytpfbcjlgbdbcpaa
