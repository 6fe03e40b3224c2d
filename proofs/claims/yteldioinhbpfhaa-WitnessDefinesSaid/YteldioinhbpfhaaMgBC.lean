import Derived.Test.YteldioinhbpfhaaMgBB
import Derived.Test.YteldioinhbpfhaaMgBA
import Derived.Test.YteldioinhbpfhaaMgAY
import Derived.Test.YteldioinhbpfhaaMgAU
namespace Go.Proofs.Yteldioinhbpfhaa
open Go.RowKit
set_option linter.unusedVariables false
set_option linter.unusedSimpArgs false
theorem W7b5aa {A B : Prop} (h9 : B) (w : B → A := by (intro h9; (repeat intro K hK); refine ⟨?_⟩; (repeat (first | (first | (with_reducible first | refine AX_block ?_ | refine AX_skip ?_ | refine AX_exit ?_ | refine AX_ret ?_ | refine AX_ift ?_ | refine AX_iff ?_ | refine AX_seq_k (fun K hK => ?_) | refine ContX.use (by assumption) ?_) | simp only [thenX, inBlockX, if_true, if_false, reduceCtorEq]) | (first | ((first | (with_reducible refine XRes_op tyOK ?_ ?_) | ((with_reducible first | refine ADF_op tyOK ?_ ?_ ?_ | refine ADX_op tyOK ?_ ?_ ?_); (focus rfl)) | (with_reducible refine ADR_alloc1 tyOK ?_ ?_) | ((with_reducible refine ADR_free1 tyOK ?_ ?_ ?_); (focus rfl)) | ((with_reducible refine ADR_free0 tyOK ?_ ?_ ?_); (focus rfl)) | ((with_reducible refine ADR_read1 tyOK ?_ ?_ ?_); (focus rfl)) | (with_reducible refine ADR_chg1 tyOK ?_ ?_)); (focus (first | (with_reducible rfl) | ((simp (disch := omega) only [go_sem]); done))); simp (disch := omega) only [go_sem , flatO_p, flatO_k, flatO_s, flatO_e, flatO_r, flatP_o, flatP_r, flatR_s, flatR_k, flatR_n, flatR_r, hs1, hs2, hs3, hs4, hs5, hs6, List.length_nil, Int.toNat_zero, Int.toNat_one]; (first | (with_reducible refine XRes_id ?_) | (with_reducible refine ADF_id ?_) | (with_reducible refine ADR_id1 ?_) | (with_reducible refine ADX_id ?_))) | ((first | (with_reducible refine XRes_skip ?_ ?_) | (with_reducible refine ADF_skip (b := true) ?_ ?_) | (with_reducible refine ADX_skip ?_ ?_) | ((with_reducible refine ADR_skip1 ?_ ?_ ?_); (focus rfl))); (focus (first | rfl | ((simp (disch := omega) only [go_sem]); done))); (simp only [putL, List.set_cons_succ, List.set_cons_zero]))) | ((first | (with_reducible refine XRes_nil ?_) | (with_reducible refine ADF_nil ?_) | (with_reducible refine ADR_nil ?_) | (with_reducible refine ADX_nil ?_)); (first | refine hK _ ?_ | refine hK _ _ ?_); clear hK K) | ((first | (with_reducible refine AX_reg0 fun K hK => ?_) | (refine AX_drawG1 tyOK (by kernel_rfl) (by rfl) (by kernel_rfl) fun K hK => ?_) | (refine AX_drawT tyOK (by kernel_rfl) (by decide +kernel) fun K hK => ?_) | (refine AX_drawM1 (by kernel_rfl) (by rfl) (by decide +kernel) fun K hK => ?_) | (refine AX_drawA tyOK (by kernel_rfl) (by decide +kernel) fun K hK => ?_)); (first | simp only [go_sem, preN, effOp, runF, alM, mapOp, alD2, kdOf2, Bool.not_false, Bool.not_true, reduceCtorEq] | simp only [go_sem, preN, effOp, runF, alM, mapOp, Bool.not_false, Bool.not_true, reduceCtorEq] | simp only [go_sem, preN, effOp, runF, alD2, kdOf2, Bool.not_false, Bool.not_true, reduceCtorEq] | simp only [go_sem, alD2, kdOf2, Bool.not_false, Bool.not_true, reduceCtorEq] | simp only [go_sem, preN, effOp, runF, Bool.not_false, Bool.not_true, reduceCtorEq] | simp only [go_sem])) | (first | (first | refine XTL (by rfl) h1 ?_ | refine ATL tyOK (by rfl) h1 ?_ | refine XTL (by rfl) h2 ?_ | refine ATL tyOK (by rfl) h2 ?_ | refine XTL (by rfl) h3 ?_ | refine ATL tyOK (by rfl) h3 ?_ | refine XTL (by rfl) h4 ?_ | refine ATL tyOK (by rfl) h4 ?_ | refine XTL (by rfl) h5 ?_ | refine ATL tyOK (by rfl) h5 ?_ | refine XTL (by rfl) hC ?_ | refine ATL tyOK (by rfl) hC ?_)))); refine Wk.o ?_; (repeat revert hK K); exact h9)) : A := w h9
set_option maxRecDepth 100000 in
set_option maxHeartbeats 4000000 in
theorem pf_wCheck (o : Ob) (l : List Op5) (ps : List Pk) (hr : o.R.length ≤ 100000) (ho : o.Ok) (hl : l.length ≤ 100000) (hs : okS l) (hn : ps.length ≤ 100000) (hq : ∀ i, -9223372036854775808 ≤ (pkAt ps i).o ∧ (pkAt ps i).o ≤ 9223372036854775807) : PF Try.prog 15 [obA o, .iv (iOps l), .iv (iPks ps)] fun r H' => r = .tup [lt (.int .i64 (wAt o l ps)), lt (.int .i64 (wE o l ps))] ∧ H' = [] := by
  refine SF.forgetAll ?_
  have hs1 := trivial; have hs2 := trivial; have hs3 := trivial; have hs4 := trivial; have hs5 := trivial; have hs6 := trivial; have hC := trivial; have h4 := trivial; have h5 := trivial
  have h1 := pf_obCheck o hr ho
  have h2 := pf_oChk l hl hs
  have h3 := pf_picks o l ps hr ho (by omega) (by omega) hq
  unfold wAt wE
  by_cases e1 : obE o = 0
  · by_cases e2 : oCE l = 0
    · have c1 : ¬ (obE o ≠ 0 ∨ oCE l ≠ 0) := by simp [e1, e2]
      rw [if_neg c1, if_neg c1]
      rw [e1] at h1
      by_cases e3 : rErr o l o.I ps = 0
      · have c3 : ¬ (rErr o l o.I ps ≠ 0) := by simp [e3]
        rw [if_neg c3, if_neg c3]
        rw [e3] at h3
        have h4 := pf_Order l ps hl hn (endsOk_good (oCE_good e2).2) hq
        have h5 := pf_Missing l ps hl hn
        rw [e2] at h2
        by_cases e4 : 0 ≤ wOrd l ps
        · rw [if_pos e4, if_pos e4]
          generalize wOrd l ps = w at *
          (refine SF_of_bodyX (aload tt) (aload_ok tyOK) Try.func15 rfl (by kernel_rfl) ?_; simp only [Try.ntmps15, List.length_cons, List.length_nil, Nat.reduceAdd, Nat.reduceSub, List.replicate_succ, List.replicate_zero, List.cons_append, List.nil_append])
          unfold iOps iFlat at *
          (refine Wk.o ?_; (repeat revert hK K); refine W7b5aa ?_; (repeat intro K hK); refine ⟨?_⟩)
          (simp only [bodyX]; refine ⟨_, by simp only [aresults, aresult, XS.as, Try.results15, aload, go_sem, Option.bind_some]; rfl, ?_⟩)
          exact ⟨ids_idB rfl, rfl, trivial⟩
        · rw [if_neg e4, if_neg e4]
          have hml := wMs_len l ps endD l.length
          generalize wOrd l ps = w at *
          generalize wMs l ps endD l.length = M at *
          by_cases e5 : 0 < M.length
          · rw [if_pos e5, if_pos e5]
            (refine SF_of_bodyX (aload tt) (aload_ok tyOK) Try.func15 rfl (by kernel_rfl) ?_; simp only [Try.ntmps15, List.length_cons, List.length_nil, Nat.reduceAdd, Nat.reduceSub, List.replicate_succ, List.replicate_zero, List.cons_append, List.nil_append])
            unfold iOps iFlat iInts at *
            (refine Wk.o ?_; (repeat revert hK K); refine W7b5aa ?_; (repeat intro K hK); refine ⟨?_⟩)
            (simp only [bodyX]; refine ⟨_, by simp only [aresults, aresult, XS.as, Try.results15, aload, go_sem, Option.bind_some]; rfl, ?_⟩)
            exact ⟨ids_idB rfl, rfl, trivial⟩
          · rw [if_neg e5, if_neg e5]
            (refine SF_of_bodyX (aload tt) (aload_ok tyOK) Try.func15 rfl (by kernel_rfl) ?_; simp only [Try.ntmps15, List.length_cons, List.length_nil, Nat.reduceAdd, Nat.reduceSub, List.replicate_succ, List.replicate_zero, List.cons_append, List.nil_append])
            unfold iOps iFlat iInts at *
            (refine Wk.o ?_; (repeat revert hK K); refine W7b5aa ?_; (repeat intro K hK); refine ⟨?_⟩)
            (simp only [bodyX]; refine ⟨_, by simp only [aresults, aresult, XS.as, Try.results15, aload, go_sem, Option.bind_some]; rfl, ?_⟩)
            exact ⟨ids_idB rfl, rfl, trivial⟩
      · rw [if_pos e3, if_pos e3]
        rw [e2] at h2
        generalize rErr o l o.I ps = w at *
        (refine SF_of_bodyX (aload tt) (aload_ok tyOK) Try.func15 rfl (by kernel_rfl) ?_; simp only [Try.ntmps15, List.length_cons, List.length_nil, Nat.reduceAdd, Nat.reduceSub, List.replicate_succ, List.replicate_zero, List.cons_append, List.nil_append])
        unfold iOps iFlat at *
        (refine Wk.o ?_; (repeat revert hK K); refine W7b5aa ?_; (repeat intro K hK); refine ⟨?_⟩)
        (simp only [bodyX]; refine ⟨_, by simp only [aresults, aresult, XS.as, Try.results15, aload, go_sem, Option.bind_some]; rfl, ?_⟩)
        exact ⟨ids_idB rfl, rfl, trivial⟩
    · rw [if_pos (.inr e2), if_pos (.inr e2)]
      rw [e1] at h1
      generalize oCE l = w at *
      (refine SF_of_bodyX (aload tt) (aload_ok tyOK) Try.func15 rfl (by kernel_rfl) ?_; simp only [Try.ntmps15, List.length_cons, List.length_nil, Nat.reduceAdd, Nat.reduceSub, List.replicate_succ, List.replicate_zero, List.cons_append, List.nil_append])
      unfold iOps iFlat at *
      (refine Wk.o ?_; (repeat revert hK K); refine W7b5aa ?_; (repeat intro K hK); refine ⟨?_⟩)
      (simp only [bodyX]; refine ⟨_, by simp only [aresults, aresult, XS.as, Try.results15, aload, go_sem, Option.bind_some]; rfl, ?_⟩)
      exact ⟨ids_idB rfl, rfl, trivial⟩
  · rw [if_pos (.inl e1), if_pos (.inl e1)]
    generalize obE o = w at *
    (refine SF_of_bodyX (aload tt) (aload_ok tyOK) Try.func15 rfl (by kernel_rfl) ?_; simp only [Try.ntmps15, List.length_cons, List.length_nil, Nat.reduceAdd, Nat.reduceSub, List.replicate_succ, List.replicate_zero, List.cons_append, List.nil_append])
    unfold iOps iFlat at *
    (refine Wk.o ?_; (repeat revert hK K); refine W7b5aa ?_; (repeat intro K hK); refine ⟨?_⟩)
    (simp only [bodyX]; refine ⟨_, by simp only [aresults, aresult, XS.as, Try.results15, aload, go_sem, Option.bind_some]; rfl, ?_⟩)
    exact ⟨ids_idB rfl, rfl, trivial⟩
set_option maxRecDepth 100000 in
set_option maxHeartbeats 1000000 in
theorem pf_wIs (o : Ob) (l : List Op5) (ps : List Pk) (hr : o.R.length ≤ 100000) (ho : o.Ok) (hl : l.length ≤ 100000) (hs : okS l) (hn : ps.length ≤ 100000) (hq : ∀ i, -9223372036854775808 ≤ (pkAt ps i).o ∧ (pkAt ps i).o ≤ 9223372036854775807) : PF Try.prog 6 [obA o, .iv (iOps l), .iv (iPks ps)] fun r H' => r = lt (.bool (decide (wE o l ps = 0))) ∧ H' = [] := by
  refine SF.forgetAll ?_
  have hs1 := trivial; have hs2 := trivial; have hs3 := trivial; have hs4 := trivial; have hs5 := trivial; have hs6 := trivial; have hC := trivial; have h4 := trivial; have h5 := trivial
  have h1 := trivial; have h2 := trivial; have h3 := trivial
  have hC := pf_wCheck o l ps hr ho hl hs hn hq
  generalize iOps l = x at *
  generalize wE o l ps = w at *
  by_cases e : w = 0
  · rw [decide_eq_true e]
    subst e
    (refine SF_of_bodyX (aload tt) (aload_ok tyOK) Try.func6 rfl (by kernel_rfl) ?_; simp only [Try.ntmps6, List.length_cons, List.length_nil, Nat.reduceAdd, Nat.reduceSub, List.replicate_succ, List.replicate_zero, List.cons_append, List.nil_append])
    (refine Wk.o ?_; (repeat revert hK K); refine W7b5aa ?_; (repeat intro K hK); refine ⟨?_⟩)
    (simp only [bodyX]; refine ⟨_, by simp only [aresults, aresult, XS.as, Try.results6, aload, go_sem, Option.bind_some]; rfl, ?_⟩)
    exact ⟨.iv _, rfl, trivial⟩
  · rw [decide_eq_false e]
    (refine SF_of_bodyX (aload tt) (aload_ok tyOK) Try.func6 rfl (by kernel_rfl) ?_; simp only [Try.ntmps6, List.length_cons, List.length_nil, Nat.reduceAdd, Nat.reduceSub, List.replicate_succ, List.replicate_zero, List.cons_append, List.nil_append])
    (refine Wk.o ?_; (repeat revert hK K); refine W7b5aa ?_; (repeat intro K hK); refine ⟨?_⟩)
    (simp only [bodyX]; refine ⟨_, by simp only [aresults, aresult, XS.as, Try.results6, aload, go_sem, Option.bind_some]; rfl, ?_⟩)
    exact ⟨.iv _, rfl, trivial⟩
end Go.Proofs.Yteldioinhbpfhaa
namespace Go.Proofs.Yteldioinhbpfhaa
open Go.RowKit
set_option linter.unusedVariables false
set_option linter.unusedSimpArgs false
set_option maxRecDepth 100000 in
set_option maxHeartbeats 1000000 in
theorem pf_sameInts (xs ys : List Int) (hx : xs.length ≤ 1000000) (hy : ys.length ≤ 1000000) : PF Try.prog 18 [.iv (iInts xs), .iv (iInts ys)] fun r H' => r = lt (.bool (decide (xs = ys))) ∧ H' = [] := by
  refine SF.forgetAll ?_
  (refine SF_of_bodyX (aload tt) (aload_ok tyOK) Try.func18 rfl (by kernel_rfl) ?_; simp only [Try.ntmps18, List.length_cons, List.length_nil, Nat.reduceAdd, Nat.reduceSub, List.replicate_succ, List.replicate_zero, List.cons_append, List.nil_append])
  unfold iInts
  by_cases hl : xs.length = ys.length
  · (repeat (first | (first | (with_reducible first | refine AX_block ?_ | refine AX_skip ?_ | refine AX_exit ?_ | refine AX_ret ?_ | refine AX_ift ?_ | refine AX_iff ?_ | refine AX_seq_k (fun K hK => ?_) | refine ContX.use (by assumption) ?_) | simp only [thenX, inBlockX, if_true, if_false, reduceCtorEq]) | (first | ((with_reducible first | refine XOP tyOK ?_ | refine AOP tyOK ?_); simp (disch := omega) only [go_sem , List.length_nil]; (with_reducible first | refine XRes_id ?_ | refine ADF_id ?_)) | (with_reducible first | refine XSK ?_ | refine ASK ?_)) | ((first | (with_reducible refine XRes_nil ?_) | (with_reducible refine ADF_nil ?_)); (first | refine hK _ ?_ | refine hK _ _ ?_); clear hK K) | ((first | (with_reducible refine AX_reg0 fun K hK => ?_) | (refine AX_drawG1 tyOK (by kernel_rfl) (by rfl) (by kernel_rfl) fun K hK => ?_)); simp only [go_sem]) | fail))
    (refine AWH (σ := Nat) [11, 12, 13, 14, 17, 18, 19, 20, 21, 22, 23, 24, 25, 4, 15, 16] (fun k => [(5, lint k)]) (fun k => []) (fun k => []) (fun k => k ≤ xs.length ∧ ∀ i, i < k → xs.getD i 0 = ys.getD i 0) (fun k => xs.length - k) 0 (by first | exact ⟨Nat.zero_le _, fun i h => absurd h (by omega)⟩) ?_; rintro k d fr hfr ⟨hk, hp⟩; simp only [updS, deadS, List.set_cons_succ, List.set_cons_zero, lint] at hfr; subst hfr; (try dsimp only))
    (repeat' (first | (first | (with_reducible first | refine AX_block ?_ | refine AX_skip ?_ | refine AX_exit ?_ | refine AX_ret ?_ | refine AX_ift ?_ | refine AX_iff ?_ | refine AX_seq_k (fun K hK => ?_) | refine ContX.use (by assumption) ?_) | simp only [thenX, inBlockX, if_true, if_false, reduceCtorEq]) | (first | ((with_reducible first | refine XOP tyOK ?_ | refine AOP tyOK ?_); simp (disch := omega) only [go_sem , List.length_nil]; (with_reducible first | refine XRes_id ?_ | refine ADF_id ?_)) | (with_reducible first | refine XSK ?_ | refine ASK ?_)) | ((first | (with_reducible refine XRes_nil ?_) | (with_reducible refine ADF_nil ?_)); (first | refine hK _ ?_ | refine hK _ _ ?_); clear hK K) | ((first | (with_reducible refine AX_reg0 fun K hK => ?_) | (refine AX_drawG1 tyOK (by kernel_rfl) (by rfl) (by kernel_rfl) fun K hK => ?_)); simp only [go_sem]) | fail | ((first | (refine XRes_splitG (by rfl) (fun hc => ?_) (fun hc => ?_)) | (refine ADF_splitG (by rfl) (fun hc => ?_) (fun hc => ?_))) <;> (try simp only [eqRes, List.cons_beq_cons, Bool.and_eq_true, Bool.not_eq_true, Bool.and_eq_false_iff, decide_eq_true_eq, decide_eq_false_iff_not, bne_iff_ne, beq_iff_eq, bne_eq_false_iff_eq, beq_eq_false_iff_ne, Bool.not_eq_true', Bool.not_eq_false', ne_eq, Int.not_lt, Int.not_le, Decidable.not_not] at hc) <;> simp only [List.set_cons_succ, List.set_cons_zero]) | (first | ((with_reducible refine AX_if_t ?_ ?_); focus (simp (disch := omega) only [go_sem , List.length_nil]; done)) | ((with_reducible refine AX_if_f ?_ ?_); focus (simp (disch := omega) only [go_sem , List.length_nil]; done)) | (refine AX_cond _ (by rfl) (fun hc => ?_) (fun hc => ?_) <;> (try simp only [eqRes, List.cons_beq_cons, Bool.and_eq_true, Bool.not_eq_true, Bool.and_eq_false_iff, decide_eq_true_eq, decide_eq_false_iff_not, bne_iff_ne, beq_iff_eq, bne_eq_false_iff_eq, beq_eq_false_iff_ne, Bool.not_eq_true', Bool.not_eq_false', ne_eq, Int.not_lt, Int.not_le, Decidable.not_not] at hc)))))
    · (simp only [bodyX]; refine ⟨_, by simp only [aresults, aresult, XS.as, Try.results18, aload, go_sem, Option.bind_some]; rfl, ?_⟩)
      exact ⟨.iv _, (by rw [decide_eq_false]; intro e; subst e; exact hc rfl), trivial⟩
    · exact whx_end (k + 1) ⟨by omega, fun i hi => by
        rcases Nat.lt_or_ge i k with h | h
        · exact hp i h
        · rw [show i = k by omega]; exact hc⟩ (by (first | omega | (dsimp only; omega) | (simp only; omega))) rfl (by first | rfl | (simp (disch := omega) only [go_sem, lint])) (fun d => by first | ((simp only [deadS, updS, List.set_cons_succ, List.set_cons_zero, lint, List.length_nil, List.length_cons]); done) | ((simp only [deadS, updS, List.set_cons_succ, List.set_cons_zero, lint, List.length_nil, List.length_cons]); rfl) | rfl)
    · (simp only [bodyX]; refine ⟨_, by simp only [aresults, aresult, XS.as, Try.results18, aload, go_sem, Option.bind_some]; rfl, ?_⟩)
      refine ⟨.iv _, (by
        rw [decide_eq_true]
        apply List.ext_getElem hl
        intro i h1 h2
        have := hp i (by omega)
        simpa [List.getD, h1, h2] using this), trivial⟩
  · (repeat' (first | (first | (with_reducible first | refine AX_block ?_ | refine AX_skip ?_ | refine AX_exit ?_ | refine AX_ret ?_ | refine AX_ift ?_ | refine AX_iff ?_ | refine AX_seq_k (fun K hK => ?_) | refine ContX.use (by assumption) ?_) | simp only [thenX, inBlockX, if_true, if_false, reduceCtorEq]) | (first | ((with_reducible first | refine XOP tyOK ?_ | refine AOP tyOK ?_); simp (disch := omega) only [go_sem , List.length_nil]; (with_reducible first | refine XRes_id ?_ | refine ADF_id ?_)) | (with_reducible first | refine XSK ?_ | refine ASK ?_)) | ((first | (with_reducible refine XRes_nil ?_) | (with_reducible refine ADF_nil ?_)); (first | refine hK _ ?_ | refine hK _ _ ?_); clear hK K) | ((first | (with_reducible refine AX_reg0 fun K hK => ?_) | (refine AX_drawG1 tyOK (by kernel_rfl) (by rfl) (by kernel_rfl) fun K hK => ?_)); simp only [go_sem]) | fail | ((first | (refine XRes_splitG (by rfl) (fun hc => ?_) (fun hc => ?_)) | (refine ADF_splitG (by rfl) (fun hc => ?_) (fun hc => ?_))) <;> (try simp only [eqRes, List.cons_beq_cons, Bool.and_eq_true, Bool.not_eq_true, Bool.and_eq_false_iff, decide_eq_true_eq, decide_eq_false_iff_not, bne_iff_ne, beq_iff_eq, bne_eq_false_iff_eq, beq_eq_false_iff_ne, Bool.not_eq_true', Bool.not_eq_false', ne_eq, Int.not_lt, Int.not_le, Decidable.not_not] at hc) <;> simp only [List.set_cons_succ, List.set_cons_zero]) | (first | ((with_reducible refine AX_if_t ?_ ?_); focus (simp (disch := omega) only [go_sem , List.length_nil]; done)) | ((with_reducible refine AX_if_f ?_ ?_); focus (simp (disch := omega) only [go_sem , List.length_nil]; done)) | (refine AX_cond _ (by rfl) (fun hc => ?_) (fun hc => ?_) <;> (try simp only [eqRes, List.cons_beq_cons, Bool.and_eq_true, Bool.not_eq_true, Bool.and_eq_false_iff, decide_eq_true_eq, decide_eq_false_iff_not, bne_iff_ne, beq_iff_eq, bne_eq_false_iff_eq, beq_eq_false_iff_ne, Bool.not_eq_true', Bool.not_eq_false', ne_eq, Int.not_lt, Int.not_le, Decidable.not_not] at hc)))))
    (simp only [bodyX]; refine ⟨_, by simp only [aresults, aresult, XS.as, Try.results18, aload, go_sem, Option.bind_some]; rfl, ?_⟩)
    exact ⟨.iv _, (by rw [decide_eq_false]; intro e; subst e; exact hl rfl), trivial⟩
end Go.Proofs.Yteldioinhbpfhaa
namespace Go.Proofs.Yteldioinhbpfhaa
open Go.RowKit
set_option linter.unusedVariables false
set_option linter.unusedSimpArgs false
def w1 : Ob := ⟨1, 1, 0, [⟨0, 0, 0, 7⟩]⟩
def w3 : List Op5 := [⟨1, 0, 0, 1, 7⟩, ⟨1, 0, 2, 3, 7⟩, ⟨2, 0, 4, -1, -1⟩]
abbrev w1A : AV := .agg [lt (.int .i64 1), lt (.int .i64 1), lt (.int .i64 0), .iv (iFlat [0, 0, 0, 7] 1 4)]
abbrev w3A : AV := .iv (iFlat [1, 0, 0, 1, 7, 1, 0, 2, 3, 7, 2, 0, 4, -1, -1] 3 5)
theorem w1_ok : w1.Ok := ⟨by decide, by decide, by decide⟩
theorem pk_loW {ps : List Pk} (h : ∀ p ∈ ps, -9223372036854775808 ≤ p.o ∧ p.o ≤ 9223372036854775807) (i : Nat) : -9223372036854775808 ≤ (pkAt ps i).o ∧ (pkAt ps i).o ≤ 9223372036854775807 := by
  unfold pkAt
  rcases Nat.lt_or_ge i ps.length with hi | hi
  · rw [List.getD_eq_getElem?_getD, List.getElem?_eq_getElem hi]
    exact h _ (List.getElem_mem hi)
  · rw [List.getD_eq_getElem?_getD, List.getElem?_eq_none hi]; decide
theorem okS_of {l : List Op5} (h : ∀ x ∈ l, -9223372036854775808 ≤ x.s ∧ x.s ≤ 9223372036854775807) : okS l := fun i => by
  unfold oAt
  rcases Nat.lt_or_ge i l.length with hi | hi
  · rw [List.getD_eq_getElem?_getD, List.getElem?_eq_getElem hi]
    exact h _ (List.getElem_mem hi)
  · rw [List.getD_eq_getElem?_getD, List.getElem?_eq_none hi]; decide
theorem w3_s : okS w3 := okS_of (by decide)
theorem q_wChk (ps : List Pk) (a e : Int) (ha : wAt w1 w3 ps = a) (he : wE w1 w3 ps = e) (hl : ps.length ≤ 100000) (hq : ∀ p ∈ ps, -9223372036854775808 ≤ p.o ∧ p.o ≤ 9223372036854775807) : PF Try.prog 15 [w1A, w3A, .iv (iPks ps)] fun r H' => r = .tup [lt (.int .i64 a), lt (.int .i64 e)] ∧ H' = [] := by
  have h := pf_wCheck w1 w3 ps (by decide) w1_ok (by decide) w3_s hl (pk_loW hq)
  rw [ha, he] at h
  exact h
theorem q_wIs (ps : List Pk) (b : Bool) (he : decide (wE w1 w3 ps = 0) = b) (hl : ps.length ≤ 100000) (hq : ∀ p ∈ ps, -9223372036854775808 ≤ p.o ∧ p.o ≤ 9223372036854775807) : PF Try.prog 6 [w1A, w3A, .iv (iPks ps)] fun r H' => r = lt (.bool b) ∧ H' = [] := by
  have h := pf_wIs w1 w3 ps (by decide) w1_ok (by decide) w3_s hl (pk_loW hq)
  rw [he] at h
  exact h
theorem q_wOrd (ps : List Pk) (a : Int) (ha : wOrd w3 ps = a) (hl : ps.length ≤ 100000) (hq : ∀ p ∈ ps, -9223372036854775808 ≤ p.o ∧ p.o ≤ 9223372036854775807) : PF Try.prog 9 [w3A, .iv (iPks ps)] fun r H' => r = lt (.int .i64 a) ∧ H' = [] := by
  have h := pf_Order w3 ps (by decide) hl (endsOk_good (by decide)) (pk_loW hq)
  rw [ha] at h
  exact h
theorem q_wMis : PF Try.prog 8 [w3A, .iv (iFlat [1, 7] 1 2)] fun r H' => r = .iv (iFlat [0] 1 1) ∧ H' = [] := by
  have h := pf_Missing w3 [⟨1, 7⟩] (by decide) (by decide)
  rw [show wMs w3 [⟨1, 7⟩] endD w3.length = [0] by decide +kernel] at h
  exact h
theorem ra_nilW {n : Nat} {G : Gh} {get : Nat → IV} {sz : Nat} {v : Value} (h : RA n G (lt (.slice none 0 0)) v) : RA n G (.iv (.sl get 0 sz)) v := by
  cases h with
  | iv _ _ h => cases h with
    | lit => exact .iv _ _ (.nil _ _ _ (Nat.zero_le _))
theorem rl2_nil {n : Nat} {G : Gh} {x : AV} {get : Nat → IV} {sz : Nat} {vs : List Value} (h : RL n G [x, lt (.slice none 0 0)] vs) : RL n G [x, .iv (.sl get 0 sz)] vs := by
  obtain ⟨v1, t1, rfl, a1, r1⟩ := h.uncons
  obtain ⟨v2, t2, rfl, a2, r2⟩ := r1.uncons
  exact RL.cons a1 (RL.cons (ra_nilW a2) r2)
theorem rl3_nil {n : Nat} {G : Gh} {x y : AV} {get : Nat → IV} {sz : Nat} {vs : List Value} (h : RL n G [x, y, lt (.slice none 0 0)] vs) : RL n G [x, y, .iv (.sl get 0 sz)] vs := h.last3 fun v hv => ra_nilW hv
theorem q_wIs0 : PF Try.prog 6 [w1A, w3A, lt (.slice none 0 0)] fun r H' => r = lt (.bool false) ∧ H' = [] :=
  SF.args (q_wIs [] false (by decide +kernel) (by decide) (by decide)) fun G vs hv => rl3_nil hv
theorem q_wLeft : PF Try.prog 10 [w3A, lt (.slice none 0 0)] fun r H' => r = .iv (iFlat [2] 1 1) ∧ H' = [] := by
  have h := pf_Left w3 [] (by decide) (by decide)
  rw [show wMs w3 [] pendD w3.length = [2] by decide +kernel] at h
  exact SF.args h fun G vs hv => rl2_nil hv
theorem ra_agg4 {n : Nat} {G : Gh} {x y z u u' : AV} {v : Value} (h : RA n G (.agg [x, y, z, u]) v) (h1 : u'.one = true) (he : ∀ v, RA n G u v → RA n G u' v) : RA n G (.agg [x, y, z, u']) v := by
  cases h with
  | agg _ vs k1 k2 k3 =>
    refine .agg _ vs k1 (fun i a b e1 e2 => ?_) ?_
    · match i with
      | 0 => exact k2 0 a b e1 e2
      | 1 => exact k2 1 a b e1 e2
      | 2 => exact k2 2 a b e1 e2
      | 3 => simp at e1; subst e1; exact he _ (k2 3 u b rfl e2)
      | i + 4 => simp at e1
    · simp only [List.all_cons, List.all_nil, Bool.and_eq_true, Bool.and_true] at k3 ⊢
      exact ⟨k3.1, k3.2.1, k3.2.2.1, h1⟩
theorem q_wChk0 : PF Try.prog 15 [.agg [lt (.int .i64 0), lt (.int .i64 0), lt (.int .i64 0), lt (.slice none 0 0)], lt (.slice none 0 0), lt (.slice none 0 0)] fun r H' => r = .tup [lt (.int .i64 (-1)), lt (.int .i64 2)] ∧ H' = [] := by
  have h := pf_wCheck ⟨0, 0, 0, []⟩ [] [] (by decide) ⟨by decide, by decide, by decide⟩ (by decide) (okS_of (by decide)) (by decide) (pk_loW (by decide))
  rw [show wAt ⟨0, 0, 0, []⟩ [] [] = -1 by decide +kernel, show wE ⟨0, 0, 0, []⟩ [] [] = 2 by decide +kernel] at h
  refine SF.args h fun G vs hv => ?_
  obtain ⟨v1, t1, rfl, a1, r1⟩ := hv.uncons
  obtain ⟨v2, t2, rfl, a2, r2⟩ := r1.uncons
  obtain ⟨v3, t3, rfl, a3, r3⟩ := r2.uncons
  exact RL.cons (ra_agg4 a1 rfl fun v h => ra_nilW h) (RL.cons (ra_nilW a2) (RL.cons (ra_nilW a3) r3))
theorem q_SIW (L : List Int) (hL : L.length ≤ 1000000) : PF Try.prog 18 [.iv (iInts L), .iv (iInts L)] fun r H' => r = lt (.bool true) ∧ H' = [] := by
  have h := pf_sameInts L L hL hL
  rwa [decide_eq_true rfl] at h
set_option maxRecDepth 100000 in
set_option maxHeartbeats 1000000 in
theorem pf_one29 : PF Try.prog 16 [] fun r H' => r = w1A ∧ H' = [] := by
  refine SF.frozen ?_
  (refine SF_of_bodyX (aload tt) (aload_ok tyOK) Try.func16 rfl (by kernel_rfl) ?_; simp only [Try.ntmps16, List.length_cons, List.length_nil, Nat.reduceAdd, Nat.reduceSub, List.replicate_succ, List.replicate_zero, List.cons_append, List.nil_append])
  repeat (first | (first | (with_reducible first | refine AX_block ?_ | refine AX_skip ?_ | refine AX_exit ?_ | refine AX_ret ?_ | refine AX_ift ?_ | refine AX_iff ?_ | refine AX_seq_k (fun K hK => ?_) | refine ContX.use (by assumption) ?_) | simp only [thenX, inBlockX, if_true, if_false, reduceCtorEq]) | ((first | (refine XRes_litF tyOK (by rfl) rfl (by decide) rfl rfl ?_) | (refine ADF_litF tyOK (by rfl) rfl (by decide) rfl rfl ?_)); (simp only [List.map_cons, List.map_nil, intOf, putL, List.set_cons_succ, List.set_cons_zero])) | (first | ((first | (with_reducible refine XRes_op tyOK ?_ ?_) | ((with_reducible first | refine ADF_op tyOK ?_ ?_ ?_ | refine ADX_op tyOK ?_ ?_ ?_); (focus rfl)) | (with_reducible refine ADR_alloc1 tyOK ?_ ?_) | ((with_reducible refine ADR_free1 tyOK ?_ ?_ ?_); (focus rfl)) | ((with_reducible refine ADR_free0 tyOK ?_ ?_ ?_); (focus rfl)) | ((with_reducible refine ADR_read1 tyOK ?_ ?_ ?_); (focus rfl)) | (with_reducible refine ADR_chg1 tyOK ?_ ?_)); (focus (first | (with_reducible rfl) | ((simp (disch := omega) only [go_sem]); done))); simp (disch := omega) only [go_sem , iFlat, iInts, List.getD_cons_zero, List.getD_cons_succ, Int.reduceToNat, Int.toNat_zero, Int.toNat_one, Nat.zero_mul, Nat.one_mul, Nat.zero_add, Nat.reduceMul, Nat.reduceAdd, Nat.reduceSub]; (first | (with_reducible refine XRes_id ?_) | (with_reducible refine ADF_id ?_) | (with_reducible refine ADR_id1 ?_) | (with_reducible refine ADX_id ?_))) | ((first | (with_reducible refine XRes_skip ?_ ?_) | (with_reducible refine ADF_skip (b := true) ?_ ?_) | (with_reducible refine ADX_skip ?_ ?_) | ((with_reducible refine ADR_skip1 ?_ ?_ ?_); (focus rfl))); (focus (first | rfl | ((simp (disch := omega) only [go_sem]); done))); (simp only [putL, List.set_cons_succ, List.set_cons_zero]))) | ((first | (with_reducible refine XRes_nil ?_) | (with_reducible refine ADF_nil ?_) | (with_reducible refine ADR_nil ?_) | (with_reducible refine ADX_nil ?_)); (first | refine hK _ ?_ | refine hK _ _ ?_); clear hK K) | ((refine AX_drawG tyOK (by kernel_rfl) (by kernel_rfl) fun K hK => ?_); (simp only [dsts, lapp_cons, lapp_nil, List.map_cons, List.map_nil, strip_mk, strip_gd, gix_some, List.getElem?_cons_succ, List.getElem?_cons_zero, Nat.reduceAdd])) | ((first | (with_reducible refine AX_reg0 fun K hK => ?_) | (refine AX_drawG1 tyOK (by kernel_rfl) (by rfl) (by kernel_rfl) fun K hK => ?_) | (refine AX_drawT tyOK (by kernel_rfl) (by decide +kernel) fun K hK => ?_) | (refine AX_drawM1 (by kernel_rfl) (by rfl) (by decide +kernel) fun K hK => ?_) | (refine AX_drawA tyOK (by kernel_rfl) (by decide +kernel) fun K hK => ?_)); (first | simp only [go_sem, preN, effOp, runF, alM, mapOp, alD2, kdOf2, Bool.not_false, Bool.not_true, reduceCtorEq] | simp only [go_sem, preN, effOp, runF, alM, mapOp, Bool.not_false, Bool.not_true, reduceCtorEq] | simp only [go_sem, preN, effOp, runF, alD2, kdOf2, Bool.not_false, Bool.not_true, reduceCtorEq] | simp only [go_sem, alD2, kdOf2, Bool.not_false, Bool.not_true, reduceCtorEq] | simp only [go_sem, preN, effOp, runF, Bool.not_false, Bool.not_true, reduceCtorEq] | simp only [go_sem])))
  (simp only [bodyX]; refine ⟨_, by simp only [aresults, aresult, XS.as, Try.results16, aload, go_sem, Option.bind_some]; rfl, ?_⟩)
  exact ⟨_, .same _ (ids_idB rfl), rfl, trivial⟩
set_option maxRecDepth 100000 in
set_option maxHeartbeats 1000000 in
theorem pf_three29 : PF Try.prog 17 [] fun r H' => r = w3A ∧ H' = [] := by
  refine SF.forgetAll ?_
  (refine SF_of_bodyX (aload tt) (aload_ok tyOK) Try.func17 rfl (by kernel_rfl) ?_; simp only [Try.ntmps17, List.length_cons, List.length_nil, Nat.reduceAdd, Nat.reduceSub, List.replicate_succ, List.replicate_zero, List.cons_append, List.nil_append])
  repeat (first | (first | (with_reducible first | refine AX_block ?_ | refine AX_skip ?_ | refine AX_exit ?_ | refine AX_ret ?_ | refine AX_ift ?_ | refine AX_iff ?_ | refine AX_seq_k (fun K hK => ?_) | refine ContX.use (by assumption) ?_) | simp only [thenX, inBlockX, if_true, if_false, reduceCtorEq]) | ((first | (refine XRes_litF tyOK (by rfl) rfl (by decide) rfl rfl ?_) | (refine ADF_litF tyOK (by rfl) rfl (by decide) rfl rfl ?_)); (simp only [List.map_cons, List.map_nil, intOf, putL, List.set_cons_succ, List.set_cons_zero])) | (first | ((first | (with_reducible refine XRes_op tyOK ?_ ?_) | ((with_reducible first | refine ADF_op tyOK ?_ ?_ ?_ | refine ADX_op tyOK ?_ ?_ ?_); (focus rfl)) | (with_reducible refine ADR_alloc1 tyOK ?_ ?_) | ((with_reducible refine ADR_free1 tyOK ?_ ?_ ?_); (focus rfl)) | ((with_reducible refine ADR_free0 tyOK ?_ ?_ ?_); (focus rfl)) | ((with_reducible refine ADR_read1 tyOK ?_ ?_ ?_); (focus rfl)) | (with_reducible refine ADR_chg1 tyOK ?_ ?_)); (focus (first | (with_reducible rfl) | ((simp (disch := omega) only [go_sem]); done))); simp (disch := omega) only [go_sem , iFlat, iInts, List.getD_cons_zero, List.getD_cons_succ, Int.reduceToNat, Int.toNat_zero, Int.toNat_one, Nat.zero_mul, Nat.one_mul, Nat.zero_add, Nat.reduceMul, Nat.reduceAdd, Nat.reduceSub]; (first | (with_reducible refine XRes_id ?_) | (with_reducible refine ADF_id ?_) | (with_reducible refine ADR_id1 ?_) | (with_reducible refine ADX_id ?_))) | ((first | (with_reducible refine XRes_skip ?_ ?_) | (with_reducible refine ADF_skip (b := true) ?_ ?_) | (with_reducible refine ADX_skip ?_ ?_) | ((with_reducible refine ADR_skip1 ?_ ?_ ?_); (focus rfl))); (focus (first | rfl | ((simp (disch := omega) only [go_sem]); done))); (simp only [putL, List.set_cons_succ, List.set_cons_zero]))) | ((first | (with_reducible refine XRes_nil ?_) | (with_reducible refine ADF_nil ?_) | (with_reducible refine ADR_nil ?_) | (with_reducible refine ADX_nil ?_)); (first | refine hK _ ?_ | refine hK _ _ ?_); clear hK K) | ((refine AX_drawG tyOK (by kernel_rfl) (by kernel_rfl) fun K hK => ?_); (simp only [dsts, lapp_cons, lapp_nil, List.map_cons, List.map_nil, strip_mk, strip_gd, gix_some, List.getElem?_cons_succ, List.getElem?_cons_zero, Nat.reduceAdd])) | ((first | (with_reducible refine AX_reg0 fun K hK => ?_) | (refine AX_drawG1 tyOK (by kernel_rfl) (by rfl) (by kernel_rfl) fun K hK => ?_) | (refine AX_drawT tyOK (by kernel_rfl) (by decide +kernel) fun K hK => ?_) | (refine AX_drawM1 (by kernel_rfl) (by rfl) (by decide +kernel) fun K hK => ?_) | (refine AX_drawA tyOK (by kernel_rfl) (by decide +kernel) fun K hK => ?_)); (first | simp only [go_sem, preN, effOp, runF, alM, mapOp, alD2, kdOf2, Bool.not_false, Bool.not_true, reduceCtorEq] | simp only [go_sem, preN, effOp, runF, alM, mapOp, Bool.not_false, Bool.not_true, reduceCtorEq] | simp only [go_sem, preN, effOp, runF, alD2, kdOf2, Bool.not_false, Bool.not_true, reduceCtorEq] | simp only [go_sem, alD2, kdOf2, Bool.not_false, Bool.not_true, reduceCtorEq] | simp only [go_sem, preN, effOp, runF, Bool.not_false, Bool.not_true, reduceCtorEq] | simp only [go_sem])))
  (simp only [bodyX]; refine ⟨_, by simp only [aresults, aresult, XS.as, Try.results17, aload, go_sem, Option.bind_some]; rfl, ?_⟩)
  exact ⟨.iv _, rfl, trivial⟩
set_option maxRecDepth 100000 in
set_option maxHeartbeats 8000000 in
theorem pf_awake29 : PF Try.prog 7 [] fun r H' => r = lt (.bool true) ∧ H' = [] := by
  refine SF.forgetAll ?_
  (refine SF_of_bodyX (aload tt) (aload_ok tyOK) Try.func7 rfl (by kernel_rfl) ?_; simp only [Try.ntmps7, List.length_cons, List.length_nil, Nat.reduceAdd, Nat.reduceSub, List.replicate_succ, List.replicate_zero, List.cons_append, List.nil_append])
  repeat (first | (first | (with_reducible first | refine AX_block ?_ | refine AX_skip ?_ | refine AX_exit ?_ | refine AX_ret ?_ | refine AX_ift ?_ | refine AX_iff ?_ | refine AX_seq_k (fun K hK => ?_) | refine ContX.use (by assumption) ?_) | simp only [thenX, inBlockX, if_true, if_false, reduceCtorEq]) | ((first | (refine XRes_litF tyOK (by rfl) rfl (by decide) rfl rfl ?_) | (refine ADF_litF tyOK (by rfl) rfl (by decide) rfl rfl ?_)); (simp only [List.map_cons, List.map_nil, intOf, putL, List.set_cons_succ, List.set_cons_zero])) | (first | (first | refine XTL (by rfl) pf_one29 ?_ | refine ATL tyOK (by rfl) pf_one29 ?_ | refine XTL (by rfl) pf_three29 ?_ | refine ATL tyOK (by rfl) pf_three29 ?_ | refine XTL (by rfl) (q_wChk [⟨0, 7⟩, ⟨1, 7⟩, ⟨2, 7⟩] 3 0 (by decide +kernel) (by decide +kernel) (by decide) (by decide)) ?_ | refine ATL tyOK (by rfl) (q_wChk [⟨0, 7⟩, ⟨1, 7⟩, ⟨2, 7⟩] 3 0 (by decide +kernel) (by decide +kernel) (by decide) (by decide)) ?_ | refine XTL (by rfl) (q_wChk [⟨1, 7⟩, ⟨0, 7⟩] 0 42 (by decide +kernel) (by decide +kernel) (by decide) (by decide)) ?_ | refine ATL tyOK (by rfl) (q_wChk [⟨1, 7⟩, ⟨0, 7⟩] 0 42 (by decide +kernel) (by decide +kernel) (by decide) (by decide)) ?_ | refine XTL (by rfl) (q_wChk [⟨0, 7⟩] 1 41 (by decide +kernel) (by decide +kernel) (by decide) (by decide)) ?_ | refine ATL tyOK (by rfl) (q_wChk [⟨0, 7⟩] 1 41 (by decide +kernel) (by decide +kernel) (by decide) (by decide)) ?_ | refine XTL (by rfl) (q_wChk [⟨0, 7⟩, ⟨0, 7⟩] 1 21 (by decide +kernel) (by decide +kernel) (by decide) (by decide)) ?_ | refine ATL tyOK (by rfl) (q_wChk [⟨0, 7⟩, ⟨0, 7⟩] 1 21 (by decide +kernel) (by decide +kernel) (by decide) (by decide)) ?_ | refine XTL (by rfl) q_wChk0 ?_ | refine ATL tyOK (by rfl) q_wChk0 ?_ | refine XTL (by rfl) (q_wIs [⟨0, 7⟩, ⟨1, 7⟩] true (by decide +kernel) (by decide) (by decide)) ?_ | refine ATL tyOK (by rfl) (q_wIs [⟨0, 7⟩, ⟨1, 7⟩] true (by decide +kernel) (by decide) (by decide)) ?_ | refine XTL (by rfl) q_wIs0 ?_ | refine ATL tyOK (by rfl) q_wIs0 ?_ | refine XTL (by rfl) (q_wOrd [⟨2, 7⟩] 0 (by decide +kernel) (by decide) (by decide)) ?_ | refine ATL tyOK (by rfl) (q_wOrd [⟨2, 7⟩] 0 (by decide +kernel) (by decide) (by decide)) ?_ | refine XTL (by rfl) (q_wOrd [⟨0, 7⟩, ⟨1, 7⟩, ⟨2, 7⟩] (-1) (by decide +kernel) (by decide) (by decide)) ?_ | refine ATL tyOK (by rfl) (q_wOrd [⟨0, 7⟩, ⟨1, 7⟩, ⟨2, 7⟩] (-1) (by decide +kernel) (by decide) (by decide)) ?_ | refine XTL (by rfl) q_wMis ?_ | refine ATL tyOK (by rfl) q_wMis ?_ | refine XTL (by rfl) q_wLeft ?_ | refine ATL tyOK (by rfl) q_wLeft ?_ | refine XTL (by rfl) (q_SIW [0] (by decide)) ?_ | refine ATL tyOK (by rfl) (q_SIW [0] (by decide)) ?_ | refine XTL (by rfl) (q_SIW [2] (by decide)) ?_ | refine ATL tyOK (by rfl) (q_SIW [2] (by decide)) ?_)) | (first | ((first | (with_reducible refine XRes_op tyOK ?_ ?_) | ((with_reducible first | refine ADF_op tyOK ?_ ?_ ?_ | refine ADX_op tyOK ?_ ?_ ?_); (focus rfl)) | (with_reducible refine ADR_alloc1 tyOK ?_ ?_) | ((with_reducible refine ADR_free1 tyOK ?_ ?_ ?_); (focus rfl)) | ((with_reducible refine ADR_free0 tyOK ?_ ?_ ?_); (focus rfl)) | ((with_reducible refine ADR_read1 tyOK ?_ ?_ ?_); (focus rfl)) | (with_reducible refine ADR_chg1 tyOK ?_ ?_)); (focus (first | (with_reducible rfl) | ((simp (disch := omega) only [go_sem]); done))); simp (disch := omega) only [go_sem , iFlat, iInts, List.getD_cons_zero, List.getD_cons_succ, Int.reduceToNat, Int.toNat_zero, Int.toNat_one, Nat.zero_mul, Nat.one_mul, Nat.zero_add, Nat.reduceMul, Nat.reduceAdd, Nat.reduceSub]; (first | (with_reducible refine XRes_id ?_) | (with_reducible refine ADF_id ?_) | (with_reducible refine ADR_id1 ?_) | (with_reducible refine ADX_id ?_))) | ((first | (with_reducible refine XRes_skip ?_ ?_) | (with_reducible refine ADF_skip (b := true) ?_ ?_) | (with_reducible refine ADX_skip ?_ ?_) | ((with_reducible refine ADR_skip1 ?_ ?_ ?_); (focus rfl))); (focus (first | rfl | ((simp (disch := omega) only [go_sem]); done))); (simp only [putL, List.set_cons_succ, List.set_cons_zero]))) | ((first | (with_reducible refine XRes_nil ?_) | (with_reducible refine ADF_nil ?_) | (with_reducible refine ADR_nil ?_) | (with_reducible refine ADX_nil ?_)); (first | refine hK _ ?_ | refine hK _ _ ?_); clear hK K) | ((refine AX_drawG tyOK (by kernel_rfl) (by kernel_rfl) fun K hK => ?_); (simp only [dsts, lapp_cons, lapp_nil, List.map_cons, List.map_nil, strip_mk, strip_gd, gix_some, List.getElem?_cons_succ, List.getElem?_cons_zero, Nat.reduceAdd])) | ((first | (with_reducible refine AX_reg0 fun K hK => ?_) | (refine AX_drawG1 tyOK (by kernel_rfl) (by rfl) (by kernel_rfl) fun K hK => ?_) | (refine AX_drawT tyOK (by kernel_rfl) (by decide +kernel) fun K hK => ?_) | (refine AX_drawM1 (by kernel_rfl) (by rfl) (by decide +kernel) fun K hK => ?_) | (refine AX_drawA tyOK (by kernel_rfl) (by decide +kernel) fun K hK => ?_)); (first | simp only [go_sem, preN, effOp, runF, alM, mapOp, alD2, kdOf2, Bool.not_false, Bool.not_true, reduceCtorEq] | simp only [go_sem, preN, effOp, runF, alM, mapOp, Bool.not_false, Bool.not_true, reduceCtorEq] | simp only [go_sem, preN, effOp, runF, alD2, kdOf2, Bool.not_false, Bool.not_true, reduceCtorEq] | simp only [go_sem, alD2, kdOf2, Bool.not_false, Bool.not_true, reduceCtorEq] | simp only [go_sem, preN, effOp, runF, Bool.not_false, Bool.not_true, reduceCtorEq] | simp only [go_sem])))
  (simp only [bodyX]; refine ⟨_, by simp only [aresults, aresult, XS.as, Try.results7, aload, go_sem, Option.bind_some]; rfl, ?_⟩)
  exact ⟨.iv _, rfl, trivial⟩
end Go.Proofs.Yteldioinhbpfhaa
