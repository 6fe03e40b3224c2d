import Derived.Test.YtcanlckenjndbaaMgBG
import Derived.Test.YtcanlckenjndbaaMgAJ
import Derived.Test.YtcanlckenjndbaaMgAX
namespace Go.Proofs.Ytcanlckenjndbaa
open Go.RowKit
set_option linter.unusedVariables false
set_option linter.unusedSimpArgs false
def h8 : List (List Int) := [[-2, 3], [-1, 2], [1]]
theorem h8_len : h8.length = 3 := rfl
set_option maxRecDepth 100000 in
set_option maxHeartbeats 1000000 in
theorem pf_hints8 : PF Try.prog 54 [] fun r H' => r = .iv (iRows h8) ∧ H' = [] := by
  refine SF.forgetAll ?_
  have hs1 := trivial
  (refine SF_of_bodyX (aload tt) (aload_ok tyOK) Try.func54 rfl (by kernel_rfl) ?_; simp only [Try.ntmps54, List.length_cons, List.length_nil, Nat.reduceAdd, Nat.reduceSub, List.replicate_succ, List.replicate_zero, List.cons_append, List.nil_append])
  repeat (first | (first | (with_reducible first | refine AX_block ?_ | refine AX_skip ?_ | refine AX_exit ?_ | refine AX_ret ?_ | refine AX_ift ?_ | refine AX_iff ?_ | refine AX_seq_k (fun K hK => ?_) | refine ContX.use (by assumption) ?_) | simp only [thenX, inBlockX, if_true, if_false, reduceCtorEq]) | ((first | (refine XRes_litF tyOK (by rfl) rfl (by decide) rfl rfl ?_) | (refine ADF_litF tyOK (by rfl) rfl (by decide) rfl rfl ?_) | (refine XRes_litRw tyOK [[-2, 3], [-1, 2], [1]] (by rfl) rfl ?_) | (refine XRes_litRw tyOK [[4, 5]] (by rfl) rfl ?_) | (refine XRes_litRw tyOK [[1], [9, 8], [-1, 2], [-2, 3]] (by rfl) rfl ?_)); (simp only [List.map_cons, List.map_nil, intOf, putL, List.set_cons_succ, List.set_cons_zero])) | (first | ((first | (with_reducible refine XRes_op tyOK ?_ ?_) | ((with_reducible first | refine ADF_op tyOK ?_ ?_ ?_ | refine ADX_op tyOK ?_ ?_ ?_); (focus rfl)) | (with_reducible refine ADR_alloc1 tyOK ?_ ?_) | ((with_reducible refine ADR_free1 tyOK ?_ ?_ ?_); (focus rfl)) | ((with_reducible refine ADR_free0 tyOK ?_ ?_ ?_); (focus rfl)) | ((with_reducible refine ADR_read1 tyOK ?_ ?_ ?_); (focus rfl)) | (with_reducible refine ADR_chg1 tyOK ?_ ?_)); (focus (first | (with_reducible rfl) | ((simp (disch := omega) only [go_sem]); done))); simp (disch := omega) only [go_sem , nI_len, hs1, h8_len, Nat.reduceLeDiff, iFlat, iInts, iRows, List.getD_cons_zero, List.getD_cons_succ, Int.reduceToNat, Int.toNat_zero, Int.toNat_one, Nat.zero_mul, Nat.one_mul, Nat.zero_add, Nat.reduceMul, Nat.reduceAdd, Nat.reduceSub]; (first | (with_reducible refine XRes_id ?_) | (with_reducible refine ADF_id ?_) | (with_reducible refine ADR_id1 ?_) | (with_reducible refine ADX_id ?_))) | ((first | (with_reducible refine XRes_skip ?_ ?_) | (with_reducible refine ADF_skip (b := true) ?_ ?_) | (with_reducible refine ADX_skip ?_ ?_) | ((with_reducible refine ADR_skip1 ?_ ?_ ?_); (focus rfl))); (focus (first | rfl | ((simp (disch := omega) only [go_sem]); done))); (simp only [putL, List.set_cons_succ, List.set_cons_zero]))) | ((first | (with_reducible refine XRes_nil ?_) | (with_reducible refine ADF_nil ?_) | (with_reducible refine ADR_nil ?_) | (with_reducible refine ADX_nil ?_)); (first | refine hK _ ?_ | refine hK _ _ ?_); clear hK K) | ((first | (with_reducible refine AX_reg0 fun K hK => ?_) | (refine AX_drawG1 tyOK (by kernel_rfl) (by rfl) (by kernel_rfl) fun K hK => ?_) | (refine AX_drawT tyOK (by kernel_rfl) (by decide +kernel) fun K hK => ?_) | (refine AX_drawM1 (by kernel_rfl) (by rfl) (by decide +kernel) fun K hK => ?_) | (refine AX_drawA tyOK (by kernel_rfl) (by decide +kernel) fun K hK => ?_)); (first | simp only [go_sem, preN, effOp, runF, alM, mapOp, alD2, kdOf2, Bool.not_false, Bool.not_true, reduceCtorEq] | simp only [go_sem, preN, effOp, runF, alM, mapOp, Bool.not_false, Bool.not_true, reduceCtorEq] | simp only [go_sem, preN, effOp, runF, alD2, kdOf2, Bool.not_false, Bool.not_true, reduceCtorEq] | simp only [go_sem, alD2, kdOf2, Bool.not_false, Bool.not_true, reduceCtorEq] | simp only [go_sem, preN, effOp, runF, Bool.not_false, Bool.not_true, reduceCtorEq] | simp only [go_sem])))
  (simp only [bodyX]; refine ⟨_, by simp only [aresults, aresult, XS.as, Try.results54, aload, go_sem, Option.bind_some]; rfl, ?_⟩)
  exact ⟨.iv _, rfl, trivial⟩
theorem rowsOk_of {R : List (List Int)} (h1 : R.length ≤ 100000) (h2 : ∀ c ∈ R, c.length ≤ 100000) : RowsOk R := ⟨h1, fun k => by
  by_cases hk : k < R.length
  · have : R.getD k [] = R[k] := by simp [List.getD, hk]
    rw [this]; exact h2 _ (List.getElem_mem hk)
  · have : R.getD k [] = [] := by simp [List.getD, List.getElem?_eq_none (show R.length ≤ k by omega)]
    rw [this]; exact Nat.zero_le _⟩
theorem q8_S1 : PF Try.prog 17 [.iv (iInts [3]), .iv (iRows h8)] fun r H' => r = .tup [lt (.int .i64 3), lt (.int .i64 0)] ∧ H' = [] := by
  have h := pf_Show [3] h8 (by decide) (rowsOk_of (by decide) (by decide))
  rw [show shN8 [3] h8 = 3 by decide +kernel, show shE8 [3] h8 = 0 by decide +kernel] at h
  exact h
theorem q8_S2 (g : Nat → IV) (hg : ∀ j, j < 2 → g j = (fun j => .sl (fun i => .lit (.int .i64 ((([[-2, 3], [-1, 2]] : List (List Int)).getD j []).getD i 0))) ((([[-2, 3], [-1, 2]] : List (List Int)).getD j []).length) 1) j) : PF Try.prog 17 [.iv (iInts [3]), .iv (.sl g 2 1)] fun r H' => r = .tup [lt (.int .i64 2), lt (.int .i64 23)] ∧ H' = [] := by
  have h := pf_Show [3] [[-2, 3], [-1, 2]] (by decide) (rowsOk_of (by decide) (by decide))
  rw [show shN8 [3] [[-2, 3], [-1, 2]] = 2 by decide +kernel, show shE8 [3] [[-2, 3], [-1, 2]] = 23 by decide +kernel] at h
  exact SF.args h fun G vs hv => by
    obtain ⟨v1, t1, rfl, a1, r1⟩ := hv.uncons
    obtain ⟨v2, t2, rfl, a2, r2⟩ := r1.uncons
    exact RL.cons a1 (RL.cons (RA.congr a2 fun j hj => hg j (by omega)) r2)
theorem q8_S3 : PF Try.prog 17 [.iv (iInts [3]), .iv (iRows [[4, 5]])] fun r H' => r = .tup [lt (.int .i64 0), lt (.int .i64 22)] ∧ H' = [] := by
  have h := pf_Show [3] [[4, 5]] (by decide) (rowsOk_of (by decide) (by decide))
  rw [show shN8 [3] [[4, 5]] = 0 by decide +kernel, show shE8 [3] [[4, 5]] = 22 by decide +kernel] at h
  exact h
theorem q8_T1 : PF Try.prog 13 [.iv (iInts [3, -4, 3])] fun r H' => r = .tup [.iv (iInts [-3, 4]), lt (.int .i64 0)] ∧ H' = [] := by
  have h := pf_Start [3, -4, 3] (by decide)
  rw [show stR [3, -4, 3] = [-3, 4] by decide +kernel, show stE [3, -4, 3] = 0 by decide +kernel] at h
  exact h
theorem q8_T2 : PF Try.prog 13 [.iv (iInts [3, -3])] fun r H' => r = .tup [.iv (iInts []), lt (.int .i64 11)] ∧ H' = [] := by
  have h := pf_Start [3, -3] (by decide)
  rw [show stR [3, -3] = [] by decide +kernel, show stE [3, -3] = 11 by decide +kernel] at h
  exact h
theorem q8_C : PF Try.prog 15 [.iv (iInts [-3]), .iv (iRows h8)] fun r H' => r = .tup [.iv (iInts [-3, -2, -1]), lt (.int .i64 3), lt (.int .i64 0)] ∧ H' = [] := by
  have h := pf_Chain [-3] h8 (by decide) (rowsOk_of (by decide) (by decide))
  rw [show chn [-3] h8 0 = ([-3, -2, -1], 3, 0) by decide +kernel] at h
  exact h
theorem q8_SI (L : List Int) (hL : L.length ≤ 1000000) : PF Try.prog 21 [.iv (iInts L), .iv (iInts L)] fun r H' => r = lt (.bool true) ∧ H' = [] := by
  have h := pf_sameInts L L hL hL
  rwa [decide_eq_true rfl] at h
def c8 : List (List Int) := [[1], [9, 8], [-1, 2], [-2, 3]]
def S8 : List (List Nat × List Int) := [([], [-3]), ([0], [-3, 1]), ([3], [-3, -2]), ([0, 2], [-3, 1, 2]), ([0, 3], [-3, 1, -2]), ([3, 0], [-3, -2, 1]), ([3, 2], [-3, -2, -1])]
theorem dv8 {is : List Nat} {L : List Int} (h : Dv c8 [-3] is L) : (is, L) ∈ S8 := by
  induction h with
  | nil => decide
  | @snoc is L i _ hi h1 h2 ih =>
    have hall : (S8.all fun p => (List.range 4).all fun i => (aCl p.2 (c8.getD i []) == -1) || !(aUnitOk p.2 (c8.getD i [])) || S8.contains (p.1 ++ [i], p.2 ++ [aUnit p.2 (c8.getD i [])])) = true := by decide +kernel
    have h3 := List.all_eq_true.1 (List.all_eq_true.1 hall _ ih) i (List.mem_range.2 hi)
    dsimp only at h3
    rw [h2, show (aCl L (c8.getD i []) == -1) = false from beq_false_of_ne h1] at h3
    simpa using h3
theorem q8_H : PF Try.prog 24 [.iv (iRows c8), .iv (iInts [3])] fun r H' => ∃ hs : List Nat, hs.length = 3 ∧ r = .tup [.iv (iInts (nI hs)), lt (.bool true)] ∧ H' = [] := by
  refine SF.mono (pf_Hints c8 [3] (by decide) (rowsOk_of (by decide) (by decide)) (by decide)) ?_
  rintro r H' ⟨hs, ok, h1, h2, h3⟩
  unfold HintP at h2
  rw [if_neg (by decide +kernel)] at h2
  have hst : stR [3] = [-3] := by decide +kernel
  rw [hst] at h2
  by_cases hok : ok = true
  · rw [if_pos hok] at h2
    obtain ⟨is, L, i, e1, e2, e3, e4⟩ := h2
    have hall : ∀ p ∈ S8, ∀ i, i < 4 → aCl p.2 (c8.getD i []) = -1 → p.1.length = 2 := by decide +kernel
    have := hall _ (dv8 e2) i e3 e4
    exact ⟨hs, by rw [e1, List.length_append]; show is.length + 1 = 3; have : is.length = 2 := this; omega, by rw [h1, hok], h3⟩
  · rw [if_neg hok] at h2
    obtain ⟨_, is, L, e2, e3⟩ := h2
    have hall : ∀ p ∈ S8, ¬ ∀ i, i < 4 → aCl p.2 (c8.getD i []) ≠ -1 ∧ aUnitOk p.2 (c8.getD i []) = false := by decide +kernel
    exact absurd (fun i hi => e3 i hi) (hall _ (dv8 e2))
set_option maxRecDepth 100000 in
set_option maxHeartbeats 1000000 in
theorem pf_StepC (l h : List Int) (hl : l.length ≤ 1000000) (hh : h.length ≤ 1000000) (hf : Fits' l) (hf2 : Fits' h) (hc : aCl l h = -1) : PF Try.prog 19 [.iv (iInts l), .iv (iInts h)] fun r H' => r = .tup [.iv (iInts l), lt (.bool true), lt (.int .i64 0)] ∧ H' = [] := by
  refine SF.frozen ?_
  have hV := pf_aClause l h hl hh hf hf2
  have hI := pf_CloneO l hl
  rw [hc] at hV
  have hs1 := trivial
  (refine SF_of_bodyX (aload tt) (aload_ok tyOK) Try.func19 rfl (by kernel_rfl) ?_; simp only [Try.ntmps19, List.length_cons, List.length_nil, Nat.reduceAdd, Nat.reduceSub, List.replicate_succ, List.replicate_zero, List.cons_append, List.nil_append])
  repeat (first | (first | (with_reducible first | refine AX_block ?_ | refine AX_skip ?_ | refine AX_exit ?_ | refine AX_ret ?_ | refine AX_ift ?_ | refine AX_iff ?_ | refine AX_seq_k (fun K hK => ?_) | refine ContX.use (by assumption) ?_) | simp only [thenX, inBlockX, if_true, if_false, reduceCtorEq]) | (first | ((first | (with_reducible refine XRes_op tyOK ?_ ?_) | ((with_reducible first | refine ADF_op tyOK ?_ ?_ ?_ | refine ADX_op tyOK ?_ ?_ ?_); (focus rfl)) | (with_reducible refine ADR_alloc1 tyOK ?_ ?_) | ((with_reducible refine ADR_free1 tyOK ?_ ?_ ?_); (focus rfl)) | ((with_reducible refine ADR_free0 tyOK ?_ ?_ ?_); (focus rfl)) | ((with_reducible refine ADR_read1 tyOK ?_ ?_ ?_); (focus rfl)) | (with_reducible refine ADR_chg1 tyOK ?_ ?_)); (focus (first | (with_reducible rfl) | ((simp (disch := omega) only [go_sem]); done))); simp (disch := omega) only [go_sem , nI_len, hs1, h8_len, Nat.reduceLeDiff, iFlat, iInts, iRows, List.getD_cons_zero, List.getD_cons_succ, Int.reduceToNat, Int.toNat_zero, Int.toNat_one, Nat.zero_mul, Nat.one_mul, Nat.zero_add, Nat.reduceMul, Nat.reduceAdd, Nat.reduceSub]; (first | (with_reducible refine XRes_id ?_) | (with_reducible refine ADF_id ?_) | (with_reducible refine ADR_id1 ?_) | (with_reducible refine ADX_id ?_))) | ((first | (with_reducible refine XRes_skip ?_ ?_) | (with_reducible refine ADF_skip (b := true) ?_ ?_) | (with_reducible refine ADX_skip ?_ ?_) | ((with_reducible refine ADR_skip1 ?_ ?_ ?_); (focus rfl))); (focus (first | rfl | ((simp (disch := omega) only [go_sem]); done))); (simp only [putL, List.set_cons_succ, List.set_cons_zero]))) | ((first | (with_reducible refine XRes_nil ?_) | (with_reducible refine ADF_nil ?_) | (with_reducible refine ADR_nil ?_) | (with_reducible refine ADX_nil ?_)); (first | refine hK _ ?_ | refine hK _ _ ?_); clear hK K) | (first | refine XTL (by rfl) hV ?_ | refine ATL tyOK (by rfl) hV ?_) | ((refine XRes_fn (by rfl) hI ?_); (rintro r H' ⟨rfl, rfl⟩); (simp only [putL, List.set_cons_succ, List.set_cons_zero])) | ((first | (with_reducible refine AX_reg0 fun K hK => ?_) | (refine AX_drawG1 tyOK (by kernel_rfl) (by rfl) (by kernel_rfl) fun K hK => ?_) | (refine AX_drawT tyOK (by kernel_rfl) (by decide +kernel) fun K hK => ?_) | (refine AX_drawM1 (by kernel_rfl) (by rfl) (by decide +kernel) fun K hK => ?_) | (refine AX_drawA tyOK (by kernel_rfl) (by decide +kernel) fun K hK => ?_)); (first | simp only [go_sem, preN, effOp, runF, alM, mapOp, alD2, kdOf2, Bool.not_false, Bool.not_true, reduceCtorEq] | simp only [go_sem, preN, effOp, runF, alM, mapOp, Bool.not_false, Bool.not_true, reduceCtorEq] | simp only [go_sem, preN, effOp, runF, alD2, kdOf2, Bool.not_false, Bool.not_true, reduceCtorEq] | simp only [go_sem, alD2, kdOf2, Bool.not_false, Bool.not_true, reduceCtorEq] | simp only [go_sem, preN, effOp, runF, Bool.not_false, Bool.not_true, reduceCtorEq] | simp only [go_sem])))
  (simp only [bodyX]; refine ⟨_, by simp only [aresults, aresult, XS.as, Try.results19, aload, go_sem, Option.bind_some]; rfl, ?_⟩)
  exact ⟨_, Snap.threeP (snap_ints rfl rfl) (.same _ (.iv _)) (.same _ (.iv _)), rfl, trivial⟩
theorem q8_P : PF Try.prog 19 [.iv (iInts [1]), .iv (iInts [-1])] fun r H' => r = .tup [.iv (iInts [1]), lt (.bool true), lt (.int .i64 0)] ∧ H' = [] :=
  pf_StepC [1] [-1] (by decide) (by decide) (by unfold Fits'; decide) (by unfold Fits'; decide) (by decide +kernel)
set_option maxRecDepth 100000 in
set_option maxHeartbeats 8000000 in
theorem pf_awake08 : PF Try.prog 12 [] fun r H' => r = lt (.bool true) ∧ H' = [] := by
  refine SF.forgetAll ?_
  have hs1 := trivial
  (refine SF_of_bodyX (aload tt) (aload_ok tyOK) Try.func12 rfl (by kernel_rfl) ?_; simp only [Try.ntmps12, List.length_cons, List.length_nil, Nat.reduceAdd, Nat.reduceSub, List.replicate_succ, List.replicate_zero, List.cons_append, List.nil_append])
  repeat (first | (first | (with_reducible first | refine AX_block ?_ | refine AX_skip ?_ | refine AX_exit ?_ | refine AX_ret ?_ | refine AX_ift ?_ | refine AX_iff ?_ | refine AX_seq_k (fun K hK => ?_) | refine ContX.use (by assumption) ?_) | simp only [thenX, inBlockX, if_true, if_false, reduceCtorEq]) | ((first | (refine XRes_litF tyOK (by rfl) rfl (by decide) rfl rfl ?_) | (refine ADF_litF tyOK (by rfl) rfl (by decide) rfl rfl ?_) | (refine XRes_litRw tyOK [[-2, 3], [-1, 2], [1]] (by rfl) rfl ?_) | (refine XRes_litRw tyOK [[4, 5]] (by rfl) rfl ?_) | (refine XRes_litRw tyOK [[1], [9, 8], [-1, 2], [-2, 3]] (by rfl) rfl ?_)); (simp only [List.map_cons, List.map_nil, intOf, putL, List.set_cons_succ, List.set_cons_zero])) | (first | (first | refine XTL (by rfl) pf_hints8 ?_ | refine ATL tyOK (by rfl) pf_hints8 ?_ | refine XTL (by rfl) q8_S1 ?_ | refine ATL tyOK (by rfl) q8_S1 ?_ | refine XTL (by rfl) (q8_S2 _ (fun j hj => by match j, hj with | 0, _ => rfl | 1, _ => rfl)) ?_ | refine ATL tyOK (by rfl) (q8_S2 _ (fun j hj => by match j, hj with | 0, _ => rfl | 1, _ => rfl)) ?_ | refine XTL (by rfl) q8_S3 ?_ | refine ATL tyOK (by rfl) q8_S3 ?_ | refine XTL (by rfl) q8_T1 ?_ | refine ATL tyOK (by rfl) q8_T1 ?_ | refine XTL (by rfl) q8_T2 ?_ | refine ATL tyOK (by rfl) q8_T2 ?_ | refine XTL (by rfl) q8_P ?_ | refine ATL tyOK (by rfl) q8_P ?_ | refine XTL (by rfl) q8_C ?_ | refine ATL tyOK (by rfl) q8_C ?_ | refine XTL (by rfl) (q8_SI [-3, 4] (by decide)) ?_ | refine ATL tyOK (by rfl) (q8_SI [-3, 4] (by decide)) ?_ | refine XTL (by rfl) (q8_SI [-3, -2, -1] (by decide)) ?_ | refine ATL tyOK (by rfl) (q8_SI [-3, -2, -1] (by decide)) ?_)) | (first | ((first | (with_reducible refine XRes_op tyOK ?_ ?_) | ((with_reducible first | refine ADF_op tyOK ?_ ?_ ?_ | refine ADX_op tyOK ?_ ?_ ?_); (focus rfl)) | (with_reducible refine ADR_alloc1 tyOK ?_ ?_) | ((with_reducible refine ADR_free1 tyOK ?_ ?_ ?_); (focus rfl)) | ((with_reducible refine ADR_free0 tyOK ?_ ?_ ?_); (focus rfl)) | ((with_reducible refine ADR_read1 tyOK ?_ ?_ ?_); (focus rfl)) | (with_reducible refine ADR_chg1 tyOK ?_ ?_)); (focus (first | (with_reducible rfl) | ((simp (disch := omega) only [go_sem]); done))); simp (disch := omega) only [go_sem , nI_len, hs1, h8_len, Nat.reduceLeDiff, iFlat, iInts, iRows, List.getD_cons_zero, List.getD_cons_succ, Int.reduceToNat, Int.toNat_zero, Int.toNat_one, Nat.zero_mul, Nat.one_mul, Nat.zero_add, Nat.reduceMul, Nat.reduceAdd, Nat.reduceSub]; (first | (with_reducible refine XRes_id ?_) | (with_reducible refine ADF_id ?_) | (with_reducible refine ADR_id1 ?_) | (with_reducible refine ADX_id ?_))) | ((first | (with_reducible refine XRes_skip ?_ ?_) | (with_reducible refine ADF_skip (b := true) ?_ ?_) | (with_reducible refine ADX_skip ?_ ?_) | ((with_reducible refine ADR_skip1 ?_ ?_ ?_); (focus rfl))); (focus (first | rfl | ((simp (disch := omega) only [go_sem]); done))); (simp only [putL, List.set_cons_succ, List.set_cons_zero]))) | ((first | (with_reducible refine XRes_nil ?_) | (with_reducible refine ADF_nil ?_) | (with_reducible refine ADR_nil ?_) | (with_reducible refine ADX_nil ?_)); (first | refine hK _ ?_ | refine hK _ _ ?_); clear hK K) | ((first | (with_reducible refine AX_reg0 fun K hK => ?_) | (refine AX_drawG1 tyOK (by kernel_rfl) (by rfl) (by kernel_rfl) fun K hK => ?_) | (refine AX_drawT tyOK (by kernel_rfl) (by decide +kernel) fun K hK => ?_) | (refine AX_drawM1 (by kernel_rfl) (by rfl) (by decide +kernel) fun K hK => ?_) | (refine AX_drawA tyOK (by kernel_rfl) (by decide +kernel) fun K hK => ?_)); (first | simp only [go_sem, preN, effOp, runF, alM, mapOp, alD2, kdOf2, Bool.not_false, Bool.not_true, reduceCtorEq] | simp only [go_sem, preN, effOp, runF, alM, mapOp, Bool.not_false, Bool.not_true, reduceCtorEq] | simp only [go_sem, preN, effOp, runF, alD2, kdOf2, Bool.not_false, Bool.not_true, reduceCtorEq] | simp only [go_sem, alD2, kdOf2, Bool.not_false, Bool.not_true, reduceCtorEq] | simp only [go_sem, preN, effOp, runF, Bool.not_false, Bool.not_true, reduceCtorEq] | simp only [go_sem])))
  refine XRes_fn (by rfl) q8_H ?_
  rintro r H' ⟨hs, hlen, rfl, rfl⟩
  have hs1 := hlen
  (simp only [putL, List.set_cons_succ, List.set_cons_zero])
  repeat (first | (first | (with_reducible first | refine AX_block ?_ | refine AX_skip ?_ | refine AX_exit ?_ | refine AX_ret ?_ | refine AX_ift ?_ | refine AX_iff ?_ | refine AX_seq_k (fun K hK => ?_) | refine ContX.use (by assumption) ?_) | simp only [thenX, inBlockX, if_true, if_false, reduceCtorEq]) | ((first | (refine XRes_litF tyOK (by rfl) rfl (by decide) rfl rfl ?_) | (refine ADF_litF tyOK (by rfl) rfl (by decide) rfl rfl ?_) | (refine XRes_litRw tyOK [[-2, 3], [-1, 2], [1]] (by rfl) rfl ?_) | (refine XRes_litRw tyOK [[4, 5]] (by rfl) rfl ?_) | (refine XRes_litRw tyOK [[1], [9, 8], [-1, 2], [-2, 3]] (by rfl) rfl ?_)); (simp only [List.map_cons, List.map_nil, intOf, putL, List.set_cons_succ, List.set_cons_zero])) | (first | (first | refine XTL (by rfl) pf_hints8 ?_ | refine ATL tyOK (by rfl) pf_hints8 ?_ | refine XTL (by rfl) q8_S1 ?_ | refine ATL tyOK (by rfl) q8_S1 ?_ | refine XTL (by rfl) (q8_S2 _ (fun j hj => by match j, hj with | 0, _ => rfl | 1, _ => rfl)) ?_ | refine ATL tyOK (by rfl) (q8_S2 _ (fun j hj => by match j, hj with | 0, _ => rfl | 1, _ => rfl)) ?_ | refine XTL (by rfl) q8_S3 ?_ | refine ATL tyOK (by rfl) q8_S3 ?_ | refine XTL (by rfl) q8_T1 ?_ | refine ATL tyOK (by rfl) q8_T1 ?_ | refine XTL (by rfl) q8_T2 ?_ | refine ATL tyOK (by rfl) q8_T2 ?_ | refine XTL (by rfl) q8_P ?_ | refine ATL tyOK (by rfl) q8_P ?_ | refine XTL (by rfl) q8_C ?_ | refine ATL tyOK (by rfl) q8_C ?_ | refine XTL (by rfl) (q8_SI [-3, 4] (by decide)) ?_ | refine ATL tyOK (by rfl) (q8_SI [-3, 4] (by decide)) ?_ | refine XTL (by rfl) (q8_SI [-3, -2, -1] (by decide)) ?_ | refine ATL tyOK (by rfl) (q8_SI [-3, -2, -1] (by decide)) ?_)) | (first | ((first | (with_reducible refine XRes_op tyOK ?_ ?_) | ((with_reducible first | refine ADF_op tyOK ?_ ?_ ?_ | refine ADX_op tyOK ?_ ?_ ?_); (focus rfl)) | (with_reducible refine ADR_alloc1 tyOK ?_ ?_) | ((with_reducible refine ADR_free1 tyOK ?_ ?_ ?_); (focus rfl)) | ((with_reducible refine ADR_free0 tyOK ?_ ?_ ?_); (focus rfl)) | ((with_reducible refine ADR_read1 tyOK ?_ ?_ ?_); (focus rfl)) | (with_reducible refine ADR_chg1 tyOK ?_ ?_)); (focus (first | (with_reducible rfl) | ((simp (disch := omega) only [go_sem]); done))); simp (disch := omega) only [go_sem , nI_len, hs1, h8_len, Nat.reduceLeDiff, iFlat, iInts, iRows, List.getD_cons_zero, List.getD_cons_succ, Int.reduceToNat, Int.toNat_zero, Int.toNat_one, Nat.zero_mul, Nat.one_mul, Nat.zero_add, Nat.reduceMul, Nat.reduceAdd, Nat.reduceSub]; (first | (with_reducible refine XRes_id ?_) | (with_reducible refine ADF_id ?_) | (with_reducible refine ADR_id1 ?_) | (with_reducible refine ADX_id ?_))) | ((first | (with_reducible refine XRes_skip ?_ ?_) | (with_reducible refine ADF_skip (b := true) ?_ ?_) | (with_reducible refine ADX_skip ?_ ?_) | ((with_reducible refine ADR_skip1 ?_ ?_ ?_); (focus rfl))); (focus (first | rfl | ((simp (disch := omega) only [go_sem]); done))); (simp only [putL, List.set_cons_succ, List.set_cons_zero]))) | ((first | (with_reducible refine XRes_nil ?_) | (with_reducible refine ADF_nil ?_) | (with_reducible refine ADR_nil ?_) | (with_reducible refine ADX_nil ?_)); (first | refine hK _ ?_ | refine hK _ _ ?_); clear hK K) | ((first | (with_reducible refine AX_reg0 fun K hK => ?_) | (refine AX_drawG1 tyOK (by kernel_rfl) (by rfl) (by kernel_rfl) fun K hK => ?_) | (refine AX_drawT tyOK (by kernel_rfl) (by decide +kernel) fun K hK => ?_) | (refine AX_drawM1 (by kernel_rfl) (by rfl) (by decide +kernel) fun K hK => ?_) | (refine AX_drawA tyOK (by kernel_rfl) (by decide +kernel) fun K hK => ?_)); (first | simp only [go_sem, preN, effOp, runF, alM, mapOp, alD2, kdOf2, Bool.not_false, Bool.not_true, reduceCtorEq] | simp only [go_sem, preN, effOp, runF, alM, mapOp, Bool.not_false, Bool.not_true, reduceCtorEq] | simp only [go_sem, preN, effOp, runF, alD2, kdOf2, Bool.not_false, Bool.not_true, reduceCtorEq] | simp only [go_sem, alD2, kdOf2, Bool.not_false, Bool.not_true, reduceCtorEq] | simp only [go_sem, preN, effOp, runF, Bool.not_false, Bool.not_true, reduceCtorEq] | simp only [go_sem])))
  (simp only [bodyX]; refine ⟨_, by simp only [aresults, aresult, XS.as, Try.results12, aload, go_sem, Option.bind_some]; rfl, ?_⟩)
  exact ⟨.iv _, rfl, trivial⟩
end Go.Proofs.Ytcanlckenjndbaa
namespace Go.Proofs.Ytcanlckenjndbaa
open Go.RowKit
set_option linter.unusedVariables false
set_option linter.unusedSimpArgs false
theorem pf_r02Holds (c : List Int) (m : List Bool) (hc : c.length ≤ 1000000) (hm : m.length ≤ 1000000) : PF Try.prog 23 [.iv (iInts c), .iv (iBools m)] fun r H' => r = lt (.bool (holdsC m c)) ∧ H' = [] :=
  PF_of_walk ⟨_, Try.func23, by kernel_rfl, rfl⟩ fun G w vs hi hr => by
    obtain ⟨u, us, rfl, h1, hr⟩ := hr.uncons
    obtain ⟨u2, us, rfl, h3, hr⟩ := hr.uncons
    rw [hr.unnil]
    cases h1 with
    | iv _ _ h1 =>
      cases h3 with
      | iv _ _ h3 =>
        obtain ⟨a, ca, rfl, k1, k2, h4⟩ := ints_row hi.fz (by unfold maxLen; omega) h1
        obtain ⟨b, cb, rfl, k3, k4, h5⟩ := bools_row hi.fz (by unfold maxLen; omega) h3
        exact (ref_Holds a _ ca c b _ cb m w h4 h5).mono fun e w' h => ⟨h.1, h.2 ▸ Below.refl _ _⟩
theorem all_take_no {α : Type} {xs : List α} {p : α → Bool} {d : α} {n k : Nat} (hn : n ≤ xs.length) (hk : k < n) (h : p (xs.getD k d) = false) : (xs.take n).all p = false := by
  rw [List.all_eq_false]
  refine ⟨xs.getD k d, ?_, by rw [h]; decide⟩
  have : k < xs.length := by omega
  rw [List.mem_iff_getElem]
  exact ⟨k, by simp; omega, by simp [List.getD, this]⟩
theorem all_take_yes {α : Type} {xs : List α} {p : α → Bool} {d : α} {n : Nat} (h : ∀ k, k < n → p (xs.getD k d) = true) : (xs.take n).all p = true := by
  rw [List.all_eq_true]
  intro x hx
  obtain ⟨k, hk, rfl⟩ := List.mem_iff_getElem.1 hx
  have h1 : k < n ∧ k < xs.length := by simp at hk; omega
  have := h k h1.1
  rw [List.getElem_take]
  rwa [show xs.getD k d = xs[k] by simp [List.getD, h1.2]] at this
theorem We5e8a {A B : Prop} (h9 : B) (w : B → A := by (intro h9; (repeat intro K hK); refine ⟨?_⟩; (repeat (first | (first | (with_reducible first | refine AX_block ?_ | refine AX_skip ?_ | refine AX_exit ?_ | refine AX_ret ?_ | refine AX_ift ?_ | refine AX_iff ?_ | refine AX_seq_k (fun K hK => ?_) | refine ContX.use (by assumption) ?_) | simp only [thenX, inBlockX, if_true, if_false, reduceCtorEq]) | (first | ((first | (with_reducible refine XRes_op tyOK ?_ ?_) | ((with_reducible first | refine ADF_op tyOK ?_ ?_ ?_ | refine ADX_op tyOK ?_ ?_ ?_); (focus rfl)) | (with_reducible refine ADR_alloc1 tyOK ?_ ?_) | ((with_reducible refine ADR_free1 tyOK ?_ ?_ ?_); (focus rfl)) | ((with_reducible refine ADR_free0 tyOK ?_ ?_ ?_); (focus rfl)) | ((with_reducible refine ADR_read1 tyOK ?_ ?_ ?_); (focus rfl)) | (with_reducible refine ADR_chg1 tyOK ?_ ?_)); (focus (first | (with_reducible rfl) | ((simp (disch := omega) only [go_sem]); done))); simp (disch := omega) only [go_sem , hs1, hs2, hs3, hs4, Int.toNat_zero, Int.toNat_one, List.length_nil]; (first | (with_reducible refine XRes_id ?_) | (with_reducible refine ADF_id ?_) | (with_reducible refine ADR_id1 ?_) | (with_reducible refine ADX_id ?_))) | ((first | (with_reducible refine XRes_skip ?_ ?_) | (with_reducible refine ADF_skip (b := true) ?_ ?_) | (with_reducible refine ADX_skip ?_ ?_) | ((with_reducible refine ADR_skip1 ?_ ?_ ?_); (focus rfl))); (focus (first | rfl | ((simp (disch := omega) only [go_sem]); done))); (simp only [putL, List.set_cons_succ, List.set_cons_zero]))) | ((first | (with_reducible refine XRes_nil ?_) | (with_reducible refine ADF_nil ?_) | (with_reducible refine ADR_nil ?_) | (with_reducible refine ADX_nil ?_)); (first | refine hK _ ?_ | refine hK _ _ ?_); clear hK K) | ((first | (with_reducible refine AX_reg0 fun K hK => ?_) | (refine AX_drawG1 tyOK (by kernel_rfl) (by rfl) (by kernel_rfl) fun K hK => ?_) | (refine AX_drawT tyOK (by kernel_rfl) (by decide +kernel) fun K hK => ?_) | (refine AX_drawM1 (by kernel_rfl) (by rfl) (by decide +kernel) fun K hK => ?_) | (refine AX_drawA tyOK (by kernel_rfl) (by decide +kernel) fun K hK => ?_)); (first | simp only [go_sem, preN, effOp, runF, alM, mapOp, alD2, kdOf2, Bool.not_false, Bool.not_true, reduceCtorEq] | simp only [go_sem, preN, effOp, runF, alM, mapOp, Bool.not_false, Bool.not_true, reduceCtorEq] | simp only [go_sem, preN, effOp, runF, alD2, kdOf2, Bool.not_false, Bool.not_true, reduceCtorEq] | simp only [go_sem, alD2, kdOf2, Bool.not_false, Bool.not_true, reduceCtorEq] | simp only [go_sem, preN, effOp, runF, Bool.not_false, Bool.not_true, reduceCtorEq] | simp only [go_sem])) | (first | (first | refine XTL (by rfl) hV ?_ | refine ATL tyOK (by rfl) hV ?_ | refine XTL (by rfl) hI ?_ | refine ATL tyOK (by rfl) hI ?_)))); refine Wk.o ?_; (repeat revert hK K); exact h9)) : A := w h9
set_option maxRecDepth 100000 in
set_option maxHeartbeats 2000000 in
theorem pf_r04First (x : Int) (h : List (List Int)) (n : Nat) (m : List Bool) (hn : n ≤ h.length) (hc : h.length ≤ 1000000) (hcs : ∀ k, (h.getD k []).length ≤ 1000000) (hm : m.length ≤ 1000000) : PF Try.prog 22 [.agg [lt (.int .i64 x), .iv (.sl (fun j => iInts (h.getD j [])) n 1)], .iv (iBools m)] fun r H' => ∃ q : Int, r = lt (.int .i64 q) ∧ (q < 0 ↔ (h.take n).all (holdsC m) = true) ∧ H' = [] := by
  refine SF.forgetAll ?_
  have hs1 := trivial; have hs2 := trivial; have hs3 := trivial; have hs4 := trivial; have hV := trivial; have hI := trivial
  have hH := fun k => pf_r02Holds (h.getD k []) m (hcs k) hm
  (refine SF_of_bodyX (aload tt) (aload_ok tyOK) Try.func22 rfl (by kernel_rfl) ?_; simp only [Try.ntmps22, List.length_cons, List.length_nil, Nat.reduceAdd, Nat.reduceSub, List.replicate_succ, List.replicate_zero, List.cons_append, List.nil_append])
  (refine Wk.o ?_; (repeat revert hK K); refine We5e8a ?_; (repeat intro K hK); refine ⟨?_⟩)
  (refine AWH (σ := Nat) [6, 7, 8, 9, 10, 13, 14, 15, 16, 17, 18, 19, 20, 21, 4, 11, 12] (fun k => [(5, lint k)]) (fun k => [some ⟨48, [lt (.int .i64 x), .iv (.sl (fun j => iInts (h.getD j [])) n 1)]⟩]) (fun k => []) (fun k => k ≤ n ∧ ∀ j, j < k → holdsC m (h.getD j []) = true) (fun k => n - k) 0 (by first | exact ⟨Nat.zero_le _, fun j hj => absurd hj (by omega)⟩) ?_; rintro k d fr hfr ⟨hk, hj⟩; simp only [updS, deadS, List.set_cons_succ, List.set_cons_zero, lint] at hfr; subst hfr; (try dsimp only))
  by_cases hlt : k < n
  · have hV := hH k
    cases hh : holdsC m (h.getD k []) with
    | true =>
      rw [hh] at hV
      (refine Wk.o ?_; (repeat revert hK K); refine We5e8a ?_; (repeat intro K hK); refine ⟨?_⟩)
      exact whx_end (k + 1) ⟨by omega, fun j h1 => by
        rcases Nat.lt_or_ge j k with h2 | h2
        · exact hj j h2
        · rw [show j = k by omega]; exact hh⟩ (by (first | omega | (dsimp only; omega) | (simp only; omega))) rfl (by first | rfl | (simp (disch := omega) only [go_sem, lint])) (fun d => by first | ((simp only [deadS, updS, List.set_cons_succ, List.set_cons_zero, lint, List.length_nil, List.length_cons]); done) | ((simp only [deadS, updS, List.set_cons_succ, List.set_cons_zero, lint, List.length_nil, List.length_cons]); rfl) | rfl)
    | false =>
      rw [hh] at hV
      (refine Wk.o ?_; (repeat revert hK K); refine We5e8a ?_; (repeat intro K hK); refine ⟨?_⟩)
      (simp only [bodyX]; refine ⟨_, by simp only [aresults, aresult, XS.as, Try.results22, aload, go_sem, Option.bind_some]; rfl, ?_⟩)
      exact ⟨.iv _, k, rfl, by rw [all_take_no (d := []) hn hlt hh]; simp, trivial⟩
  · obtain rfl : k = n := by omega
    (refine Wk.o ?_; (repeat revert hK K); refine We5e8a ?_; (repeat intro K hK); refine ⟨?_⟩)
    (simp only [bodyX]; refine ⟨_, by simp only [aresults, aresult, XS.as, Try.results22, aload, go_sem, Option.bind_some]; rfl, ?_⟩)
    exact ⟨.iv _, -1, rfl, by rw [all_take_yes (d := []) hj]; simp, trivial⟩
def fw04 (xss : List (List Int)) : Bool := decide (xss.length ≤ 200) && xss.all fun c => decide (c.length ≤ 50)
theorem fw04_iff (xss : List (List Int)) : fw04 xss = true ↔ xss.length ≤ 200 ∧ ∀ c ∈ xss, c.length ≤ 50 := by
  unfold fw04; rw [Bool.and_eq_true, decide_eq_true_iff, List.all_eq_true]
  simp only [decide_eq_true_iff]
set_option maxRecDepth 100000 in
set_option maxHeartbeats 2000000 in
theorem pf_few04 (x : Int) (h : List (List Int)) (hl : h.length ≤ 9223372036854775807) : PF Try.prog 53 [.agg [lt (.int .i64 x), .iv (.sl (fun j => iInts (h.getD j [])) h.length 1)]] fun r H' => r = lt (.bool (fw04 h)) ∧ H' = [] := by
  refine SF.forgetAll ?_
  have hs1 := trivial; have hs2 := trivial; have hs3 := trivial; have hs4 := trivial; have hV := trivial; have hI := trivial
  by_cases h1 : h.length ≤ 200
  · (refine SF_of_bodyX (aload tt) (aload_ok tyOK) Try.func53 rfl (by kernel_rfl) ?_; simp only [Try.ntmps53, List.length_cons, List.length_nil, Nat.reduceAdd, Nat.reduceSub, List.replicate_succ, List.replicate_zero, List.cons_append, List.nil_append])
    (refine Wk.o ?_; (repeat revert hK K); refine We5e8a ?_; (repeat intro K hK); refine ⟨?_⟩)
    (refine AWH (σ := Nat) [8, 9, 10, 11, 12, 15, 16, 17, 18, 19, 20, 21, 2, 13, 14] (fun k => [(3, lint k)]) (fun k => [some ⟨48, [lt (.int .i64 x), .iv (.sl (fun j => iInts (h.getD j [])) h.length 1)]⟩]) (fun k => []) (fun k => k ≤ h.length ∧ ∀ j, j < k → (h.getD j []).length ≤ 50) (fun k => h.length - k) 0 (by first | exact ⟨Nat.zero_le _, fun j hj => absurd hj (by omega)⟩) ?_; rintro k d fr hfr ⟨hk, hj⟩; simp only [updS, deadS, List.set_cons_succ, List.set_cons_zero, lint] at hfr; subst hfr; (try dsimp only))
    by_cases hlt : k < h.length
    · have hs1 : iInts (h.getD k []) = .sl (fun j => .lit (.int .i64 ((h.getD k []).getD j 0))) (h.getD k []).length 1 := rfl
      by_cases h2 : (h.getD k []).length ≤ 50
      · (refine Wk.o ?_; (repeat revert hK K); refine We5e8a ?_; (repeat intro K hK); refine ⟨?_⟩)
        exact whx_end (k + 1) ⟨by omega, fun j h1 => by
          rcases Nat.lt_or_ge j k with h3 | h3
          · exact hj j h3
          · rw [show j = k by omega]; exact h2⟩ (by (first | omega | (dsimp only; omega) | (simp only; omega))) rfl (by first | rfl | (simp (disch := omega) only [go_sem, lint])) (fun d => by first | ((simp only [deadS, updS, List.set_cons_succ, List.set_cons_zero, lint, List.length_nil, List.length_cons]); done) | ((simp only [deadS, updS, List.set_cons_succ, List.set_cons_zero, lint, List.length_nil, List.length_cons]); rfl) | rfl)
      · (refine Wk.o ?_; (repeat revert hK K); refine We5e8a ?_; (repeat intro K hK); refine ⟨?_⟩)
        (simp only [bodyX]; refine ⟨_, by simp only [aresults, aresult, XS.as, Try.results53, aload, go_sem, Option.bind_some]; rfl, ?_⟩)
        exact ⟨.iv _, by
          have : fw04 h = false := by
            cases e : fw04 h
            · rfl
            · rw [fw04_iff] at e
              exact absurd (e.2 (h.getD k []) (by simp [List.getD, hlt])) h2
          rw [this], trivial⟩
    · obtain rfl : k = h.length := by omega
      (refine Wk.o ?_; (repeat revert hK K); refine We5e8a ?_; (repeat intro K hK); refine ⟨?_⟩)
      (simp only [bodyX]; refine ⟨_, by simp only [aresults, aresult, XS.as, Try.results53, aload, go_sem, Option.bind_some]; rfl, ?_⟩)
      exact ⟨.iv _, by
        have : fw04 h = true := (fw04_iff h).2 ⟨h1, fun c hc => by
          obtain ⟨j, hj2, rfl⟩ := List.mem_iff_getElem.1 hc
          have := hj j hj2
          rwa [show h.getD j [] = h[j] by simp [List.getD, hj2]] at this⟩
        rw [this], trivial⟩
  · (refine SF_of_bodyX (aload tt) (aload_ok tyOK) Try.func53 rfl (by kernel_rfl) ?_; simp only [Try.ntmps53, List.length_cons, List.length_nil, Nat.reduceAdd, Nat.reduceSub, List.replicate_succ, List.replicate_zero, List.cons_append, List.nil_append])
    (refine Wk.o ?_; (repeat revert hK K); refine We5e8a ?_; (repeat intro K hK); refine ⟨?_⟩)
    (simp only [bodyX]; refine ⟨_, by simp only [aresults, aresult, XS.as, Try.results53, aload, go_sem, Option.bind_some]; rfl, ?_⟩)
    exact ⟨.iv _, by
      have : fw04 h = false := by
        cases e : fw04 h
        · rfl
        · exact absurd ((fw04_iff h).1 e).1 h1
      rw [this], trivial⟩
def fw08 (cs : List (List Int)) (l : List Int) : Bool := fw04 cs && decide (cs.length ≤ 60) && decide (l.length ≤ 60)
set_option maxRecDepth 100000 in
set_option maxHeartbeats 2000000 in
theorem pf_few08 (h : List (List Int)) (l : List Int) (hl : h.length ≤ 9223372036854775807) (hl2 : l.length ≤ 9223372036854775807) : PF Try.prog 11 [.iv (iRows h), .iv (iInts l)] fun r H' => r = lt (.bool (fw08 h l)) ∧ H' = [] := by
  refine SF.forgetAll ?_
  have hs1 := trivial; have hs2 := trivial; have hs3 := trivial; have hs4 := trivial; have hV := trivial; have hI := trivial
  have hV := pf_few04 0 h hl
  unfold fw08
  generalize fw04 h = b at *
  cases b
  · (refine SF_of_bodyX (aload tt) (aload_ok tyOK) Try.func11 rfl (by kernel_rfl) ?_; simp only [Try.ntmps11, List.length_cons, List.length_nil, Nat.reduceAdd, Nat.reduceSub, List.replicate_succ, List.replicate_zero, List.cons_append, List.nil_append])
    unfold iRows iInts
    (refine Wk.o ?_; (repeat revert hK K); refine We5e8a ?_; (repeat intro K hK); refine ⟨?_⟩)
    (simp only [bodyX]; refine ⟨_, by simp only [aresults, aresult, XS.as, Try.results11, aload, go_sem, Option.bind_some]; rfl, ?_⟩)
    exact ⟨.iv _, rfl, trivial⟩
  · by_cases h1 : h.length ≤ 60
    · by_cases h2 : l.length ≤ 60
      · (refine SF_of_bodyX (aload tt) (aload_ok tyOK) Try.func11 rfl (by kernel_rfl) ?_; simp only [Try.ntmps11, List.length_cons, List.length_nil, Nat.reduceAdd, Nat.reduceSub, List.replicate_succ, List.replicate_zero, List.cons_append, List.nil_append])
        unfold iRows iInts
        (refine Wk.o ?_; (repeat revert hK K); refine We5e8a ?_; (repeat intro K hK); refine ⟨?_⟩)
        (simp only [bodyX]; refine ⟨_, by simp only [aresults, aresult, XS.as, Try.results11, aload, go_sem, Option.bind_some]; rfl, ?_⟩)
        exact ⟨.iv _, by rw [decide_eq_true h1, decide_eq_true h2]; rfl, trivial⟩
      · (refine SF_of_bodyX (aload tt) (aload_ok tyOK) Try.func11 rfl (by kernel_rfl) ?_; simp only [Try.ntmps11, List.length_cons, List.length_nil, Nat.reduceAdd, Nat.reduceSub, List.replicate_succ, List.replicate_zero, List.cons_append, List.nil_append])
        unfold iRows iInts
        (refine Wk.o ?_; (repeat revert hK K); refine We5e8a ?_; (repeat intro K hK); refine ⟨?_⟩)
        (simp only [bodyX]; refine ⟨_, by simp only [aresults, aresult, XS.as, Try.results11, aload, go_sem, Option.bind_some]; rfl, ?_⟩)
        exact ⟨.iv _, by rw [decide_eq_true h1, decide_eq_false h2]; rfl, trivial⟩
    · (refine SF_of_bodyX (aload tt) (aload_ok tyOK) Try.func11 rfl (by kernel_rfl) ?_; simp only [Try.ntmps11, List.length_cons, List.length_nil, Nat.reduceAdd, Nat.reduceSub, List.replicate_succ, List.replicate_zero, List.cons_append, List.nil_append])
      unfold iRows iInts
      (refine Wk.o ?_; (repeat revert hK K); refine We5e8a ?_; (repeat intro K hK); refine ⟨?_⟩)
      (simp only [bodyX]; refine ⟨_, by simp only [aresults, aresult, XS.as, Try.results11, aload, go_sem, Option.bind_some]; rfl, ?_⟩)
      exact ⟨.iv _, by rw [decide_eq_false h1]; rfl, trivial⟩
theorem fw08_iff {cs : List (List Int)} {l : List Int} (h : fw08 cs l = true) : cs.length ≤ 60 ∧ l.length ≤ 60 ∧ ∀ c ∈ cs, c.length ≤ 50 := by
  unfold fw08 at h
  simp only [Bool.and_eq_true, decide_eq_true_iff] at h
  exact ⟨h.1.2, h.2, ((fw04_iff cs).1 h.1.1).2⟩
end Go.Proofs.Ytcanlckenjndbaa
namespace Go.Proofs.Ytcanlckenjndbaa
open Go.RowKit
set_option linter.unusedVariables false
set_option linter.unusedSimpArgs false
theorem renH_nil (k : Nat) : renH k [] = [] := rfl
theorem ren_lt (k : Nat) (v : Value) : (lt v).ren k = lt v := rfl
theorem rowsOk_few {h : List (List Int)} (h1 : h.length ≤ 60) (h2 : ∀ c ∈ h, c.length ≤ 50) : RowsOk h := rowsOk_of (by omega) fun c hc => by have := h2 c hc; omega
set_option maxRecDepth 100000 in
set_option maxHeartbeats 4000000 in
theorem pf_RupFollows (c : List Int) (h : List (List Int)) (m : List Bool) (hc : c.length ≤ 9223372036854775807) (hh : h.length ≤ 9223372036854775807) (hm : m.length ≤ 9223372036854775807) : PF Try.prog 4 [.iv (iInts c), .iv (iRows h), .iv (iBools m)] fun r H' => r = lt (.bool true) ∧ H' = [] := by
  refine SF.forgetAll ?_
  have hs1 := trivial; have hs2 := trivial; have hs3 := trivial; have hs4 := trivial; have hFew := trivial; have hAw := trivial; have hV := trivial; have hH := trivial; have hSI := trivial; have hF := trivial
  have hAw := pf_awake08
  have hFew := pf_few08 h c hh hc
  cases hf : fw08 h c with
  | false =>
    rw [hf] at hFew
    (refine SF_of_bodyX (aload tt) (aload_ok tyOK) Try.func4 rfl (by kernel_rfl) ?_; simp only [Try.ntmps4, List.length_cons, List.length_nil, Nat.reduceAdd, Nat.reduceSub, List.replicate_succ, List.replicate_zero, List.cons_append, List.nil_append])
    (repeat (first | (first | (with_reducible first | refine AX_block ?_ | refine AX_skip ?_ | refine AX_exit ?_ | refine AX_ret ?_ | refine AX_ift ?_ | refine AX_iff ?_ | refine AX_seq_k (fun K hK => ?_) | refine ContX.use (by assumption) ?_) | simp only [thenX, inBlockX, if_true, if_false, reduceCtorEq]) | (first | ((first | (with_reducible refine XRes_op tyOK ?_ ?_) | ((with_reducible first | refine ADF_op tyOK ?_ ?_ ?_ | refine ADX_op tyOK ?_ ?_ ?_); (focus rfl)) | (with_reducible refine ADR_alloc1 tyOK ?_ ?_) | ((with_reducible refine ADR_free1 tyOK ?_ ?_ ?_); (focus rfl)) | ((with_reducible refine ADR_free0 tyOK ?_ ?_ ?_); (focus rfl)) | ((with_reducible refine ADR_read1 tyOK ?_ ?_ ?_); (focus rfl)) | (with_reducible refine ADR_chg1 tyOK ?_ ?_)); (focus (first | (with_reducible rfl) | ((simp (disch := omega) only [go_sem]); done))); simp (disch := omega) only [go_sem , hs1, hs2, hs3, hs4, Int.toNat_zero, Int.toNat_one, List.length_nil, Nat.reduceLeDiff]; (first | (with_reducible refine XRes_id ?_) | (with_reducible refine ADF_id ?_) | (with_reducible refine ADR_id1 ?_) | (with_reducible refine ADX_id ?_))) | ((first | (with_reducible refine XRes_skip ?_ ?_) | (with_reducible refine ADF_skip (b := true) ?_ ?_) | (with_reducible refine ADX_skip ?_ ?_) | ((with_reducible refine ADR_skip1 ?_ ?_ ?_); (focus rfl))); (focus (first | rfl | ((simp (disch := omega) only [go_sem]); done))); (simp only [putL, List.set_cons_succ, List.set_cons_zero]))) | ((first | (with_reducible refine XRes_nil ?_) | (with_reducible refine ADF_nil ?_) | (with_reducible refine ADR_nil ?_) | (with_reducible refine ADX_nil ?_)); (first | refine hK _ ?_ | refine hK _ _ ?_); clear hK K) | ((first | (with_reducible refine AX_reg0 fun K hK => ?_) | (refine AX_drawG1 tyOK (by kernel_rfl) (by rfl) (by kernel_rfl) fun K hK => ?_) | (refine AX_drawT tyOK (by kernel_rfl) (by decide +kernel) fun K hK => ?_) | (refine AX_drawM1 (by kernel_rfl) (by rfl) (by decide +kernel) fun K hK => ?_) | (refine AX_drawA tyOK (by kernel_rfl) (by decide +kernel) fun K hK => ?_)); (first | simp only [go_sem, preN, effOp, runF, alM, mapOp, alD2, kdOf2, Bool.not_false, Bool.not_true, reduceCtorEq] | simp only [go_sem, preN, effOp, runF, alM, mapOp, Bool.not_false, Bool.not_true, reduceCtorEq] | simp only [go_sem, preN, effOp, runF, alD2, kdOf2, Bool.not_false, Bool.not_true, reduceCtorEq] | simp only [go_sem, alD2, kdOf2, Bool.not_false, Bool.not_true, reduceCtorEq] | simp only [go_sem, preN, effOp, runF, Bool.not_false, Bool.not_true, reduceCtorEq] | simp only [go_sem])) | (first | (first | refine XTL (by rfl) hFew ?_ | refine ATL tyOK (by rfl) hFew ?_ | refine XTL (by rfl) hAw ?_ | refine ATL tyOK (by rfl) hAw ?_ | refine XTL (by rfl) hV ?_ | refine ATL tyOK (by rfl) hV ?_ | refine XTL (by rfl) hH ?_ | refine ATL tyOK (by rfl) hH ?_) | ((refine XRes_say rfl hSI (SnapL.cons (.same _ (.iv _)) (SnapL.cons (snap_ints rfl rfl) (SnapL.nil _))) ?_); (simp only [putL, List.set_cons_succ, List.set_cons_zero])) | ((refine XRes_fn (by rfl) (PF.among (idsA (by rfl)) hF) ?_); (rintro r H' ⟨r1, H1, ⟨q, rfl, hq, rfl⟩, rfl, rfl⟩); simp only [renH_nil, ren_lt, List.append_nil]; (simp only [putL, List.set_cons_succ, List.set_cons_zero])))))
    (simp only [bodyX]; refine ⟨_, by simp only [aresults, aresult, XS.as, Try.results4, aload, go_sem, Option.bind_some]; rfl, ?_⟩)
    exact ⟨.iv _, rfl, trivial⟩
  | true =>
    rw [hf] at hFew
    obtain ⟨f1, f2, f3⟩ := fw08_iff hf
    have hok := rowsOk_few f1 f3
    have hm2 : iBools m = .sl (fun j => .lit (.bool (m.getD j false))) m.length 1 := rfl
    by_cases hml : m.length ≤ 200
    · have hV := pf_Show c h (by omega) hok
      have hSI := pf_sameInts c c (by omega) (by omega)
      rw [decide_eq_true rfl] at hSI
      have hn := shN8_le c h
      have hsnd := fun he => show_sound (m := m) (c := c) (hs := h) he
      have hF := pf_r04First 0 h (shN8 c h) m hn (by omega) (fun k => by have := hok.2 k; omega) (by omega)
      have hH := pf_r02Holds c m (by omega) (by omega)
      have hs1 := lint_range c
      generalize shN8 c h = n at *
      generalize shE8 c h = e at *
      by_cases he : e = 0
      · subst he
        have hsnd := hsnd rfl
        cases ha : (h.take n).all (holdsC m) with
        | true =>
          have hq2 : ∀ q : Int, (q < 0 ↔ (h.take n).all (holdsC m) = true) → q < 0 := fun q hq => hq.2 ha
          rw [hsnd ha] at hH
          (refine SF_of_bodyX (aload tt) (aload_ok tyOK) Try.func4 rfl (by kernel_rfl) ?_; simp only [Try.ntmps4, List.length_cons, List.length_nil, Nat.reduceAdd, Nat.reduceSub, List.replicate_succ, List.replicate_zero, List.cons_append, List.nil_append])
          unfold iInts iRows iBools
          (repeat (first | (first | (with_reducible first | refine AX_block ?_ | refine AX_skip ?_ | refine AX_exit ?_ | refine AX_ret ?_ | refine AX_ift ?_ | refine AX_iff ?_ | refine AX_seq_k (fun K hK => ?_) | refine ContX.use (by assumption) ?_) | simp only [thenX, inBlockX, if_true, if_false, reduceCtorEq]) | (first | ((first | (with_reducible refine XRes_op tyOK ?_ ?_) | ((with_reducible first | refine ADF_op tyOK ?_ ?_ ?_ | refine ADX_op tyOK ?_ ?_ ?_); (focus rfl)) | (with_reducible refine ADR_alloc1 tyOK ?_ ?_) | ((with_reducible refine ADR_free1 tyOK ?_ ?_ ?_); (focus rfl)) | ((with_reducible refine ADR_free0 tyOK ?_ ?_ ?_); (focus rfl)) | ((with_reducible refine ADR_read1 tyOK ?_ ?_ ?_); (focus rfl)) | (with_reducible refine ADR_chg1 tyOK ?_ ?_)); (focus (first | (with_reducible rfl) | ((simp (disch := omega) only [go_sem]); done))); simp (disch := omega) only [go_sem , hs1, hs2, hs3, hs4, Int.toNat_zero, Int.toNat_one, List.length_nil, Nat.reduceLeDiff]; (first | (with_reducible refine XRes_id ?_) | (with_reducible refine ADF_id ?_) | (with_reducible refine ADR_id1 ?_) | (with_reducible refine ADX_id ?_))) | ((first | (with_reducible refine XRes_skip ?_ ?_) | (with_reducible refine ADF_skip (b := true) ?_ ?_) | (with_reducible refine ADX_skip ?_ ?_) | ((with_reducible refine ADR_skip1 ?_ ?_ ?_); (focus rfl))); (focus (first | rfl | ((simp (disch := omega) only [go_sem]); done))); (simp only [putL, List.set_cons_succ, List.set_cons_zero]))) | ((first | (with_reducible refine XRes_nil ?_) | (with_reducible refine ADF_nil ?_) | (with_reducible refine ADR_nil ?_) | (with_reducible refine ADX_nil ?_)); (first | refine hK _ ?_ | refine hK _ _ ?_); clear hK K) | ((first | (with_reducible refine AX_reg0 fun K hK => ?_) | (refine AX_drawG1 tyOK (by kernel_rfl) (by rfl) (by kernel_rfl) fun K hK => ?_) | (refine AX_drawT tyOK (by kernel_rfl) (by decide +kernel) fun K hK => ?_) | (refine AX_drawM1 (by kernel_rfl) (by rfl) (by decide +kernel) fun K hK => ?_) | (refine AX_drawA tyOK (by kernel_rfl) (by decide +kernel) fun K hK => ?_)); (first | simp only [go_sem, preN, effOp, runF, alM, mapOp, alD2, kdOf2, Bool.not_false, Bool.not_true, reduceCtorEq] | simp only [go_sem, preN, effOp, runF, alM, mapOp, Bool.not_false, Bool.not_true, reduceCtorEq] | simp only [go_sem, preN, effOp, runF, alD2, kdOf2, Bool.not_false, Bool.not_true, reduceCtorEq] | simp only [go_sem, alD2, kdOf2, Bool.not_false, Bool.not_true, reduceCtorEq] | simp only [go_sem, preN, effOp, runF, Bool.not_false, Bool.not_true, reduceCtorEq] | simp only [go_sem])) | (first | (first | refine XTL (by rfl) hFew ?_ | refine ATL tyOK (by rfl) hFew ?_ | refine XTL (by rfl) hAw ?_ | refine ATL tyOK (by rfl) hAw ?_ | refine XTL (by rfl) hV ?_ | refine ATL tyOK (by rfl) hV ?_ | refine XTL (by rfl) hH ?_ | refine ATL tyOK (by rfl) hH ?_) | ((refine XRes_say rfl hSI (SnapL.cons (.same _ (.iv _)) (SnapL.cons (snap_ints rfl rfl) (SnapL.nil _))) ?_); (simp only [putL, List.set_cons_succ, List.set_cons_zero])) | ((refine XRes_fn (by rfl) (PF.among (idsA (by rfl)) hF) ?_); (rintro r H' ⟨r1, H1, ⟨q, rfl, hq, rfl⟩, rfl, rfl⟩); simp only [renH_nil, ren_lt, List.append_nil]; (simp only [putL, List.set_cons_succ, List.set_cons_zero])))))
          have hq := hq2 _ hq
          (repeat (first | (first | (with_reducible first | refine AX_block ?_ | refine AX_skip ?_ | refine AX_exit ?_ | refine AX_ret ?_ | refine AX_ift ?_ | refine AX_iff ?_ | refine AX_seq_k (fun K hK => ?_) | refine ContX.use (by assumption) ?_) | simp only [thenX, inBlockX, if_true, if_false, reduceCtorEq]) | (first | ((first | (with_reducible refine XRes_op tyOK ?_ ?_) | ((with_reducible first | refine ADF_op tyOK ?_ ?_ ?_ | refine ADX_op tyOK ?_ ?_ ?_); (focus rfl)) | (with_reducible refine ADR_alloc1 tyOK ?_ ?_) | ((with_reducible refine ADR_free1 tyOK ?_ ?_ ?_); (focus rfl)) | ((with_reducible refine ADR_free0 tyOK ?_ ?_ ?_); (focus rfl)) | ((with_reducible refine ADR_read1 tyOK ?_ ?_ ?_); (focus rfl)) | (with_reducible refine ADR_chg1 tyOK ?_ ?_)); (focus (first | (with_reducible rfl) | ((simp (disch := omega) only [go_sem]); done))); simp (disch := omega) only [go_sem , hs1, hs2, hs3, hs4, Int.toNat_zero, Int.toNat_one, List.length_nil, Nat.reduceLeDiff]; (first | (with_reducible refine XRes_id ?_) | (with_reducible refine ADF_id ?_) | (with_reducible refine ADR_id1 ?_) | (with_reducible refine ADX_id ?_))) | ((first | (with_reducible refine XRes_skip ?_ ?_) | (with_reducible refine ADF_skip (b := true) ?_ ?_) | (with_reducible refine ADX_skip ?_ ?_) | ((with_reducible refine ADR_skip1 ?_ ?_ ?_); (focus rfl))); (focus (first | rfl | ((simp (disch := omega) only [go_sem]); done))); (simp only [putL, List.set_cons_succ, List.set_cons_zero]))) | ((first | (with_reducible refine XRes_nil ?_) | (with_reducible refine ADF_nil ?_) | (with_reducible refine ADR_nil ?_) | (with_reducible refine ADX_nil ?_)); (first | refine hK _ ?_ | refine hK _ _ ?_); clear hK K) | ((first | (with_reducible refine AX_reg0 fun K hK => ?_) | (refine AX_drawG1 tyOK (by kernel_rfl) (by rfl) (by kernel_rfl) fun K hK => ?_) | (refine AX_drawT tyOK (by kernel_rfl) (by decide +kernel) fun K hK => ?_) | (refine AX_drawM1 (by kernel_rfl) (by rfl) (by decide +kernel) fun K hK => ?_) | (refine AX_drawA tyOK (by kernel_rfl) (by decide +kernel) fun K hK => ?_)); (first | simp only [go_sem, preN, effOp, runF, alM, mapOp, alD2, kdOf2, Bool.not_false, Bool.not_true, reduceCtorEq] | simp only [go_sem, preN, effOp, runF, alM, mapOp, Bool.not_false, Bool.not_true, reduceCtorEq] | simp only [go_sem, preN, effOp, runF, alD2, kdOf2, Bool.not_false, Bool.not_true, reduceCtorEq] | simp only [go_sem, alD2, kdOf2, Bool.not_false, Bool.not_true, reduceCtorEq] | simp only [go_sem, preN, effOp, runF, Bool.not_false, Bool.not_true, reduceCtorEq] | simp only [go_sem])) | (first | (first | refine XTL (by rfl) hFew ?_ | refine ATL tyOK (by rfl) hFew ?_ | refine XTL (by rfl) hAw ?_ | refine ATL tyOK (by rfl) hAw ?_ | refine XTL (by rfl) hV ?_ | refine ATL tyOK (by rfl) hV ?_ | refine XTL (by rfl) hH ?_ | refine ATL tyOK (by rfl) hH ?_) | ((refine XRes_say rfl hSI (SnapL.cons (.same _ (.iv _)) (SnapL.cons (snap_ints rfl rfl) (SnapL.nil _))) ?_); (simp only [putL, List.set_cons_succ, List.set_cons_zero])) | ((refine XRes_fn (by rfl) (PF.among (idsA (by rfl)) hF) ?_); (rintro r H' ⟨r1, H1, ⟨q, rfl, hq, rfl⟩, rfl, rfl⟩); simp only [renH_nil, ren_lt, List.append_nil]; (simp only [putL, List.set_cons_succ, List.set_cons_zero])))))
          (simp only [bodyX]; refine ⟨_, by simp only [aresults, aresult, XS.as, Try.results4, aload, go_sem, Option.bind_some]; rfl, ?_⟩)
          exact ⟨.iv _, rfl, trivial⟩
        | false =>
          have hq2 : ∀ q : Int, (q < 0 ↔ (h.take n).all (holdsC m) = true) → ¬ q < 0 := fun q hq h => by rw [hq.1 h] at ha; cases ha
          (refine SF_of_bodyX (aload tt) (aload_ok tyOK) Try.func4 rfl (by kernel_rfl) ?_; simp only [Try.ntmps4, List.length_cons, List.length_nil, Nat.reduceAdd, Nat.reduceSub, List.replicate_succ, List.replicate_zero, List.cons_append, List.nil_append])
          unfold iInts iRows iBools
          (repeat (first | (first | (with_reducible first | refine AX_block ?_ | refine AX_skip ?_ | refine AX_exit ?_ | refine AX_ret ?_ | refine AX_ift ?_ | refine AX_iff ?_ | refine AX_seq_k (fun K hK => ?_) | refine ContX.use (by assumption) ?_) | simp only [thenX, inBlockX, if_true, if_false, reduceCtorEq]) | (first | ((first | (with_reducible refine XRes_op tyOK ?_ ?_) | ((with_reducible first | refine ADF_op tyOK ?_ ?_ ?_ | refine ADX_op tyOK ?_ ?_ ?_); (focus rfl)) | (with_reducible refine ADR_alloc1 tyOK ?_ ?_) | ((with_reducible refine ADR_free1 tyOK ?_ ?_ ?_); (focus rfl)) | ((with_reducible refine ADR_free0 tyOK ?_ ?_ ?_); (focus rfl)) | ((with_reducible refine ADR_read1 tyOK ?_ ?_ ?_); (focus rfl)) | (with_reducible refine ADR_chg1 tyOK ?_ ?_)); (focus (first | (with_reducible rfl) | ((simp (disch := omega) only [go_sem]); done))); simp (disch := omega) only [go_sem , hs1, hs2, hs3, hs4, Int.toNat_zero, Int.toNat_one, List.length_nil, Nat.reduceLeDiff]; (first | (with_reducible refine XRes_id ?_) | (with_reducible refine ADF_id ?_) | (with_reducible refine ADR_id1 ?_) | (with_reducible refine ADX_id ?_))) | ((first | (with_reducible refine XRes_skip ?_ ?_) | (with_reducible refine ADF_skip (b := true) ?_ ?_) | (with_reducible refine ADX_skip ?_ ?_) | ((with_reducible refine ADR_skip1 ?_ ?_ ?_); (focus rfl))); (focus (first | rfl | ((simp (disch := omega) only [go_sem]); done))); (simp only [putL, List.set_cons_succ, List.set_cons_zero]))) | ((first | (with_reducible refine XRes_nil ?_) | (with_reducible refine ADF_nil ?_) | (with_reducible refine ADR_nil ?_) | (with_reducible refine ADX_nil ?_)); (first | refine hK _ ?_ | refine hK _ _ ?_); clear hK K) | ((first | (with_reducible refine AX_reg0 fun K hK => ?_) | (refine AX_drawG1 tyOK (by kernel_rfl) (by rfl) (by kernel_rfl) fun K hK => ?_) | (refine AX_drawT tyOK (by kernel_rfl) (by decide +kernel) fun K hK => ?_) | (refine AX_drawM1 (by kernel_rfl) (by rfl) (by decide +kernel) fun K hK => ?_) | (refine AX_drawA tyOK (by kernel_rfl) (by decide +kernel) fun K hK => ?_)); (first | simp only [go_sem, preN, effOp, runF, alM, mapOp, alD2, kdOf2, Bool.not_false, Bool.not_true, reduceCtorEq] | simp only [go_sem, preN, effOp, runF, alM, mapOp, Bool.not_false, Bool.not_true, reduceCtorEq] | simp only [go_sem, preN, effOp, runF, alD2, kdOf2, Bool.not_false, Bool.not_true, reduceCtorEq] | simp only [go_sem, alD2, kdOf2, Bool.not_false, Bool.not_true, reduceCtorEq] | simp only [go_sem, preN, effOp, runF, Bool.not_false, Bool.not_true, reduceCtorEq] | simp only [go_sem])) | (first | (first | refine XTL (by rfl) hFew ?_ | refine ATL tyOK (by rfl) hFew ?_ | refine XTL (by rfl) hAw ?_ | refine ATL tyOK (by rfl) hAw ?_ | refine XTL (by rfl) hV ?_ | refine ATL tyOK (by rfl) hV ?_ | refine XTL (by rfl) hH ?_ | refine ATL tyOK (by rfl) hH ?_) | ((refine XRes_say rfl hSI (SnapL.cons (.same _ (.iv _)) (SnapL.cons (snap_ints rfl rfl) (SnapL.nil _))) ?_); (simp only [putL, List.set_cons_succ, List.set_cons_zero])) | ((refine XRes_fn (by rfl) (PF.among (idsA (by rfl)) hF) ?_); (rintro r H' ⟨r1, H1, ⟨q, rfl, hq, rfl⟩, rfl, rfl⟩); simp only [renH_nil, ren_lt, List.append_nil]; (simp only [putL, List.set_cons_succ, List.set_cons_zero])))))
          have hq := hq2 _ hq
          (repeat (first | (first | (with_reducible first | refine AX_block ?_ | refine AX_skip ?_ | refine AX_exit ?_ | refine AX_ret ?_ | refine AX_ift ?_ | refine AX_iff ?_ | refine AX_seq_k (fun K hK => ?_) | refine ContX.use (by assumption) ?_) | simp only [thenX, inBlockX, if_true, if_false, reduceCtorEq]) | (first | ((first | (with_reducible refine XRes_op tyOK ?_ ?_) | ((with_reducible first | refine ADF_op tyOK ?_ ?_ ?_ | refine ADX_op tyOK ?_ ?_ ?_); (focus rfl)) | (with_reducible refine ADR_alloc1 tyOK ?_ ?_) | ((with_reducible refine ADR_free1 tyOK ?_ ?_ ?_); (focus rfl)) | ((with_reducible refine ADR_free0 tyOK ?_ ?_ ?_); (focus rfl)) | ((with_reducible refine ADR_read1 tyOK ?_ ?_ ?_); (focus rfl)) | (with_reducible refine ADR_chg1 tyOK ?_ ?_)); (focus (first | (with_reducible rfl) | ((simp (disch := omega) only [go_sem]); done))); simp (disch := omega) only [go_sem , hs1, hs2, hs3, hs4, Int.toNat_zero, Int.toNat_one, List.length_nil, Nat.reduceLeDiff]; (first | (with_reducible refine XRes_id ?_) | (with_reducible refine ADF_id ?_) | (with_reducible refine ADR_id1 ?_) | (with_reducible refine ADX_id ?_))) | ((first | (with_reducible refine XRes_skip ?_ ?_) | (with_reducible refine ADF_skip (b := true) ?_ ?_) | (with_reducible refine ADX_skip ?_ ?_) | ((with_reducible refine ADR_skip1 ?_ ?_ ?_); (focus rfl))); (focus (first | rfl | ((simp (disch := omega) only [go_sem]); done))); (simp only [putL, List.set_cons_succ, List.set_cons_zero]))) | ((first | (with_reducible refine XRes_nil ?_) | (with_reducible refine ADF_nil ?_) | (with_reducible refine ADR_nil ?_) | (with_reducible refine ADX_nil ?_)); (first | refine hK _ ?_ | refine hK _ _ ?_); clear hK K) | ((first | (with_reducible refine AX_reg0 fun K hK => ?_) | (refine AX_drawG1 tyOK (by kernel_rfl) (by rfl) (by kernel_rfl) fun K hK => ?_) | (refine AX_drawT tyOK (by kernel_rfl) (by decide +kernel) fun K hK => ?_) | (refine AX_drawM1 (by kernel_rfl) (by rfl) (by decide +kernel) fun K hK => ?_) | (refine AX_drawA tyOK (by kernel_rfl) (by decide +kernel) fun K hK => ?_)); (first | simp only [go_sem, preN, effOp, runF, alM, mapOp, alD2, kdOf2, Bool.not_false, Bool.not_true, reduceCtorEq] | simp only [go_sem, preN, effOp, runF, alM, mapOp, Bool.not_false, Bool.not_true, reduceCtorEq] | simp only [go_sem, preN, effOp, runF, alD2, kdOf2, Bool.not_false, Bool.not_true, reduceCtorEq] | simp only [go_sem, alD2, kdOf2, Bool.not_false, Bool.not_true, reduceCtorEq] | simp only [go_sem, preN, effOp, runF, Bool.not_false, Bool.not_true, reduceCtorEq] | simp only [go_sem])) | (first | (first | refine XTL (by rfl) hFew ?_ | refine ATL tyOK (by rfl) hFew ?_ | refine XTL (by rfl) hAw ?_ | refine ATL tyOK (by rfl) hAw ?_ | refine XTL (by rfl) hV ?_ | refine ATL tyOK (by rfl) hV ?_ | refine XTL (by rfl) hH ?_ | refine ATL tyOK (by rfl) hH ?_) | ((refine XRes_say rfl hSI (SnapL.cons (.same _ (.iv _)) (SnapL.cons (snap_ints rfl rfl) (SnapL.nil _))) ?_); (simp only [putL, List.set_cons_succ, List.set_cons_zero])) | ((refine XRes_fn (by rfl) (PF.among (idsA (by rfl)) hF) ?_); (rintro r H' ⟨r1, H1, ⟨q, rfl, hq, rfl⟩, rfl, rfl⟩); simp only [renH_nil, ren_lt, List.append_nil]; (simp only [putL, List.set_cons_succ, List.set_cons_zero])))))
          (simp only [bodyX]; refine ⟨_, by simp only [aresults, aresult, XS.as, Try.results4, aload, go_sem, Option.bind_some]; rfl, ?_⟩)
          exact ⟨.iv _, rfl, trivial⟩
      · (refine SF_of_bodyX (aload tt) (aload_ok tyOK) Try.func4 rfl (by kernel_rfl) ?_; simp only [Try.ntmps4, List.length_cons, List.length_nil, Nat.reduceAdd, Nat.reduceSub, List.replicate_succ, List.replicate_zero, List.cons_append, List.nil_append])
        unfold iInts iRows iBools
        (repeat (first | (first | (with_reducible first | refine AX_block ?_ | refine AX_skip ?_ | refine AX_exit ?_ | refine AX_ret ?_ | refine AX_ift ?_ | refine AX_iff ?_ | refine AX_seq_k (fun K hK => ?_) | refine ContX.use (by assumption) ?_) | simp only [thenX, inBlockX, if_true, if_false, reduceCtorEq]) | (first | ((first | (with_reducible refine XRes_op tyOK ?_ ?_) | ((with_reducible first | refine ADF_op tyOK ?_ ?_ ?_ | refine ADX_op tyOK ?_ ?_ ?_); (focus rfl)) | (with_reducible refine ADR_alloc1 tyOK ?_ ?_) | ((with_reducible refine ADR_free1 tyOK ?_ ?_ ?_); (focus rfl)) | ((with_reducible refine ADR_free0 tyOK ?_ ?_ ?_); (focus rfl)) | ((with_reducible refine ADR_read1 tyOK ?_ ?_ ?_); (focus rfl)) | (with_reducible refine ADR_chg1 tyOK ?_ ?_)); (focus (first | (with_reducible rfl) | ((simp (disch := omega) only [go_sem]); done))); simp (disch := omega) only [go_sem , hs1, hs2, hs3, hs4, Int.toNat_zero, Int.toNat_one, List.length_nil, Nat.reduceLeDiff]; (first | (with_reducible refine XRes_id ?_) | (with_reducible refine ADF_id ?_) | (with_reducible refine ADR_id1 ?_) | (with_reducible refine ADX_id ?_))) | ((first | (with_reducible refine XRes_skip ?_ ?_) | (with_reducible refine ADF_skip (b := true) ?_ ?_) | (with_reducible refine ADX_skip ?_ ?_) | ((with_reducible refine ADR_skip1 ?_ ?_ ?_); (focus rfl))); (focus (first | rfl | ((simp (disch := omega) only [go_sem]); done))); (simp only [putL, List.set_cons_succ, List.set_cons_zero]))) | ((first | (with_reducible refine XRes_nil ?_) | (with_reducible refine ADF_nil ?_) | (with_reducible refine ADR_nil ?_) | (with_reducible refine ADX_nil ?_)); (first | refine hK _ ?_ | refine hK _ _ ?_); clear hK K) | ((first | (with_reducible refine AX_reg0 fun K hK => ?_) | (refine AX_drawG1 tyOK (by kernel_rfl) (by rfl) (by kernel_rfl) fun K hK => ?_) | (refine AX_drawT tyOK (by kernel_rfl) (by decide +kernel) fun K hK => ?_) | (refine AX_drawM1 (by kernel_rfl) (by rfl) (by decide +kernel) fun K hK => ?_) | (refine AX_drawA tyOK (by kernel_rfl) (by decide +kernel) fun K hK => ?_)); (first | simp only [go_sem, preN, effOp, runF, alM, mapOp, alD2, kdOf2, Bool.not_false, Bool.not_true, reduceCtorEq] | simp only [go_sem, preN, effOp, runF, alM, mapOp, Bool.not_false, Bool.not_true, reduceCtorEq] | simp only [go_sem, preN, effOp, runF, alD2, kdOf2, Bool.not_false, Bool.not_true, reduceCtorEq] | simp only [go_sem, alD2, kdOf2, Bool.not_false, Bool.not_true, reduceCtorEq] | simp only [go_sem, preN, effOp, runF, Bool.not_false, Bool.not_true, reduceCtorEq] | simp only [go_sem])) | (first | (first | refine XTL (by rfl) hFew ?_ | refine ATL tyOK (by rfl) hFew ?_ | refine XTL (by rfl) hAw ?_ | refine ATL tyOK (by rfl) hAw ?_ | refine XTL (by rfl) hV ?_ | refine ATL tyOK (by rfl) hV ?_ | refine XTL (by rfl) hH ?_ | refine ATL tyOK (by rfl) hH ?_) | ((refine XRes_say rfl hSI (SnapL.cons (.same _ (.iv _)) (SnapL.cons (snap_ints rfl rfl) (SnapL.nil _))) ?_); (simp only [putL, List.set_cons_succ, List.set_cons_zero])) | ((refine XRes_fn (by rfl) (PF.among (idsA (by rfl)) hF) ?_); (rintro r H' ⟨r1, H1, ⟨q, rfl, hq, rfl⟩, rfl, rfl⟩); simp only [renH_nil, ren_lt, List.append_nil]; (simp only [putL, List.set_cons_succ, List.set_cons_zero])))))
        (simp only [bodyX]; refine ⟨_, by simp only [aresults, aresult, XS.as, Try.results4, aload, go_sem, Option.bind_some]; rfl, ?_⟩)
        exact ⟨.iv _, rfl, trivial⟩
    · (refine SF_of_bodyX (aload tt) (aload_ok tyOK) Try.func4 rfl (by kernel_rfl) ?_; simp only [Try.ntmps4, List.length_cons, List.length_nil, Nat.reduceAdd, Nat.reduceSub, List.replicate_succ, List.replicate_zero, List.cons_append, List.nil_append])
      unfold iBools
      (repeat (first | (first | (with_reducible first | refine AX_block ?_ | refine AX_skip ?_ | refine AX_exit ?_ | refine AX_ret ?_ | refine AX_ift ?_ | refine AX_iff ?_ | refine AX_seq_k (fun K hK => ?_) | refine ContX.use (by assumption) ?_) | simp only [thenX, inBlockX, if_true, if_false, reduceCtorEq]) | (first | ((first | (with_reducible refine XRes_op tyOK ?_ ?_) | ((with_reducible first | refine ADF_op tyOK ?_ ?_ ?_ | refine ADX_op tyOK ?_ ?_ ?_); (focus rfl)) | (with_reducible refine ADR_alloc1 tyOK ?_ ?_) | ((with_reducible refine ADR_free1 tyOK ?_ ?_ ?_); (focus rfl)) | ((with_reducible refine ADR_free0 tyOK ?_ ?_ ?_); (focus rfl)) | ((with_reducible refine ADR_read1 tyOK ?_ ?_ ?_); (focus rfl)) | (with_reducible refine ADR_chg1 tyOK ?_ ?_)); (focus (first | (with_reducible rfl) | ((simp (disch := omega) only [go_sem]); done))); simp (disch := omega) only [go_sem , hs1, hs2, hs3, hs4, Int.toNat_zero, Int.toNat_one, List.length_nil, Nat.reduceLeDiff]; (first | (with_reducible refine XRes_id ?_) | (with_reducible refine ADF_id ?_) | (with_reducible refine ADR_id1 ?_) | (with_reducible refine ADX_id ?_))) | ((first | (with_reducible refine XRes_skip ?_ ?_) | (with_reducible refine ADF_skip (b := true) ?_ ?_) | (with_reducible refine ADX_skip ?_ ?_) | ((with_reducible refine ADR_skip1 ?_ ?_ ?_); (focus rfl))); (focus (first | rfl | ((simp (disch := omega) only [go_sem]); done))); (simp only [putL, List.set_cons_succ, List.set_cons_zero]))) | ((first | (with_reducible refine XRes_nil ?_) | (with_reducible refine ADF_nil ?_) | (with_reducible refine ADR_nil ?_) | (with_reducible refine ADX_nil ?_)); (first | refine hK _ ?_ | refine hK _ _ ?_); clear hK K) | ((first | (with_reducible refine AX_reg0 fun K hK => ?_) | (refine AX_drawG1 tyOK (by kernel_rfl) (by rfl) (by kernel_rfl) fun K hK => ?_) | (refine AX_drawT tyOK (by kernel_rfl) (by decide +kernel) fun K hK => ?_) | (refine AX_drawM1 (by kernel_rfl) (by rfl) (by decide +kernel) fun K hK => ?_) | (refine AX_drawA tyOK (by kernel_rfl) (by decide +kernel) fun K hK => ?_)); (first | simp only [go_sem, preN, effOp, runF, alM, mapOp, alD2, kdOf2, Bool.not_false, Bool.not_true, reduceCtorEq] | simp only [go_sem, preN, effOp, runF, alM, mapOp, Bool.not_false, Bool.not_true, reduceCtorEq] | simp only [go_sem, preN, effOp, runF, alD2, kdOf2, Bool.not_false, Bool.not_true, reduceCtorEq] | simp only [go_sem, alD2, kdOf2, Bool.not_false, Bool.not_true, reduceCtorEq] | simp only [go_sem, preN, effOp, runF, Bool.not_false, Bool.not_true, reduceCtorEq] | simp only [go_sem])) | (first | (first | refine XTL (by rfl) hFew ?_ | refine ATL tyOK (by rfl) hFew ?_ | refine XTL (by rfl) hAw ?_ | refine ATL tyOK (by rfl) hAw ?_ | refine XTL (by rfl) hV ?_ | refine ATL tyOK (by rfl) hV ?_ | refine XTL (by rfl) hH ?_ | refine ATL tyOK (by rfl) hH ?_) | ((refine XRes_say rfl hSI (SnapL.cons (.same _ (.iv _)) (SnapL.cons (snap_ints rfl rfl) (SnapL.nil _))) ?_); (simp only [putL, List.set_cons_succ, List.set_cons_zero])) | ((refine XRes_fn (by rfl) (PF.among (idsA (by rfl)) hF) ?_); (rintro r H' ⟨r1, H1, ⟨q, rfl, hq, rfl⟩, rfl, rfl⟩); simp only [renH_nil, ren_lt, List.append_nil]; (simp only [putL, List.set_cons_succ, List.set_cons_zero])))))
      (simp only [bodyX]; refine ⟨_, by simp only [aresults, aresult, XS.as, Try.results4, aload, go_sem, Option.bind_some]; rfl, ?_⟩)
      exact ⟨.iv _, rfl, trivial⟩
end Go.Proofs.Ytcanlckenjndbaa
