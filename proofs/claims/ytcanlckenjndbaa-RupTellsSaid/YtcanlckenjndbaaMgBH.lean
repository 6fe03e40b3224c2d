import Derived.Test.YtcanlckenjndbaaMgAZ
import Derived.Test.YtcanlckenjndbaaMgBG
import Derived.Test.YtcanlckenjndbaaMgAJ
namespace Go.Proofs.Ytcanlckenjndbaa
open Go.RowKit
set_option linter.unusedVariables false
set_option linter.unusedSimpArgs false
set_option maxRecDepth 100000 in
set_option maxHeartbeats 1000000 in
theorem pf_sameInts (xs ys : List Int) (hx : xs.length ≤ 1000000) (hy : ys.length ≤ 1000000) : PF Try.prog 21 [.iv (iInts xs), .iv (iInts ys)] fun r H' => r = lt (.bool (decide (xs = ys))) ∧ H' = [] := by
  refine SF.forgetAll ?_
  (refine SF_of_bodyX (aload tt) (aload_ok tyOK) Try.func21 rfl (by kernel_rfl) ?_; simp only [Try.ntmps21, List.length_cons, List.length_nil, Nat.reduceAdd, Nat.reduceSub, List.replicate_succ, List.replicate_zero, List.cons_append, List.nil_append])
  unfold iInts
  by_cases hl : xs.length = ys.length
  · (repeat (first | (first | (with_reducible first | refine AX_block ?_ | refine AX_skip ?_ | refine AX_exit ?_ | refine AX_ret ?_ | refine AX_ift ?_ | refine AX_iff ?_ | refine AX_seq_k (fun K hK => ?_) | refine ContX.use (by assumption) ?_) | simp only [thenX, inBlockX, if_true, if_false, reduceCtorEq]) | (first | ((with_reducible first | refine XOP tyOK ?_ | refine AOP tyOK ?_); simp (disch := omega) only [go_sem , List.length_nil]; (with_reducible first | refine XRes_id ?_ | refine ADF_id ?_)) | (with_reducible first | refine XSK ?_ | refine ASK ?_)) | ((first | (with_reducible refine XRes_nil ?_) | (with_reducible refine ADF_nil ?_)); (first | refine hK _ ?_ | refine hK _ _ ?_); clear hK K) | ((first | (with_reducible refine AX_reg0 fun K hK => ?_) | (refine AX_drawG1 tyOK (by kernel_rfl) (by rfl) (by kernel_rfl) fun K hK => ?_)); simp only [go_sem]) | fail))
    (refine AWH (σ := Nat) [11, 12, 13, 14, 17, 18, 19, 20, 21, 22, 23, 24, 25, 4, 15, 16] (fun k => [(5, lint k)]) (fun k => []) (fun k => []) (fun k => k ≤ xs.length ∧ ∀ i, i < k → xs.getD i 0 = ys.getD i 0) (fun k => xs.length - k) 0 (by first | exact ⟨Nat.zero_le _, fun i h => absurd h (by omega)⟩) ?_; rintro k d fr hfr ⟨hk, hp⟩; simp only [updS, deadS, List.set_cons_succ, List.set_cons_zero, lint] at hfr; subst hfr; (try dsimp only))
    (repeat' (first | (first | (with_reducible first | refine AX_block ?_ | refine AX_skip ?_ | refine AX_exit ?_ | refine AX_ret ?_ | refine AX_ift ?_ | refine AX_iff ?_ | refine AX_seq_k (fun K hK => ?_) | refine ContX.use (by assumption) ?_) | simp only [thenX, inBlockX, if_true, if_false, reduceCtorEq]) | (first | ((with_reducible first | refine XOP tyOK ?_ | refine AOP tyOK ?_); simp (disch := omega) only [go_sem , List.length_nil]; (with_reducible first | refine XRes_id ?_ | refine ADF_id ?_)) | (with_reducible first | refine XSK ?_ | refine ASK ?_)) | ((first | (with_reducible refine XRes_nil ?_) | (with_reducible refine ADF_nil ?_)); (first | refine hK _ ?_ | refine hK _ _ ?_); clear hK K) | ((first | (with_reducible refine AX_reg0 fun K hK => ?_) | (refine AX_drawG1 tyOK (by kernel_rfl) (by rfl) (by kernel_rfl) fun K hK => ?_)); simp only [go_sem]) | fail | ((first | (refine XRes_splitG (by rfl) (fun hc => ?_) (fun hc => ?_)) | (refine ADF_splitG (by rfl) (fun hc => ?_) (fun hc => ?_))) <;> (try simp only [eqRes, List.cons_beq_cons, Bool.and_eq_true, Bool.not_eq_true, Bool.and_eq_false_iff, decide_eq_true_eq, decide_eq_false_iff_not, bne_iff_ne, beq_iff_eq, bne_eq_false_iff_eq, beq_eq_false_iff_ne, Bool.not_eq_true', Bool.not_eq_false', ne_eq, Int.not_lt, Int.not_le, Decidable.not_not] at hc) <;> simp only [List.set_cons_succ, List.set_cons_zero]) | (first | ((with_reducible refine AX_if_t ?_ ?_); focus (simp (disch := omega) only [go_sem , List.length_nil]; done)) | ((with_reducible refine AX_if_f ?_ ?_); focus (simp (disch := omega) only [go_sem , List.length_nil]; done)) | (refine AX_cond _ (by rfl) (fun hc => ?_) (fun hc => ?_) <;> (try simp only [eqRes, List.cons_beq_cons, Bool.and_eq_true, Bool.not_eq_true, Bool.and_eq_false_iff, decide_eq_true_eq, decide_eq_false_iff_not, bne_iff_ne, beq_iff_eq, bne_eq_false_iff_eq, beq_eq_false_iff_ne, Bool.not_eq_true', Bool.not_eq_false', ne_eq, Int.not_lt, Int.not_le, Decidable.not_not] at hc)))))
    · (simp only [bodyX]; refine ⟨_, by simp only [aresults, aresult, XS.as, Try.results21, aload, go_sem, Option.bind_some]; rfl, ?_⟩)
      exact ⟨.iv _, (by rw [decide_eq_false]; intro e; subst e; exact hc rfl), trivial⟩
    · exact whx_end (k + 1) ⟨by omega, fun i hi => by
        rcases Nat.lt_or_ge i k with h | h
        · exact hp i h
        · rw [show i = k by omega]; exact hc⟩ (by (first | omega | (dsimp only; omega) | (simp only; omega))) rfl (by first | rfl | (simp (disch := omega) only [go_sem, lint])) (fun d => by first | ((simp only [deadS, updS, List.set_cons_succ, List.set_cons_zero, lint, List.length_nil, List.length_cons]); done) | ((simp only [deadS, updS, List.set_cons_succ, List.set_cons_zero, lint, List.length_nil, List.length_cons]); rfl) | rfl)
    · (simp only [bodyX]; refine ⟨_, by simp only [aresults, aresult, XS.as, Try.results21, aload, go_sem, Option.bind_some]; rfl, ?_⟩)
      refine ⟨.iv _, (by
        rw [decide_eq_true]
        apply List.ext_getElem hl
        intro i h1 h2
        have := hp i (by omega)
        simpa [List.getD, h1, h2] using this), trivial⟩
  · (repeat' (first | (first | (with_reducible first | refine AX_block ?_ | refine AX_skip ?_ | refine AX_exit ?_ | refine AX_ret ?_ | refine AX_ift ?_ | refine AX_iff ?_ | refine AX_seq_k (fun K hK => ?_) | refine ContX.use (by assumption) ?_) | simp only [thenX, inBlockX, if_true, if_false, reduceCtorEq]) | (first | ((with_reducible first | refine XOP tyOK ?_ | refine AOP tyOK ?_); simp (disch := omega) only [go_sem , List.length_nil]; (with_reducible first | refine XRes_id ?_ | refine ADF_id ?_)) | (with_reducible first | refine XSK ?_ | refine ASK ?_)) | ((first | (with_reducible refine XRes_nil ?_) | (with_reducible refine ADF_nil ?_)); (first | refine hK _ ?_ | refine hK _ _ ?_); clear hK K) | ((first | (with_reducible refine AX_reg0 fun K hK => ?_) | (refine AX_drawG1 tyOK (by kernel_rfl) (by rfl) (by kernel_rfl) fun K hK => ?_)); simp only [go_sem]) | fail | ((first | (refine XRes_splitG (by rfl) (fun hc => ?_) (fun hc => ?_)) | (refine ADF_splitG (by rfl) (fun hc => ?_) (fun hc => ?_))) <;> (try simp only [eqRes, List.cons_beq_cons, Bool.and_eq_true, Bool.not_eq_true, Bool.and_eq_false_iff, decide_eq_true_eq, decide_eq_false_iff_not, bne_iff_ne, beq_iff_eq, bne_eq_false_iff_eq, beq_eq_false_iff_ne, Bool.not_eq_true', Bool.not_eq_false', ne_eq, Int.not_lt, Int.not_le, Decidable.not_not] at hc) <;> simp only [List.set_cons_succ, List.set_cons_zero]) | (first | ((with_reducible refine AX_if_t ?_ ?_); focus (simp (disch := omega) only [go_sem , List.length_nil]; done)) | ((with_reducible refine AX_if_f ?_ ?_); focus (simp (disch := omega) only [go_sem , List.length_nil]; done)) | (refine AX_cond _ (by rfl) (fun hc => ?_) (fun hc => ?_) <;> (try simp only [eqRes, List.cons_beq_cons, Bool.and_eq_true, Bool.not_eq_true, Bool.and_eq_false_iff, decide_eq_true_eq, decide_eq_false_iff_not, bne_iff_ne, beq_iff_eq, bne_eq_false_iff_eq, beq_eq_false_iff_ne, Bool.not_eq_true', Bool.not_eq_false', ne_eq, Int.not_lt, Int.not_le, Decidable.not_not] at hc)))))
    (simp only [bodyX]; refine ⟨_, by simp only [aresults, aresult, XS.as, Try.results21, aload, go_sem, Option.bind_some]; rfl, ?_⟩)
    exact ⟨.iv _, (by rw [decide_eq_false]; intro e; subst e; exact hl rfl), trivial⟩
end Go.Proofs.Ytcanlckenjndbaa
namespace Go.Proofs.Ytcanlckenjndbaa
open Go.RowKit
set_option linter.unusedVariables false
set_option linter.unusedSimpArgs false
def h8 : List (List Int) := [[-2, 3], [-1, 2], [1]]
theorem h8_len : h8.length = 3 := rfl
set_option maxRecDepth 100000 in
set_option maxHeartbeats 1000000 in
theorem pf_hints8 : PF Try.prog 54 [] fun r H' => r = .iv (iRows h8) ∧ H' = [] := by
  refine SF.forgetAll ?_
  have hs1 := trivial
  (refine SF_of_bodyX (aload tt) (aload_ok tyOK) Try.func54 rfl (by kernel_rfl) ?_; simp only [Try.ntmps54, List.length_cons, List.length_nil, Nat.reduceAdd, Nat.reduceSub, List.replicate_succ, List.replicate_zero, List.cons_append, List.nil_append])
  repeat (first | (first | (with_reducible first | refine AX_block ?_ | refine AX_skip ?_ | refine AX_exit ?_ | refine AX_ret ?_ | refine AX_ift ?_ | refine AX_iff ?_ | refine AX_seq_k (fun K hK => ?_) | refine ContX.use (by assumption) ?_) | simp only [thenX, inBlockX, if_true, if_false, reduceCtorEq]) | ((first | (refine XRes_litF tyOK (by rfl) rfl (by decide) rfl rfl ?_) | (refine ADF_litF tyOK (by rfl) rfl (by decide) rfl rfl ?_) | (refine XRes_litRw tyOK [[-2, 3], [-1, 2], [1]] (by rfl) rfl ?_) | (refine XRes_litRw tyOK [[4, 5]] (by rfl) rfl ?_) | (refine XRes_litRw tyOK [[1], [9, 8], [-1, 2], [-2, 3]] (by rfl) rfl ?_)); (simp only [List.map_cons, List.map_nil, intOf, putL, List.set_cons_succ, List.set_cons_zero])) | (first | ((first | (with_reducible refine XRes_op tyOK ?_ ?_) | ((with_reducible first | refine ADF_op tyOK ?_ ?_ ?_ | refine ADX_op tyOK ?_ ?_ ?_); (focus rfl)) | (with_reducible refine ADR_alloc1 tyOK ?_ ?_) | ((with_reducible refine ADR_free1 tyOK ?_ ?_ ?_); (focus rfl)) | ((with_reducible refine ADR_free0 tyOK ?_ ?_ ?_); (focus rfl)) | ((with_reducible refine ADR_read1 tyOK ?_ ?_ ?_); (focus rfl)) | (with_reducible refine ADR_chg1 tyOK ?_ ?_)); (focus (first | (with_reducible rfl) | ((simp (disch := omega) only [go_sem]); done))); simp (disch := omega) only [go_sem , nI_len, hs1, h8_len, Nat.reduceLeDiff, iFlat, iInts, iRows, List.getD_cons_zero, List.getD_cons_succ, Int.reduceToNat, Int.toNat_zero, Int.toNat_one, Nat.zero_mul, Nat.one_mul, Nat.zero_add, Nat.reduceMul, Nat.reduceAdd, Nat.reduceSub]; (first | (with_reducible refine XRes_id ?_) | (with_reducible refine ADF_id ?_) | (with_reducible refine ADR_id1 ?_) | (with_reducible refine ADX_id ?_))) | ((first | (with_reducible refine XRes_skip ?_ ?_) | (with_reducible refine ADF_skip (b := true) ?_ ?_) | (with_reducible refine ADX_skip ?_ ?_) | ((with_reducible refine ADR_skip1 ?_ ?_ ?_); (focus rfl))); (focus (first | rfl | ((simp (disch := omega) only [go_sem]); done))); (simp only [putL, List.set_cons_succ, List.set_cons_zero]))) | ((first | (with_reducible refine XRes_nil ?_) | (with_reducible refine ADF_nil ?_) | (with_reducible refine ADR_nil ?_) | (with_reducible refine ADX_nil ?_)); (first | refine hK _ ?_ | refine hK _ _ ?_); clear hK K) | ((first | (with_reducible refine AX_reg0 fun K hK => ?_) | (refine AX_drawG1 tyOK (by kernel_rfl) (by rfl) (by kernel_rfl) fun K hK => ?_) | (refine AX_drawT tyOK (by kernel_rfl) (by decide +kernel) fun K hK => ?_) | (refine AX_drawM1 (by kernel_rfl) (by rfl) (by decide +kernel) fun K hK => ?_) | (refine AX_drawA tyOK (by kernel_rfl) (by decide +kernel) fun K hK => ?_)); (first | simp only [go_sem, preN, effOp, runF, alM, mapOp, alD2, kdOf2, Bool.not_false, Bool.not_true, reduceCtorEq] | simp only [go_sem, preN, effOp, runF, alM, mapOp, Bool.not_false, Bool.not_true, reduceCtorEq] | simp only [go_sem, preN, effOp, runF, alD2, kdOf2, Bool.not_false, Bool.not_true, reduceCtorEq] | simp only [go_sem, alD2, kdOf2, Bool.not_false, Bool.not_true, reduceCtorEq] | simp only [go_sem, preN, effOp, runF, Bool.not_false, Bool.not_true, reduceCtorEq] | simp only [go_sem])))
  (simp only [bodyX]; refine ⟨_, by simp only [aresults, aresult, XS.as, Try.results54, aload, go_sem, Option.bind_some]; rfl, ?_⟩)
  exact ⟨.iv _, rfl, trivial⟩
theorem rowsOk_of {R : List (List Int)} (h1 : R.length ≤ 100000) (h2 : ∀ c ∈ R, c.length ≤ 100000) : RowsOk R := ⟨h1, fun k => by
  by_cases hk : k < R.length
  · have : R.getD k [] = R[k] := by simp [List.getD, hk]
    rw [this]; exact h2 _ (List.getElem_mem hk)
  · have : R.getD k [] = [] := by simp [List.getD, List.getElem?_eq_none (show R.length ≤ k by omega)]
    rw [this]; exact Nat.zero_le _⟩
theorem q8_S1 : PF Try.prog 17 [.iv (iInts [3]), .iv (iRows h8)] fun r H' => r = .tup [lt (.int .i64 3), lt (.int .i64 0)] ∧ H' = [] := by
  have h := pf_Show [3] h8 (by decide) (rowsOk_of (by decide) (by decide))
  rw [show shN8 [3] h8 = 3 by decide +kernel, show shE8 [3] h8 = 0 by decide +kernel] at h
  exact h
theorem q8_S2 (g : Nat → IV) (hg : ∀ j, j < 2 → g j = (fun j => .sl (fun i => .lit (.int .i64 ((([[-2, 3], [-1, 2]] : List (List Int)).getD j []).getD i 0))) ((([[-2, 3], [-1, 2]] : List (List Int)).getD j []).length) 1) j) : PF Try.prog 17 [.iv (iInts [3]), .iv (.sl g 2 1)] fun r H' => r = .tup [lt (.int .i64 2), lt (.int .i64 23)] ∧ H' = [] := by
  have h := pf_Show [3] [[-2, 3], [-1, 2]] (by decide) (rowsOk_of (by decide) (by decide))
  rw [show shN8 [3] [[-2, 3], [-1, 2]] = 2 by decide +kernel, show shE8 [3] [[-2, 3], [-1, 2]] = 23 by decide +kernel] at h
  exact SF.args h fun G vs hv => by
    obtain ⟨v1, t1, rfl, a1, r1⟩ := hv.uncons
    obtain ⟨v2, t2, rfl, a2, r2⟩ := r1.uncons
    exact RL.cons a1 (RL.cons (RA.congr a2 fun j hj => hg j (by omega)) r2)
theorem q8_S3 : PF Try.prog 17 [.iv (iInts [3]), .iv (iRows [[4, 5]])] fun r H' => r = .tup [lt (.int .i64 0), lt (.int .i64 22)] ∧ H' = [] := by
  have h := pf_Show [3] [[4, 5]] (by decide) (rowsOk_of (by decide) (by decide))
  rw [show shN8 [3] [[4, 5]] = 0 by decide +kernel, show shE8 [3] [[4, 5]] = 22 by decide +kernel] at h
  exact h
theorem q8_T1 : PF Try.prog 13 [.iv (iInts [3, -4, 3])] fun r H' => r = .tup [.iv (iInts [-3, 4]), lt (.int .i64 0)] ∧ H' = [] := by
  have h := pf_Start [3, -4, 3] (by decide)
  rw [show stR [3, -4, 3] = [-3, 4] by decide +kernel, show stE [3, -4, 3] = 0 by decide +kernel] at h
  exact h
theorem q8_T2 : PF Try.prog 13 [.iv (iInts [3, -3])] fun r H' => r = .tup [.iv (iInts []), lt (.int .i64 11)] ∧ H' = [] := by
  have h := pf_Start [3, -3] (by decide)
  rw [show stR [3, -3] = [] by decide +kernel, show stE [3, -3] = 11 by decide +kernel] at h
  exact h
theorem q8_C : PF Try.prog 15 [.iv (iInts [-3]), .iv (iRows h8)] fun r H' => r = .tup [.iv (iInts [-3, -2, -1]), lt (.int .i64 3), lt (.int .i64 0)] ∧ H' = [] := by
  have h := pf_Chain [-3] h8 (by decide) (rowsOk_of (by decide) (by decide))
  rw [show chn [-3] h8 0 = ([-3, -2, -1], 3, 0) by decide +kernel] at h
  exact h
theorem q8_SI (L : List Int) (hL : L.length ≤ 1000000) : PF Try.prog 21 [.iv (iInts L), .iv (iInts L)] fun r H' => r = lt (.bool true) ∧ H' = [] := by
  have h := pf_sameInts L L hL hL
  rwa [decide_eq_true rfl] at h
def c8 : List (List Int) := [[1], [9, 8], [-1, 2], [-2, 3]]
def S8 : List (List Nat × List Int) := [([], [-3]), ([0], [-3, 1]), ([3], [-3, -2]), ([0, 2], [-3, 1, 2]), ([0, 3], [-3, 1, -2]), ([3, 0], [-3, -2, 1]), ([3, 2], [-3, -2, -1])]
theorem dv8 {is : List Nat} {L : List Int} (h : Dv c8 [-3] is L) : (is, L) ∈ S8 := by
  induction h with
  | nil => decide
  | @snoc is L i _ hi h1 h2 ih =>
    have hall : (S8.all fun p => (List.range 4).all fun i => (aCl p.2 (c8.getD i []) == -1) || !(aUnitOk p.2 (c8.getD i [])) || S8.contains (p.1 ++ [i], p.2 ++ [aUnit p.2 (c8.getD i [])])) = true := by decide +kernel
    have h3 := List.all_eq_true.1 (List.all_eq_true.1 hall _ ih) i (List.mem_range.2 hi)
    dsimp only at h3
    rw [h2, show (aCl L (c8.getD i []) == -1) = false from beq_false_of_ne h1] at h3
    simpa using h3
theorem q8_H : PF Try.prog 24 [.iv (iRows c8), .iv (iInts [3])] fun r H' => ∃ hs : List Nat, hs.length = 3 ∧ r = .tup [.iv (iInts (nI hs)), lt (.bool true)] ∧ H' = [] := by
  refine SF.mono (pf_Hints c8 [3] (by decide) (rowsOk_of (by decide) (by decide)) (by decide)) ?_
  rintro r H' ⟨hs, ok, h1, h2, h3⟩
  unfold HintP at h2
  rw [if_neg (by decide +kernel)] at h2
  have hst : stR [3] = [-3] := by decide +kernel
  rw [hst] at h2
  by_cases hok : ok = true
  · rw [if_pos hok] at h2
    obtain ⟨is, L, i, e1, e2, e3, e4⟩ := h2
    have hall : ∀ p ∈ S8, ∀ i, i < 4 → aCl p.2 (c8.getD i []) = -1 → p.1.length = 2 := by decide +kernel
    have := hall _ (dv8 e2) i e3 e4
    exact ⟨hs, by rw [e1, List.length_append]; show is.length + 1 = 3; have : is.length = 2 := this; omega, by rw [h1, hok], h3⟩
  · rw [if_neg hok] at h2
    obtain ⟨_, is, L, e2, e3⟩ := h2
    have hall : ∀ p ∈ S8, ¬ ∀ i, i < 4 → aCl p.2 (c8.getD i []) ≠ -1 ∧ aUnitOk p.2 (c8.getD i []) = false := by decide +kernel
    exact absurd (fun i hi => e3 i hi) (hall _ (dv8 e2))
set_option maxRecDepth 100000 in
set_option maxHeartbeats 1000000 in
theorem pf_StepC (l h : List Int) (hl : l.length ≤ 1000000) (hh : h.length ≤ 1000000) (hf : Fits' l) (hf2 : Fits' h) (hc : aCl l h = -1) : PF Try.prog 19 [.iv (iInts l), .iv (iInts h)] fun r H' => r = .tup [.iv (iInts l), lt (.bool true), lt (.int .i64 0)] ∧ H' = [] := by
  refine SF.frozen ?_
  have hV := pf_aClause l h hl hh hf hf2
  have hI := pf_CloneO l hl
  rw [hc] at hV
  have hs1 := trivial
  (refine SF_of_bodyX (aload tt) (aload_ok tyOK) Try.func19 rfl (by kernel_rfl) ?_; simp only [Try.ntmps19, List.length_cons, List.length_nil, Nat.reduceAdd, Nat.reduceSub, List.replicate_succ, List.replicate_zero, List.cons_append, List.nil_append])
  repeat (first | (first | (with_reducible first | refine AX_block ?_ | refine AX_skip ?_ | refine AX_exit ?_ | refine AX_ret ?_ | refine AX_ift ?_ | refine AX_iff ?_ | refine AX_seq_k (fun K hK => ?_) | refine ContX.use (by assumption) ?_) | simp only [thenX, inBlockX, if_true, if_false, reduceCtorEq]) | (first | ((first | (with_reducible refine XRes_op tyOK ?_ ?_) | ((with_reducible first | refine ADF_op tyOK ?_ ?_ ?_ | refine ADX_op tyOK ?_ ?_ ?_); (focus rfl)) | (with_reducible refine ADR_alloc1 tyOK ?_ ?_) | ((with_reducible refine ADR_free1 tyOK ?_ ?_ ?_); (focus rfl)) | ((with_reducible refine ADR_free0 tyOK ?_ ?_ ?_); (focus rfl)) | ((with_reducible refine ADR_read1 tyOK ?_ ?_ ?_); (focus rfl)) | (with_reducible refine ADR_chg1 tyOK ?_ ?_)); (focus (first | (with_reducible rfl) | ((simp (disch := omega) only [go_sem]); done))); simp (disch := omega) only [go_sem , nI_len, hs1, h8_len, Nat.reduceLeDiff, iFlat, iInts, iRows, List.getD_cons_zero, List.getD_cons_succ, Int.reduceToNat, Int.toNat_zero, Int.toNat_one, Nat.zero_mul, Nat.one_mul, Nat.zero_add, Nat.reduceMul, Nat.reduceAdd, Nat.reduceSub]; (first | (with_reducible refine XRes_id ?_) | (with_reducible refine ADF_id ?_) | (with_reducible refine ADR_id1 ?_) | (with_reducible refine ADX_id ?_))) | ((first | (with_reducible refine XRes_skip ?_ ?_) | (with_reducible refine ADF_skip (b := true) ?_ ?_) | (with_reducible refine ADX_skip ?_ ?_) | ((with_reducible refine ADR_skip1 ?_ ?_ ?_); (focus rfl))); (focus (first | rfl | ((simp (disch := omega) only [go_sem]); done))); (simp only [putL, List.set_cons_succ, List.set_cons_zero]))) | ((first | (with_reducible refine XRes_nil ?_) | (with_reducible refine ADF_nil ?_) | (with_reducible refine ADR_nil ?_) | (with_reducible refine ADX_nil ?_)); (first | refine hK _ ?_ | refine hK _ _ ?_); clear hK K) | (first | refine XTL (by rfl) hV ?_ | refine ATL tyOK (by rfl) hV ?_) | ((refine XRes_fn (by rfl) hI ?_); (rintro r H' ⟨rfl, rfl⟩); (simp only [putL, List.set_cons_succ, List.set_cons_zero])) | ((first | (with_reducible refine AX_reg0 fun K hK => ?_) | (refine AX_drawG1 tyOK (by kernel_rfl) (by rfl) (by kernel_rfl) fun K hK => ?_) | (refine AX_drawT tyOK (by kernel_rfl) (by decide +kernel) fun K hK => ?_) | (refine AX_drawM1 (by kernel_rfl) (by rfl) (by decide +kernel) fun K hK => ?_) | (refine AX_drawA tyOK (by kernel_rfl) (by decide +kernel) fun K hK => ?_)); (first | simp only [go_sem, preN, effOp, runF, alM, mapOp, alD2, kdOf2, Bool.not_false, Bool.not_true, reduceCtorEq] | simp only [go_sem, preN, effOp, runF, alM, mapOp, Bool.not_false, Bool.not_true, reduceCtorEq] | simp only [go_sem, preN, effOp, runF, alD2, kdOf2, Bool.not_false, Bool.not_true, reduceCtorEq] | simp only [go_sem, alD2, kdOf2, Bool.not_false, Bool.not_true, reduceCtorEq] | simp only [go_sem, preN, effOp, runF, Bool.not_false, Bool.not_true, reduceCtorEq] | simp only [go_sem])))
  (simp only [bodyX]; refine ⟨_, by simp only [aresults, aresult, XS.as, Try.results19, aload, go_sem, Option.bind_some]; rfl, ?_⟩)
  exact ⟨_, Snap.threeP (snap_ints rfl rfl) (.same _ (.iv _)) (.same _ (.iv _)), rfl, trivial⟩
theorem q8_P : PF Try.prog 19 [.iv (iInts [1]), .iv (iInts [-1])] fun r H' => r = .tup [.iv (iInts [1]), lt (.bool true), lt (.int .i64 0)] ∧ H' = [] :=
  pf_StepC [1] [-1] (by decide) (by decide) (by unfold Fits'; decide) (by unfold Fits'; decide) (by decide +kernel)
set_option maxRecDepth 100000 in
set_option maxHeartbeats 8000000 in
theorem pf_awake08 : PF Try.prog 12 [] fun r H' => r = lt (.bool true) ∧ H' = [] := by
  refine SF.forgetAll ?_
  have hs1 := trivial
  (refine SF_of_bodyX (aload tt) (aload_ok tyOK) Try.func12 rfl (by kernel_rfl) ?_; simp only [Try.ntmps12, List.length_cons, List.length_nil, Nat.reduceAdd, Nat.reduceSub, List.replicate_succ, List.replicate_zero, List.cons_append, List.nil_append])
  repeat (first | (first | (with_reducible first | refine AX_block ?_ | refine AX_skip ?_ | refine AX_exit ?_ | refine AX_ret ?_ | refine AX_ift ?_ | refine AX_iff ?_ | refine AX_seq_k (fun K hK => ?_) | refine ContX.use (by assumption) ?_) | simp only [thenX, inBlockX, if_true, if_false, reduceCtorEq]) | ((first | (refine XRes_litF tyOK (by rfl) rfl (by decide) rfl rfl ?_) | (refine ADF_litF tyOK (by rfl) rfl (by decide) rfl rfl ?_) | (refine XRes_litRw tyOK [[-2, 3], [-1, 2], [1]] (by rfl) rfl ?_) | (refine XRes_litRw tyOK [[4, 5]] (by rfl) rfl ?_) | (refine XRes_litRw tyOK [[1], [9, 8], [-1, 2], [-2, 3]] (by rfl) rfl ?_)); (simp only [List.map_cons, List.map_nil, intOf, putL, List.set_cons_succ, List.set_cons_zero])) | (first | (first | refine XTL (by rfl) pf_hints8 ?_ | refine ATL tyOK (by rfl) pf_hints8 ?_ | refine XTL (by rfl) q8_S1 ?_ | refine ATL tyOK (by rfl) q8_S1 ?_ | refine XTL (by rfl) (q8_S2 _ (fun j hj => by match j, hj with | 0, _ => rfl | 1, _ => rfl)) ?_ | refine ATL tyOK (by rfl) (q8_S2 _ (fun j hj => by match j, hj with | 0, _ => rfl | 1, _ => rfl)) ?_ | refine XTL (by rfl) q8_S3 ?_ | refine ATL tyOK (by rfl) q8_S3 ?_ | refine XTL (by rfl) q8_T1 ?_ | refine ATL tyOK (by rfl) q8_T1 ?_ | refine XTL (by rfl) q8_T2 ?_ | refine ATL tyOK (by rfl) q8_T2 ?_ | refine XTL (by rfl) q8_P ?_ | refine ATL tyOK (by rfl) q8_P ?_ | refine XTL (by rfl) q8_C ?_ | refine ATL tyOK (by rfl) q8_C ?_ | refine XTL (by rfl) (q8_SI [-3, 4] (by decide)) ?_ | refine ATL tyOK (by rfl) (q8_SI [-3, 4] (by decide)) ?_ | refine XTL (by rfl) (q8_SI [-3, -2, -1] (by decide)) ?_ | refine ATL tyOK (by rfl) (q8_SI [-3, -2, -1] (by decide)) ?_)) | (first | ((first | (with_reducible refine XRes_op tyOK ?_ ?_) | ((with_reducible first | refine ADF_op tyOK ?_ ?_ ?_ | refine ADX_op tyOK ?_ ?_ ?_); (focus rfl)) | (with_reducible refine ADR_alloc1 tyOK ?_ ?_) | ((with_reducible refine ADR_free1 tyOK ?_ ?_ ?_); (focus rfl)) | ((with_reducible refine ADR_free0 tyOK ?_ ?_ ?_); (focus rfl)) | ((with_reducible refine ADR_read1 tyOK ?_ ?_ ?_); (focus rfl)) | (with_reducible refine ADR_chg1 tyOK ?_ ?_)); (focus (first | (with_reducible rfl) | ((simp (disch := omega) only [go_sem]); done))); simp (disch := omega) only [go_sem , nI_len, hs1, h8_len, Nat.reduceLeDiff, iFlat, iInts, iRows, List.getD_cons_zero, List.getD_cons_succ, Int.reduceToNat, Int.toNat_zero, Int.toNat_one, Nat.zero_mul, Nat.one_mul, Nat.zero_add, Nat.reduceMul, Nat.reduceAdd, Nat.reduceSub]; (first | (with_reducible refine XRes_id ?_) | (with_reducible refine ADF_id ?_) | (with_reducible refine ADR_id1 ?_) | (with_reducible refine ADX_id ?_))) | ((first | (with_reducible refine XRes_skip ?_ ?_) | (with_reducible refine ADF_skip (b := true) ?_ ?_) | (with_reducible refine ADX_skip ?_ ?_) | ((with_reducible refine ADR_skip1 ?_ ?_ ?_); (focus rfl))); (focus (first | rfl | ((simp (disch := omega) only [go_sem]); done))); (simp only [putL, List.set_cons_succ, List.set_cons_zero]))) | ((first | (with_reducible refine XRes_nil ?_) | (with_reducible refine ADF_nil ?_) | (with_reducible refine ADR_nil ?_) | (with_reducible refine ADX_nil ?_)); (first | refine hK _ ?_ | refine hK _ _ ?_); clear hK K) | ((first | (with_reducible refine AX_reg0 fun K hK => ?_) | (refine AX_drawG1 tyOK (by kernel_rfl) (by rfl) (by kernel_rfl) fun K hK => ?_) | (refine AX_drawT tyOK (by kernel_rfl) (by decide +kernel) fun K hK => ?_) | (refine AX_drawM1 (by kernel_rfl) (by rfl) (by decide +kernel) fun K hK => ?_) | (refine AX_drawA tyOK (by kernel_rfl) (by decide +kernel) fun K hK => ?_)); (first | simp only [go_sem, preN, effOp, runF, alM, mapOp, alD2, kdOf2, Bool.not_false, Bool.not_true, reduceCtorEq] | simp only [go_sem, preN, effOp, runF, alM, mapOp, Bool.not_false, Bool.not_true, reduceCtorEq] | simp only [go_sem, preN, effOp, runF, alD2, kdOf2, Bool.not_false, Bool.not_true, reduceCtorEq] | simp only [go_sem, alD2, kdOf2, Bool.not_false, Bool.not_true, reduceCtorEq] | simp only [go_sem, preN, effOp, runF, Bool.not_false, Bool.not_true, reduceCtorEq] | simp only [go_sem])))
  refine XRes_fn (by rfl) q8_H ?_
  rintro r H' ⟨hs, hlen, rfl, rfl⟩
  have hs1 := hlen
  (simp only [putL, List.set_cons_succ, List.set_cons_zero])
  repeat (first | (first | (with_reducible first | refine AX_block ?_ | refine AX_skip ?_ | refine AX_exit ?_ | refine AX_ret ?_ | refine AX_ift ?_ | refine AX_iff ?_ | refine AX_seq_k (fun K hK => ?_) | refine ContX.use (by assumption) ?_) | simp only [thenX, inBlockX, if_true, if_false, reduceCtorEq]) | ((first | (refine XRes_litF tyOK (by rfl) rfl (by decide) rfl rfl ?_) | (refine ADF_litF tyOK (by rfl) rfl (by decide) rfl rfl ?_) | (refine XRes_litRw tyOK [[-2, 3], [-1, 2], [1]] (by rfl) rfl ?_) | (refine XRes_litRw tyOK [[4, 5]] (by rfl) rfl ?_) | (refine XRes_litRw tyOK [[1], [9, 8], [-1, 2], [-2, 3]] (by rfl) rfl ?_)); (simp only [List.map_cons, List.map_nil, intOf, putL, List.set_cons_succ, List.set_cons_zero])) | (first | (first | refine XTL (by rfl) pf_hints8 ?_ | refine ATL tyOK (by rfl) pf_hints8 ?_ | refine XTL (by rfl) q8_S1 ?_ | refine ATL tyOK (by rfl) q8_S1 ?_ | refine XTL (by rfl) (q8_S2 _ (fun j hj => by match j, hj with | 0, _ => rfl | 1, _ => rfl)) ?_ | refine ATL tyOK (by rfl) (q8_S2 _ (fun j hj => by match j, hj with | 0, _ => rfl | 1, _ => rfl)) ?_ | refine XTL (by rfl) q8_S3 ?_ | refine ATL tyOK (by rfl) q8_S3 ?_ | refine XTL (by rfl) q8_T1 ?_ | refine ATL tyOK (by rfl) q8_T1 ?_ | refine XTL (by rfl) q8_T2 ?_ | refine ATL tyOK (by rfl) q8_T2 ?_ | refine XTL (by rfl) q8_P ?_ | refine ATL tyOK (by rfl) q8_P ?_ | refine XTL (by rfl) q8_C ?_ | refine ATL tyOK (by rfl) q8_C ?_ | refine XTL (by rfl) (q8_SI [-3, 4] (by decide)) ?_ | refine ATL tyOK (by rfl) (q8_SI [-3, 4] (by decide)) ?_ | refine XTL (by rfl) (q8_SI [-3, -2, -1] (by decide)) ?_ | refine ATL tyOK (by rfl) (q8_SI [-3, -2, -1] (by decide)) ?_)) | (first | ((first | (with_reducible refine XRes_op tyOK ?_ ?_) | ((with_reducible first | refine ADF_op tyOK ?_ ?_ ?_ | refine ADX_op tyOK ?_ ?_ ?_); (focus rfl)) | (with_reducible refine ADR_alloc1 tyOK ?_ ?_) | ((with_reducible refine ADR_free1 tyOK ?_ ?_ ?_); (focus rfl)) | ((with_reducible refine ADR_free0 tyOK ?_ ?_ ?_); (focus rfl)) | ((with_reducible refine ADR_read1 tyOK ?_ ?_ ?_); (focus rfl)) | (with_reducible refine ADR_chg1 tyOK ?_ ?_)); (focus (first | (with_reducible rfl) | ((simp (disch := omega) only [go_sem]); done))); simp (disch := omega) only [go_sem , nI_len, hs1, h8_len, Nat.reduceLeDiff, iFlat, iInts, iRows, List.getD_cons_zero, List.getD_cons_succ, Int.reduceToNat, Int.toNat_zero, Int.toNat_one, Nat.zero_mul, Nat.one_mul, Nat.zero_add, Nat.reduceMul, Nat.reduceAdd, Nat.reduceSub]; (first | (with_reducible refine XRes_id ?_) | (with_reducible refine ADF_id ?_) | (with_reducible refine ADR_id1 ?_) | (with_reducible refine ADX_id ?_))) | ((first | (with_reducible refine XRes_skip ?_ ?_) | (with_reducible refine ADF_skip (b := true) ?_ ?_) | (with_reducible refine ADX_skip ?_ ?_) | ((with_reducible refine ADR_skip1 ?_ ?_ ?_); (focus rfl))); (focus (first | rfl | ((simp (disch := omega) only [go_sem]); done))); (simp only [putL, List.set_cons_succ, List.set_cons_zero]))) | ((first | (with_reducible refine XRes_nil ?_) | (with_reducible refine ADF_nil ?_) | (with_reducible refine ADR_nil ?_) | (with_reducible refine ADX_nil ?_)); (first | refine hK _ ?_ | refine hK _ _ ?_); clear hK K) | ((first | (with_reducible refine AX_reg0 fun K hK => ?_) | (refine AX_drawG1 tyOK (by kernel_rfl) (by rfl) (by kernel_rfl) fun K hK => ?_) | (refine AX_drawT tyOK (by kernel_rfl) (by decide +kernel) fun K hK => ?_) | (refine AX_drawM1 (by kernel_rfl) (by rfl) (by decide +kernel) fun K hK => ?_) | (refine AX_drawA tyOK (by kernel_rfl) (by decide +kernel) fun K hK => ?_)); (first | simp only [go_sem, preN, effOp, runF, alM, mapOp, alD2, kdOf2, Bool.not_false, Bool.not_true, reduceCtorEq] | simp only [go_sem, preN, effOp, runF, alM, mapOp, Bool.not_false, Bool.not_true, reduceCtorEq] | simp only [go_sem, preN, effOp, runF, alD2, kdOf2, Bool.not_false, Bool.not_true, reduceCtorEq] | simp only [go_sem, alD2, kdOf2, Bool.not_false, Bool.not_true, reduceCtorEq] | simp only [go_sem, preN, effOp, runF, Bool.not_false, Bool.not_true, reduceCtorEq] | simp only [go_sem])))
  (simp only [bodyX]; refine ⟨_, by simp only [aresults, aresult, XS.as, Try.results12, aload, go_sem, Option.bind_some]; rfl, ?_⟩)
  exact ⟨.iv _, rfl, trivial⟩
end Go.Proofs.Ytcanlckenjndbaa
namespace Go.Proofs.Ytcanlckenjndbaa
open Go.RowKit
set_option linter.unusedVariables false
set_option linter.unusedSimpArgs false
def fw04 (xss : List (List Int)) : Bool := decide (xss.length ≤ 200) && xss.all fun c => decide (c.length ≤ 50)
theorem fw04_iff (xss : List (List Int)) : fw04 xss = true ↔ xss.length ≤ 200 ∧ ∀ c ∈ xss, c.length ≤ 50 := by
  unfold fw04; rw [Bool.and_eq_true, decide_eq_true_iff, List.all_eq_true]
  simp only [decide_eq_true_iff]
theorem We5e8a {A B : Prop} (h9 : B) (w : B → A := by (intro h9; (repeat intro K hK); refine ⟨?_⟩; (repeat (first | (first | (with_reducible first | refine AX_block ?_ | refine AX_skip ?_ | refine AX_exit ?_ | refine AX_ret ?_ | refine AX_ift ?_ | refine AX_iff ?_ | refine AX_seq_k (fun K hK => ?_) | refine ContX.use (by assumption) ?_) | simp only [thenX, inBlockX, if_true, if_false, reduceCtorEq]) | (first | ((first | (with_reducible refine XRes_op tyOK ?_ ?_) | ((with_reducible first | refine ADF_op tyOK ?_ ?_ ?_ | refine ADX_op tyOK ?_ ?_ ?_); (focus rfl)) | (with_reducible refine ADR_alloc1 tyOK ?_ ?_) | ((with_reducible refine ADR_free1 tyOK ?_ ?_ ?_); (focus rfl)) | ((with_reducible refine ADR_free0 tyOK ?_ ?_ ?_); (focus rfl)) | ((with_reducible refine ADR_read1 tyOK ?_ ?_ ?_); (focus rfl)) | (with_reducible refine ADR_chg1 tyOK ?_ ?_)); (focus (first | (with_reducible rfl) | ((simp (disch := omega) only [go_sem]); done))); simp (disch := omega) only [go_sem , hs1, hs2, hs3, hs4, Int.toNat_zero, Int.toNat_one, List.length_nil]; (first | (with_reducible refine XRes_id ?_) | (with_reducible refine ADF_id ?_) | (with_reducible refine ADR_id1 ?_) | (with_reducible refine ADX_id ?_))) | ((first | (with_reducible refine XRes_skip ?_ ?_) | (with_reducible refine ADF_skip (b := true) ?_ ?_) | (with_reducible refine ADX_skip ?_ ?_) | ((with_reducible refine ADR_skip1 ?_ ?_ ?_); (focus rfl))); (focus (first | rfl | ((simp (disch := omega) only [go_sem]); done))); (simp only [putL, List.set_cons_succ, List.set_cons_zero]))) | ((first | (with_reducible refine XRes_nil ?_) | (with_reducible refine ADF_nil ?_) | (with_reducible refine ADR_nil ?_) | (with_reducible refine ADX_nil ?_)); (first | refine hK _ ?_ | refine hK _ _ ?_); clear hK K) | ((first | (with_reducible refine AX_reg0 fun K hK => ?_) | (refine AX_drawG1 tyOK (by kernel_rfl) (by rfl) (by kernel_rfl) fun K hK => ?_) | (refine AX_drawT tyOK (by kernel_rfl) (by decide +kernel) fun K hK => ?_) | (refine AX_drawM1 (by kernel_rfl) (by rfl) (by decide +kernel) fun K hK => ?_) | (refine AX_drawA tyOK (by kernel_rfl) (by decide +kernel) fun K hK => ?_)); (first | simp only [go_sem, preN, effOp, runF, alM, mapOp, alD2, kdOf2, Bool.not_false, Bool.not_true, reduceCtorEq] | simp only [go_sem, preN, effOp, runF, alM, mapOp, Bool.not_false, Bool.not_true, reduceCtorEq] | simp only [go_sem, preN, effOp, runF, alD2, kdOf2, Bool.not_false, Bool.not_true, reduceCtorEq] | simp only [go_sem, alD2, kdOf2, Bool.not_false, Bool.not_true, reduceCtorEq] | simp only [go_sem, preN, effOp, runF, Bool.not_false, Bool.not_true, reduceCtorEq] | simp only [go_sem])) | (first | (first | refine XTL (by rfl) hV ?_ | refine ATL tyOK (by rfl) hV ?_ | refine XTL (by rfl) hI ?_ | refine ATL tyOK (by rfl) hI ?_)))); refine Wk.o ?_; (repeat revert hK K); exact h9)) : A := w h9
set_option maxRecDepth 100000 in
set_option maxHeartbeats 2000000 in
theorem pf_few04 (x : Int) (h : List (List Int)) (hl : h.length ≤ 9223372036854775807) : PF Try.prog 53 [.agg [lt (.int .i64 x), .iv (.sl (fun j => iInts (h.getD j [])) h.length 1)]] fun r H' => r = lt (.bool (fw04 h)) ∧ H' = [] := by
  refine SF.forgetAll ?_
  have hs1 := trivial; have hs2 := trivial; have hs3 := trivial; have hs4 := trivial; have hV := trivial; have hI := trivial
  by_cases h1 : h.length ≤ 200
  · (refine SF_of_bodyX (aload tt) (aload_ok tyOK) Try.func53 rfl (by kernel_rfl) ?_; simp only [Try.ntmps53, List.length_cons, List.length_nil, Nat.reduceAdd, Nat.reduceSub, List.replicate_succ, List.replicate_zero, List.cons_append, List.nil_append])
    (refine Wk.o ?_; (repeat revert hK K); refine We5e8a ?_; (repeat intro K hK); refine ⟨?_⟩)
    (refine AWH (σ := Nat) [8, 9, 10, 11, 12, 15, 16, 17, 18, 19, 20, 21, 2, 13, 14] (fun k => [(3, lint k)]) (fun k => [some ⟨48, [lt (.int .i64 x), .iv (.sl (fun j => iInts (h.getD j [])) h.length 1)]⟩]) (fun k => []) (fun k => k ≤ h.length ∧ ∀ j, j < k → (h.getD j []).length ≤ 50) (fun k => h.length - k) 0 (by first | exact ⟨Nat.zero_le _, fun j hj => absurd hj (by omega)⟩) ?_; rintro k d fr hfr ⟨hk, hj⟩; simp only [updS, deadS, List.set_cons_succ, List.set_cons_zero, lint] at hfr; subst hfr; (try dsimp only))
    by_cases hlt : k < h.length
    · have hs1 : iInts (h.getD k []) = .sl (fun j => .lit (.int .i64 ((h.getD k []).getD j 0))) (h.getD k []).length 1 := rfl
      by_cases h2 : (h.getD k []).length ≤ 50
      · (refine Wk.o ?_; (repeat revert hK K); refine We5e8a ?_; (repeat intro K hK); refine ⟨?_⟩)
        exact whx_end (k + 1) ⟨by omega, fun j h1 => by
          rcases Nat.lt_or_ge j k with h3 | h3
          · exact hj j h3
          · rw [show j = k by omega]; exact h2⟩ (by (first | omega | (dsimp only; omega) | (simp only; omega))) rfl (by first | rfl | (simp (disch := omega) only [go_sem, lint])) (fun d => by first | ((simp only [deadS, updS, List.set_cons_succ, List.set_cons_zero, lint, List.length_nil, List.length_cons]); done) | ((simp only [deadS, updS, List.set_cons_succ, List.set_cons_zero, lint, List.length_nil, List.length_cons]); rfl) | rfl)
      · (refine Wk.o ?_; (repeat revert hK K); refine We5e8a ?_; (repeat intro K hK); refine ⟨?_⟩)
        (simp only [bodyX]; refine ⟨_, by simp only [aresults, aresult, XS.as, Try.results53, aload, go_sem, Option.bind_some]; rfl, ?_⟩)
        exact ⟨.iv _, by
          have : fw04 h = false := by
            cases e : fw04 h
            · rfl
            · rw [fw04_iff] at e
              exact absurd (e.2 (h.getD k []) (by simp [List.getD, hlt])) h2
          rw [this], trivial⟩
    · obtain rfl : k = h.length := by omega
      (refine Wk.o ?_; (repeat revert hK K); refine We5e8a ?_; (repeat intro K hK); refine ⟨?_⟩)
      (simp only [bodyX]; refine ⟨_, by simp only [aresults, aresult, XS.as, Try.results53, aload, go_sem, Option.bind_some]; rfl, ?_⟩)
      exact ⟨.iv _, by
        have : fw04 h = true := (fw04_iff h).2 ⟨h1, fun c hc => by
          obtain ⟨j, hj2, rfl⟩ := List.mem_iff_getElem.1 hc
          have := hj j hj2
          rwa [show h.getD j [] = h[j] by simp [List.getD, hj2]] at this⟩
        rw [this], trivial⟩
  · (refine SF_of_bodyX (aload tt) (aload_ok tyOK) Try.func53 rfl (by kernel_rfl) ?_; simp only [Try.ntmps53, List.length_cons, List.length_nil, Nat.reduceAdd, Nat.reduceSub, List.replicate_succ, List.replicate_zero, List.cons_append, List.nil_append])
    (refine Wk.o ?_; (repeat revert hK K); refine We5e8a ?_; (repeat intro K hK); refine ⟨?_⟩)
    (simp only [bodyX]; refine ⟨_, by simp only [aresults, aresult, XS.as, Try.results53, aload, go_sem, Option.bind_some]; rfl, ?_⟩)
    exact ⟨.iv _, by
      have : fw04 h = false := by
        cases e : fw04 h
        · rfl
        · exact absurd ((fw04_iff h).1 e).1 h1
      rw [this], trivial⟩
def fw08 (cs : List (List Int)) (l : List Int) : Bool := fw04 cs && decide (cs.length ≤ 60) && decide (l.length ≤ 60)
set_option maxRecDepth 100000 in
set_option maxHeartbeats 2000000 in
theorem pf_few08 (h : List (List Int)) (l : List Int) (hl : h.length ≤ 9223372036854775807) (hl2 : l.length ≤ 9223372036854775807) : PF Try.prog 11 [.iv (iRows h), .iv (iInts l)] fun r H' => r = lt (.bool (fw08 h l)) ∧ H' = [] := by
  refine SF.forgetAll ?_
  have hs1 := trivial; have hs2 := trivial; have hs3 := trivial; have hs4 := trivial; have hV := trivial; have hI := trivial
  have hV := pf_few04 0 h hl
  unfold fw08
  generalize fw04 h = b at *
  cases b
  · (refine SF_of_bodyX (aload tt) (aload_ok tyOK) Try.func11 rfl (by kernel_rfl) ?_; simp only [Try.ntmps11, List.length_cons, List.length_nil, Nat.reduceAdd, Nat.reduceSub, List.replicate_succ, List.replicate_zero, List.cons_append, List.nil_append])
    unfold iRows iInts
    (refine Wk.o ?_; (repeat revert hK K); refine We5e8a ?_; (repeat intro K hK); refine ⟨?_⟩)
    (simp only [bodyX]; refine ⟨_, by simp only [aresults, aresult, XS.as, Try.results11, aload, go_sem, Option.bind_some]; rfl, ?_⟩)
    exact ⟨.iv _, rfl, trivial⟩
  · by_cases h1 : h.length ≤ 60
    · by_cases h2 : l.length ≤ 60
      · (refine SF_of_bodyX (aload tt) (aload_ok tyOK) Try.func11 rfl (by kernel_rfl) ?_; simp only [Try.ntmps11, List.length_cons, List.length_nil, Nat.reduceAdd, Nat.reduceSub, List.replicate_succ, List.replicate_zero, List.cons_append, List.nil_append])
        unfold iRows iInts
        (refine Wk.o ?_; (repeat revert hK K); refine We5e8a ?_; (repeat intro K hK); refine ⟨?_⟩)
        (simp only [bodyX]; refine ⟨_, by simp only [aresults, aresult, XS.as, Try.results11, aload, go_sem, Option.bind_some]; rfl, ?_⟩)
        exact ⟨.iv _, by rw [decide_eq_true h1, decide_eq_true h2]; rfl, trivial⟩
      · (refine SF_of_bodyX (aload tt) (aload_ok tyOK) Try.func11 rfl (by kernel_rfl) ?_; simp only [Try.ntmps11, List.length_cons, List.length_nil, Nat.reduceAdd, Nat.reduceSub, List.replicate_succ, List.replicate_zero, List.cons_append, List.nil_append])
        unfold iRows iInts
        (refine Wk.o ?_; (repeat revert hK K); refine We5e8a ?_; (repeat intro K hK); refine ⟨?_⟩)
        (simp only [bodyX]; refine ⟨_, by simp only [aresults, aresult, XS.as, Try.results11, aload, go_sem, Option.bind_some]; rfl, ?_⟩)
        exact ⟨.iv _, by rw [decide_eq_true h1, decide_eq_false h2]; rfl, trivial⟩
    · (refine SF_of_bodyX (aload tt) (aload_ok tyOK) Try.func11 rfl (by kernel_rfl) ?_; simp only [Try.ntmps11, List.length_cons, List.length_nil, Nat.reduceAdd, Nat.reduceSub, List.replicate_succ, List.replicate_zero, List.cons_append, List.nil_append])
      unfold iRows iInts
      (refine Wk.o ?_; (repeat revert hK K); refine We5e8a ?_; (repeat intro K hK); refine ⟨?_⟩)
      (simp only [bodyX]; refine ⟨_, by simp only [aresults, aresult, XS.as, Try.results11, aload, go_sem, Option.bind_some]; rfl, ?_⟩)
      exact ⟨.iv _, by rw [decide_eq_false h1]; rfl, trivial⟩
theorem fw08_iff {cs : List (List Int)} {l : List Int} (h : fw08 cs l = true) : cs.length ≤ 60 ∧ l.length ≤ 60 ∧ ∀ c ∈ cs, c.length ≤ 50 := by
  unfold fw08 at h
  simp only [Bool.and_eq_true, decide_eq_true_iff] at h
  exact ⟨h.1.2, h.2, ((fw04_iff cs).1 h.1.1).2⟩
end Go.Proofs.Ytcanlckenjndbaa
