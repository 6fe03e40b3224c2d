import Derived.Test.YtcanlckenjndbaaMgBE
import Derived.Test.YtcanlckenjndbaaMgBA
import Derived.Test.YtcanlckenjndbaaMgAX
namespace Go.Proofs.Ytcanlckenjndbaa
open Go.RowKit
set_option linter.unusedVariables false
set_option linter.unusedSimpArgs false
theorem ra_take {n : Nat} {G : Gh} {c : List Int} {k : Nat} (hk : k ≤ c.length) {v : Value} (h : RA n G (.iv (.sl (fun j => .lit (.int .i64 (c.getD j 0))) k 1)) v) : RA n G (.iv (iInts (c.take k))) v := by
  have hl : (c.take k).length = k := by rw [List.length_take]; omega
  unfold iInts
  rw [hl]
  refine RA.congr h fun j hj => ?_
  have hj2 : j < k := by omega
  simp only [List.getD_eq_getElem?_getD, List.getElem?_take_of_lt hj2]
theorem pf_hasT (c : List Int) (k : Nat) (v : Int) (hk : k ≤ c.length) (hc : c.length ≤ 1000000) : PF Try.prog 37 [.iv (.sl (fun j => .lit (.int .i64 (c.getD j 0))) k 1), lt (.int .i64 v)] fun r H' => r = lt (.bool (lhas (c.take k) v)) ∧ H' = [] := by
  have h := pf_has (c.take k) v (by rw [List.length_take]; omega)
  have e : decide (v ∈ c.take k) = lhas (c.take k) v := by rw [Bool.eq_iff_iff, decide_eq_true_iff, lhas_mem]
  rw [e] at h
  exact SF.args h fun G vs h => by
    obtain ⟨u, us, rfl, h1, h2⟩ := h.uncons
    exact RL.cons (ra_take hk h1) h2
theorem W4050a {A B : Prop} (h9 : B) (w : B → A := by (intro h9; (repeat intro K hK); refine ⟨?_⟩; (repeat (first | (first | (with_reducible first | refine AX_block ?_ | refine AX_skip ?_ | refine AX_exit ?_ | refine AX_ret ?_ | refine AX_ift ?_ | refine AX_iff ?_ | refine AX_seq_k (fun K hK => ?_) | refine ContX.use (by assumption) ?_) | simp only [thenX, inBlockX, if_true, if_false, reduceCtorEq]) | (first | ((first | (with_reducible refine XRes_op tyOK ?_ ?_) | ((with_reducible first | refine ADF_op tyOK ?_ ?_ ?_ | refine ADX_op tyOK ?_ ?_ ?_); (focus rfl)) | (with_reducible refine ADR_alloc1 tyOK ?_ ?_) | ((with_reducible refine ADR_free1 tyOK ?_ ?_ ?_); (focus rfl)) | ((with_reducible refine ADR_free0 tyOK ?_ ?_ ?_); (focus rfl)) | ((with_reducible refine ADR_read1 tyOK ?_ ?_ ?_); (focus rfl)) | (with_reducible refine ADR_chg1 tyOK ?_ ?_)); (focus (first | (with_reducible rfl) | ((simp (disch := omega) only [go_sem]); done))); simp (disch := omega) only [go_sem , hs1, hs2, hs3, hs4, hs5, hs6, hs7, hs8, Int.toNat_zero, Int.toNat_one, List.length_nil, List.length_set, Nat.reduceLeDiff]; (first | (with_reducible refine XRes_id ?_) | (with_reducible refine ADF_id ?_) | (with_reducible refine ADR_id1 ?_) | (with_reducible refine ADX_id ?_))) | ((first | (with_reducible refine XRes_skip ?_ ?_) | (with_reducible refine ADF_skip (b := true) ?_ ?_) | (with_reducible refine ADX_skip ?_ ?_) | ((with_reducible refine ADR_skip1 ?_ ?_ ?_); (focus rfl))); (focus (first | rfl | ((simp (disch := omega) only [go_sem]); done))); (simp only [putL, List.set_cons_succ, List.set_cons_zero]))) | ((first | (with_reducible refine XRes_nil ?_) | (with_reducible refine ADF_nil ?_) | (with_reducible refine ADR_nil ?_) | (with_reducible refine ADX_nil ?_)); (first | refine hK _ ?_ | refine hK _ _ ?_); clear hK K) | ((first | (with_reducible refine AX_reg0 fun K hK => ?_) | (refine AX_drawG1 tyOK (by kernel_rfl) (by rfl) (by kernel_rfl) fun K hK => ?_) | (refine AX_drawT tyOK (by kernel_rfl) (by decide +kernel) fun K hK => ?_) | (refine AX_drawM1 (by kernel_rfl) (by rfl) (by decide +kernel) fun K hK => ?_) | (refine AX_drawA tyOK (by kernel_rfl) (by decide +kernel) fun K hK => ?_)); (first | simp only [go_sem, preN, effOp, runF, alM, mapOp, alD2, kdOf2, Bool.not_false, Bool.not_true, reduceCtorEq] | simp only [go_sem, preN, effOp, runF, alM, mapOp, Bool.not_false, Bool.not_true, reduceCtorEq] | simp only [go_sem, preN, effOp, runF, alD2, kdOf2, Bool.not_false, Bool.not_true, reduceCtorEq] | simp only [go_sem, alD2, kdOf2, Bool.not_false, Bool.not_true, reduceCtorEq] | simp only [go_sem, preN, effOp, runF, Bool.not_false, Bool.not_true, reduceCtorEq] | simp only [go_sem])) | (first | (first | refine XTL (by rfl) hV ?_ | refine ATL tyOK (by rfl) hV ?_ | refine XTL (by rfl) hI ?_ | refine ATL tyOK (by rfl) hI ?_ | refine XTL (by rfl) hJ ?_ | refine ATL tyOK (by rfl) hJ ?_) | ((refine XRes_fn (by rfl) hC ?_); (rintro r H' ⟨rfl, rfl⟩); (simp only [putL, List.set_cons_succ, List.set_cons_zero]))))); refine Wk.o ?_; (repeat revert hK K); exact h9)) : A := w h9
set_option maxRecDepth 100000 in
set_option maxHeartbeats 4000000 in
theorem pf_r08Start (c : List Int) (hc : c.length ≤ 100000) : PF Try.prog 14 [.iv (iInts c)] fun r H' => r = .tup [.iv (iInts (stR c)), lt (.int .i64 (stE c))] ∧ H' = [] := by
  refine SF.frozen ?_
  have hs1 := trivial; have hs2 := trivial; have hs3 := trivial; have hs4 := trivial; have hs5 := trivial; have hs6 := trivial; have hs7 := trivial; have hs8 := trivial
  have hC := trivial; have hV := trivial; have hI := trivial; have hJ := trivial
  have hI := pf_r02Taut c (by omega)
  (refine SF_of_bodyX (aload tt) (aload_ok tyOK) Try.func14 rfl (by kernel_rfl) ?_; simp only [Try.ntmps14, List.length_cons, List.length_nil, Nat.reduceAdd, Nat.reduceSub, List.replicate_succ, List.replicate_zero, List.cons_append, List.nil_append])
  unfold iInts
  (refine Wk.o ?_; (repeat revert hK K); refine W4050a ?_; (repeat intro K hK); refine ⟨?_⟩)
  (refine AWH (σ := Nat) [7, 8, 9, 10, 13, 14, 15, 16, 17, 18, 2, 3, 11, 12] (fun k => [(4, lint k)]) (fun k => []) (fun k => []) (fun k => k ≤ c.length ∧ ∀ j, j < k → lvar (c.getD j 0) ≠ 0) (fun k => c.length - k) 0 (by first | exact ⟨Nat.zero_le _, fun j h => absurd h (by omega)⟩) ?_; rintro k d fr hfr ⟨hk, hj⟩; simp only [updS, deadS, List.set_cons_succ, List.set_cons_zero, lint] at hfr; subst hfr; (try dsimp only))
  by_cases hlt : k < c.length
  · have hV := pf_r01Index (c.getD k 0)
    have hix : lindex (c.getD k 0) < 0 ↔ lvar (c.getD k 0) = 0 := by
      constructor
      · intro h
        by_cases e : lvar (c.getD k 0) = 0
        · exact e
        · obtain ⟨n, hn, _⟩ := lindex_nat e; omega
      · intro h; unfold lindex; rw [if_pos h]; decide
    have hix2 := lindex_bd (c.getD k 0)
    have hany : lvar (c.getD k 0) = 0 → stAny c = true := fun h => any_at (p := fun x => decide (lvar x = 0)) hlt (decide_eq_true h)
    by_cases h0 : lvar (c.getD k 0) = 0
    · have hlt0 := hix.2 h0
      have e2 : stE c = 10 := by unfold stE; rw [hany h0, if_pos rfl]
      generalize lindex (c.getD k 0) = y at *
      (refine Wk.o ?_; (repeat revert hK K); refine W4050a ?_; (repeat intro K hK); refine ⟨?_⟩)
      (simp only [bodyX]; refine ⟨_, by simp only [aresults, aresult, XS.as, Try.results14, aload, go_sem, Option.bind_some]; rfl, ?_⟩)
      exact ⟨_, Snap.twoP snap_nil (.same _ (.iv _)), by unfold stR; rw [e2, if_neg (by decide)]; rfl, trivial⟩
    · have hlt0 : ¬ lindex (c.getD k 0) < 0 := fun h => h0 (hix.1 h)
      generalize lindex (c.getD k 0) = y at *
      (refine Wk.o ?_; (repeat revert hK K); refine W4050a ?_; (repeat intro K hK); refine ⟨?_⟩)
      exact whx_ren [] (k + 1) ⟨by omega, fun j h => by
        rcases Nat.lt_or_ge j k with h1 | h1
        · exact hj j h1
        · rw [show j = k by omega]; exact h0⟩ (by (first | omega | (dsimp only; omega) | (simp only; omega))) rfl (by decide) (by decide) (by (simp (disch := omega) only [go_sem, lint])) (by (simp (disch := omega) only [go_sem, lint])) (by (simp (disch := omega) only [go_sem, lint])) (fun d => by (simp (disch := omega) only [go_sem, lint]))
  · obtain rfl : k = c.length := by omega
    have e1 : stAny c = false := any_none fun j h => decide_eq_false (hj j h)
    cases e2 : cTaut c with
    | true =>
      rw [e2] at hI
      have e3 : stE c = 11 := by unfold stE; rw [e1, e2, if_neg (by decide), if_pos rfl]
      (refine Wk.o ?_; (repeat revert hK K); refine W4050a ?_; (repeat intro K hK); refine ⟨?_⟩)
      (simp only [bodyX]; refine ⟨_, by simp only [aresults, aresult, XS.as, Try.results14, aload, go_sem, Option.bind_some]; rfl, ?_⟩)
      exact ⟨_, Snap.twoP snap_nil (.same _ (.iv _)), by unfold stR; rw [e3, if_neg (by decide)]; rfl, trivial⟩
    | false =>
      rw [e2] at hI
      have e3 : stE c = 0 := by unfold stE; rw [e1, e2, if_neg (by decide), if_neg (by decide)]
      (refine Wk.o ?_; (repeat revert hK K); refine W4050a ?_; (repeat intro K hK); refine ⟨?_⟩)
      refine AX_nil 5 3 1 rfl ?_
      simp only [List.set_cons_succ, List.set_cons_zero, List.length_cons, List.length_nil, List.cons_append, List.nil_append, Nat.zero_add, Nat.reduceAdd]
      refine AX_wh (σ := Nat) [21, 22, 23, 24, 27, 28, 29, 30, 31, 32, 33, 34, 35, 36, 37, 38, 39, 40, 41, 42, 43, 25, 26] (fun k => [(6, lint k), (5, .osl 0 0 (stOut c k).length 1)]) (fun k => [some ⟨3, (stOut c k).map lint⟩]) (fun _ => []) (fun k => k ≤ c.length) (fun k => c.length - k) 0 (fun d => by first | ((simp (disch := omega) only [go_sem, lint , hs1, hs2, hs3, hs4, hs5, hs6, hs7, hs8, Int.toNat_zero, Int.toNat_one, List.length_nil, List.length_set, Nat.reduceLeDiff]); done) | ((simp (disch := omega) only [go_sem, lint , hs1, hs2, hs3, hs4, hs5, hs6, hs7, hs8, Int.toNat_zero, Int.toNat_one, List.length_nil, List.length_set, Nat.reduceLeDiff]); rfl)) rfl rfl (Nat.zero_le _) ?_
      rintro k d2 fr hfr hk
      simp only [updS, deadS, List.set_cons_succ, List.set_cons_zero, lint] at hfr
      subst hfr
      (try dsimp only)
      have hSl := stOut_len c k
      by_cases hlt : k < c.length
      · have hV := pf_hasT c k (c.getD k 0) hk (by omega)
        have hO1 : stOut c (k + 1) = stOut c k ++ if lhas (c.take k) (c.getD k 0) = true then [] else [-(c.getD k 0)] := rfl
        have hrng := lvar_range (hj k hlt)
        cases hh : lhas (c.take k) (c.getD k 0) with
        | true =>
          rw [hh] at hV
          rw [hh, if_pos rfl, List.append_nil] at hO1
          generalize stOut c k = S at *
          have hs3 := hO1
          (refine Wk.o ?_; (repeat revert hK K); refine W4050a ?_; (repeat intro K hK); refine ⟨?_⟩)
          exact whx_end (k + 1) (show k + 1 ≤ c.length by omega) (by (first | omega | (dsimp only; omega) | (simp only; omega))) rfl (by (simp (disch := omega) only [go_sem, lint , hs1, hs2, hs3, hs4, hs5, hs6, hs7, hs8, Int.toNat_zero, Int.toNat_one, List.length_nil, List.length_set, Nat.reduceLeDiff])) (fun d => by (simp (disch := omega) only [go_sem, lint , hs1, hs2, hs3, hs4, hs5, hs6, hs7, hs8, Int.toNat_zero, Int.toNat_one, List.length_nil, List.length_set, Nat.reduceLeDiff]))
        | false =>
          rw [hh] at hV
          rw [hh, if_neg (by decide)] at hO1
          generalize stOut c k = S at *
          have hs3 := hO1
          (refine Wk.o ?_; (repeat revert hK K); refine W4050a ?_; (repeat intro K hK); refine ⟨?_⟩)
          exact whx_ren [2] (k + 1) (show k + 1 ≤ c.length by omega) (by (first | omega | (dsimp only; omega) | (simp only; omega))) rfl (by decide) (by decide) (by (simp (disch := omega) only [go_sem, lint , hs1, hs2, hs3, hs4, hs5, hs6, hs7, hs8, Int.toNat_zero, Int.toNat_one, List.length_nil, List.length_set, Nat.reduceLeDiff])) (by (simp (disch := omega) only [go_sem, lint , hs1, hs2, hs3, hs4, hs5, hs6, hs7, hs8, Int.toNat_zero, Int.toNat_one, List.length_nil, List.length_set, Nat.reduceLeDiff])) (by (simp (disch := omega) only [go_sem, lint , hs1, hs2, hs3, hs4, hs5, hs6, hs7, hs8, Int.toNat_zero, Int.toNat_one, List.length_nil, List.length_set, Nat.reduceLeDiff])) (fun d => by (simp (disch := omega) only [go_sem, lint , hs1, hs2, hs3, hs4, hs5, hs6, hs7, hs8, Int.toNat_zero, Int.toNat_one, List.length_nil, List.length_set, Nat.reduceLeDiff]))
      · obtain rfl : k = c.length := by omega
        (refine Wk.o ?_; (repeat revert hK K); refine W4050a ?_; (repeat intro K hK); refine ⟨?_⟩)
        (simp only [bodyX]; refine ⟨_, by simp only [aresults, aresult, XS.as, Try.results14, aload, go_sem, Option.bind_some]; rfl, ?_⟩)
        exact ⟨_, Snap.twoP (snap_ints rfl rfl) (.same _ (.iv _)), by unfold stR; rw [e3, if_pos rfl]; rfl, trivial⟩
end Go.Proofs.Ytcanlckenjndbaa
namespace Go.Proofs.Ytcanlckenjndbaa
open Go.RowKit
set_option linter.unusedVariables false
set_option linter.unusedSimpArgs false
def stpL (l h : List Int) : List Int := if aCl l h = -1 then l else if aUnitOk l h = true then l ++ [aUnit l h] else []
def stpE (l h : List Int) : Int := if aCl l h = -1 then 0 else if aUnitOk l h = true then 0 else 22
theorem lint_range (xs : List Int) : (List.range xs.length).map (fun j => AV.iv (IV.lit (Value.int .i64 (xs.getD j 0)))) = xs.map lint := by
  apply List.ext_getElem
  · simp
  · intro i h1 h2
    have hi : i < xs.length := by simpa using h1
    simp [List.getD, hi, lint]
theorem W072fa {A B : Prop} (h9 : B) (w : B → A := by (intro h9; (repeat intro K hK); refine ⟨?_⟩; (repeat (first | (first | (with_reducible first | refine AX_block ?_ | refine AX_skip ?_ | refine AX_exit ?_ | refine AX_ret ?_ | refine AX_ift ?_ | refine AX_iff ?_ | refine AX_seq_k (fun K hK => ?_) | refine ContX.use (by assumption) ?_) | simp only [thenX, inBlockX, if_true, if_false, reduceCtorEq]) | (first | ((first | (with_reducible refine XRes_op tyOK ?_ ?_) | ((with_reducible first | refine ADF_op tyOK ?_ ?_ ?_ | refine ADX_op tyOK ?_ ?_ ?_); (focus rfl)) | (with_reducible refine ADR_alloc1 tyOK ?_ ?_) | ((with_reducible refine ADR_free1 tyOK ?_ ?_ ?_); (focus rfl)) | ((with_reducible refine ADR_free0 tyOK ?_ ?_ ?_); (focus rfl)) | ((with_reducible refine ADR_read1 tyOK ?_ ?_ ?_); (focus rfl)) | (with_reducible refine ADR_chg1 tyOK ?_ ?_)); (focus (first | (with_reducible rfl) | ((simp (disch := omega) only [go_sem]); done))); simp (disch := omega) only [go_sem , hs1, hs2, hs3, hs4, hs5, hs6, hs7, hs8, Int.toNat_zero, Int.toNat_one, List.length_nil, List.length_set, Nat.reduceLeDiff]; (first | (with_reducible refine XRes_id ?_) | (with_reducible refine ADF_id ?_) | (with_reducible refine ADR_id1 ?_) | (with_reducible refine ADX_id ?_))) | ((first | (with_reducible refine XRes_skip ?_ ?_) | (with_reducible refine ADF_skip (b := true) ?_ ?_) | (with_reducible refine ADX_skip ?_ ?_) | ((with_reducible refine ADR_skip1 ?_ ?_ ?_); (focus rfl))); (focus (first | rfl | ((simp (disch := omega) only [go_sem]); done))); (simp only [putL, List.set_cons_succ, List.set_cons_zero]))) | ((first | (with_reducible refine XRes_nil ?_) | (with_reducible refine ADF_nil ?_) | (with_reducible refine ADR_nil ?_) | (with_reducible refine ADX_nil ?_)); (first | refine hK _ ?_ | refine hK _ _ ?_); clear hK K) | ((first | (with_reducible refine AX_reg0 fun K hK => ?_) | (refine AX_drawG1 tyOK (by kernel_rfl) (by rfl) (by kernel_rfl) fun K hK => ?_) | (refine AX_drawT tyOK (by kernel_rfl) (by decide +kernel) fun K hK => ?_) | (refine AX_drawM1 (by kernel_rfl) (by rfl) (by decide +kernel) fun K hK => ?_) | (refine AX_drawA tyOK (by kernel_rfl) (by decide +kernel) fun K hK => ?_)); (first | simp only [go_sem, preN, effOp, runF, alM, mapOp, alD2, kdOf2, Bool.not_false, Bool.not_true, reduceCtorEq] | simp only [go_sem, preN, effOp, runF, alM, mapOp, Bool.not_false, Bool.not_true, reduceCtorEq] | simp only [go_sem, preN, effOp, runF, alD2, kdOf2, Bool.not_false, Bool.not_true, reduceCtorEq] | simp only [go_sem, alD2, kdOf2, Bool.not_false, Bool.not_true, reduceCtorEq] | simp only [go_sem, preN, effOp, runF, Bool.not_false, Bool.not_true, reduceCtorEq] | simp only [go_sem])) | (first | (first | refine XTL (by rfl) hV ?_ | refine ATL tyOK (by rfl) hV ?_ | refine XTL (by rfl) hI ?_ | refine ATL tyOK (by rfl) hI ?_ | refine XTL (by rfl) hJ ?_ | refine ATL tyOK (by rfl) hJ ?_) | ((refine XRes_fn (by rfl) hC ?_); (rintro r H' ⟨rfl, rfl⟩); (simp only [putL, List.set_cons_succ, List.set_cons_zero]))))); refine Wk.o ?_; (repeat revert hK K); exact h9)) : A := w h9
set_option maxRecDepth 100000 in
set_option maxHeartbeats 4000000 in
theorem pf_r08Step (l h : List Int) (hl : l.length ≤ 1000000) (hh : h.length ≤ 1000000) : PF Try.prog 20 [.iv (iInts l), .iv (iInts h)] fun r H' => r = .tup [.iv (iInts (stpL l h)), lt (.bool (decide (aCl l h = -1))), lt (.int .i64 (stpE l h))] ∧ H' = [] := by
  refine SF.frozen ?_
  have hs1 := trivial; have hs2 := trivial; have hs3 := trivial; have hs4 := trivial; have hs5 := trivial; have hs6 := trivial; have hs7 := trivial; have hs8 := trivial
  have hC := trivial; have hV := trivial; have hI := trivial; have hJ := trivial
  have hV := pf_r03Clause l h hl hh
  have hI := pf_r03Unit l h hl hh
  by_cases h1 : aCl l h = -1
  · have e1 : stpL l h = l := by unfold stpL; rw [if_pos h1]
    have e2 : stpE l h = 0 := by unfold stpE; rw [if_pos h1]
    rw [e1, e2, decide_eq_true h1]
    rw [h1] at hV
    (refine SF_of_bodyX (aload tt) (aload_ok tyOK) Try.func20 rfl (by kernel_rfl) ?_; simp only [Try.ntmps20, List.length_cons, List.length_nil, Nat.reduceAdd, Nat.reduceSub, List.replicate_succ, List.replicate_zero, List.cons_append, List.nil_append])
    (refine Wk.o ?_; (repeat revert hK K); refine W072fa ?_; (repeat intro K hK); refine ⟨?_⟩)
    (simp only [bodyX]; refine ⟨_, by simp only [aresults, aresult, XS.as, Try.results20, aload, go_sem, Option.bind_some]; rfl, ?_⟩)
    exact ⟨_, Snap.threeP (.same _ (.iv _)) (.same _ (.iv _)) (.same _ (.iv _)), rfl, trivial⟩
  · rw [decide_eq_false h1]
    cases h2 : aUnitOk l h with
    | false =>
      have e1 : stpL l h = [] := by unfold stpL; rw [if_neg h1, h2, if_neg (by decide)]
      have e2 : stpE l h = 22 := by unfold stpE; rw [if_neg h1, h2, if_neg (by decide)]
      rw [e1, e2]
      rw [h2] at hI
      generalize aCl l h = v at *
      (refine SF_of_bodyX (aload tt) (aload_ok tyOK) Try.func20 rfl (by kernel_rfl) ?_; simp only [Try.ntmps20, List.length_cons, List.length_nil, Nat.reduceAdd, Nat.reduceSub, List.replicate_succ, List.replicate_zero, List.cons_append, List.nil_append])
      (refine Wk.o ?_; (repeat revert hK K); refine W072fa ?_; (repeat intro K hK); refine ⟨?_⟩)
      (simp only [bodyX]; refine ⟨_, by simp only [aresults, aresult, XS.as, Try.results20, aload, go_sem, Option.bind_some]; rfl, ?_⟩)
      exact ⟨_, Snap.threeP snap_nil (.same _ (.iv _)) (.same _ (.iv _)), rfl, trivial⟩
    | true =>
      have e1 : stpL l h = l ++ [aUnit l h] := by unfold stpL; rw [if_neg h1, h2, if_pos rfl]
      have e2 : stpE l h = 0 := by unfold stpE; rw [if_neg h1, h2, if_pos rfl]
      rw [e1, e2]
      rw [h2] at hI
      have hrng := lvar_range (aUnit_lvar h2)
      generalize aUnit l h = z at *
      generalize aCl l h = v at *
      have hs1 := lint_range l
      (refine SF_of_bodyX (aload tt) (aload_ok tyOK) Try.func20 rfl (by kernel_rfl) ?_; simp only [Try.ntmps20, List.length_cons, List.length_nil, Nat.reduceAdd, Nat.reduceSub, List.replicate_succ, List.replicate_zero, List.cons_append, List.nil_append])
      unfold iInts
      (refine Wk.o ?_; (repeat revert hK K); refine W072fa ?_; (repeat intro K hK); refine ⟨?_⟩)
      (simp only [bodyX]; refine ⟨_, by simp only [aresults, aresult, XS.as, Try.results20, aload, go_sem, Option.bind_some]; rfl, ?_⟩)
      exact ⟨_, Snap.threeP (snap_ints rfl (by rw [List.length_append]; rfl)) (.same _ (.iv _)) (.same _ (.iv _)), rfl, trivial⟩
set_option maxRecDepth 100000 in
set_option maxHeartbeats 4000000 in
theorem pf_r08Chain (l : List Int) (hs : List (List Int)) (hl : l.length ≤ 100000) (hh : RowsOk hs) : PF Try.prog 16 [.iv (iInts l), .iv (iRows hs)] fun r H' => r = .tup [.iv (iInts (chn l hs 0).1), lt (.int .i64 ((chn l hs 0).2.1 : Nat)), lt (.int .i64 (chn l hs 0).2.2)] ∧ H' = [] := by
  refine SF.frozen ?_
  have hs1 := trivial; have hs2 := trivial; have hs3 := trivial; have hs4 := trivial; have hs5 := trivial; have hs6 := trivial; have hs7 := trivial; have hs8 := trivial
  have hC := trivial; have hV := trivial; have hI := trivial; have hJ := trivial
  obtain ⟨hh1, hh2⟩ := hh
  (refine SF_of_bodyX (aload tt) (aload_ok tyOK) Try.func16 rfl (by kernel_rfl) ?_; simp only [Try.ntmps16, List.length_cons, List.length_nil, Nat.reduceAdd, Nat.reduceSub, List.replicate_succ, List.replicate_zero, List.cons_append, List.nil_append])
  unfold iRows
  (refine Wk.o ?_; (repeat revert hK K); refine W072fa ?_; (repeat intro K hK); refine ⟨?_⟩)
  refine AX_wh (σ := Nat × List Int) [11, 12, 13, 14, 18, 19, 20, 21, 22, 23, 17, 24, 25, 26, 8, 9, 10, 27, 28, 29, 30, 4, 5, 6, 31, 32, 33, 34, 35, 15, 16] (fun (k, L) => [(7, lint k), (0, .iv (iInts L))]) (fun _ => []) (fun _ => []) (fun (k, L) => k ≤ hs.length ∧ L.length ≤ 100000 + k ∧ chn l hs 0 = chn L (hs.drop k) k) (fun (k, _) => hs.length - k) (0, l) (fun d => by first | ((simp (disch := omega) only [go_sem, lint , hs1, hs2, hs3, hs4, hs5, hs6, hs7, hs8, Int.toNat_zero, Int.toNat_one, List.length_nil, List.length_set, Nat.reduceLeDiff]); done) | ((simp (disch := omega) only [go_sem, lint , hs1, hs2, hs3, hs4, hs5, hs6, hs7, hs8, Int.toNat_zero, Int.toNat_one, List.length_nil, List.length_set, Nat.reduceLeDiff]); rfl)) rfl rfl ⟨Nat.zero_le _, by omega, rfl⟩ ?_
  rintro ⟨k, L⟩ d fr hfr ⟨hk, hLl, hch⟩
  simp only [updS, deadS, List.set_cons_succ, List.set_cons_zero, lint] at hfr
  subst hfr
  (try dsimp only)
  by_cases hlt : k < hs.length
  · have hcl := hh2 k
    have hcd := chn_drop L hlt k
    rw [← hch] at hcd
    have hV := pf_r08Step L (hs.getD k []) (by omega) (by omega)
    generalize hz : hs.getD k [] = c at *
    have hs2 := hz
    by_cases h1 : aCl L c = -1
    · rw [if_pos h1] at hcd
      have e1 : stpL L c = L := by unfold stpL; rw [if_pos h1]
      have e2 : stpE L c = 0 := by unfold stpE; rw [if_pos h1]
      rw [e1, e2, decide_eq_true h1] at hV
      (refine Wk.o ?_; (repeat revert hK K); refine W072fa ?_; (repeat intro K hK); refine ⟨?_⟩)
      (simp only [bodyX]; refine ⟨_, by simp only [aresults, aresult, XS.as, Try.results16, aload, go_sem, Option.bind_some]; rfl, ?_⟩)
      exact ⟨_, Snap.threeP (.same _ (.iv _)) (.same _ (.iv _)) (.same _ (.iv _)), by rw [hcd], trivial⟩
    · rw [if_neg h1] at hcd
      rw [decide_eq_false h1] at hV
      cases h2 : aUnitOk L c with
      | false =>
        rw [h2, if_neg (by decide)] at hcd
        have e1 : stpL L c = [] := by unfold stpL; rw [if_neg h1, h2, if_neg (by decide)]
        have e2 : stpE L c = 22 := by unfold stpE; rw [if_neg h1, h2, if_neg (by decide)]
        rw [e1, e2] at hV
        (refine Wk.o ?_; (repeat revert hK K); refine W072fa ?_; (repeat intro K hK); refine ⟨?_⟩)
        (simp only [bodyX]; refine ⟨_, by simp only [aresults, aresult, XS.as, Try.results16, aload, go_sem, Option.bind_some]; rfl, ?_⟩)
        exact ⟨_, Snap.threeP snap_nil (.same _ (.iv _)) (.same _ (.iv _)), by rw [hcd], trivial⟩
      | true =>
        rw [h2, if_pos rfl] at hcd
        have e1 : stpL L c = L ++ [aUnit L c] := by unfold stpL; rw [if_neg h1, h2, if_pos rfl]
        have e2 : stpE L c = 0 := by unfold stpE; rw [if_neg h1, h2, if_pos rfl]
        rw [e1, e2] at hV
        generalize aUnit L c = z at *
        have hI2 : k + 1 ≤ hs.length ∧ (L ++ [z]).length ≤ 100000 + (k + 1) ∧ chn l hs 0 = chn (L ++ [z]) (hs.drop (k + 1)) (k + 1) := ⟨by omega, by rw [List.length_append]; simp; omega, hcd⟩
        (refine Wk.o ?_; (repeat revert hK K); refine W072fa ?_; (repeat intro K hK); refine ⟨?_⟩)
        exact whx_end (k + 1, L ++ [z]) hI2 (by (first | omega | (dsimp only; omega) | (simp only; omega))) rfl rfl (fun d => by (simp (disch := omega) only [go_sem, lint , hs1, hs2, hs3, hs4, hs5, hs6, hs7, hs8, Int.toNat_zero, Int.toNat_one, List.length_nil, List.length_set, Nat.reduceLeDiff]))
  · obtain rfl : k = hs.length := by omega
    rw [chn_end] at hch
    (refine Wk.o ?_; (repeat revert hK K); refine W072fa ?_; (repeat intro K hK); refine ⟨?_⟩)
    (simp only [bodyX]; refine ⟨_, by simp only [aresults, aresult, XS.as, Try.results16, aload, go_sem, Option.bind_some]; rfl, ?_⟩)
    exact ⟨_, Snap.threeP (.same _ (.iv _)) (.same _ (.iv _)) (.same _ (.iv _)), by rw [hch], trivial⟩
set_option maxRecDepth 100000 in
set_option maxHeartbeats 4000000 in
theorem pf_r08Show (c : List Int) (hs : List (List Int)) (hc : c.length ≤ 100000) (hh : RowsOk hs) : PF Try.prog 18 [.iv (iInts c), .iv (iRows hs)] fun r H' => r = .tup [lt (.int .i64 (shN8 c hs : Nat)), lt (.int .i64 (shE8 c hs))] ∧ H' = [] := by
  refine SF.forgetAll ?_
  have hs1 := trivial; have hs2 := trivial; have hs3 := trivial; have hs4 := trivial; have hs5 := trivial; have hs6 := trivial; have hs7 := trivial; have hs8 := trivial
  have hC := trivial; have hV := trivial; have hI := trivial; have hJ := trivial
  have hV := pf_r08Start c hc
  have hsl := stR_len c
  have hI := pf_r08Chain (stR c) hs (by omega) hh
  by_cases h0 : stE c = 0
  · obtain ⟨e1, e2⟩ := shE8_ok (hs := hs) h0
    rw [e1, e2]
    rw [h0] at hV
    generalize chn (stR c) hs 0 = q at *
    (refine SF_of_bodyX (aload tt) (aload_ok tyOK) Try.func18 rfl (by kernel_rfl) ?_; simp only [Try.ntmps18, List.length_cons, List.length_nil, Nat.reduceAdd, Nat.reduceSub, List.replicate_succ, List.replicate_zero, List.cons_append, List.nil_append])
    (refine Wk.o ?_; (repeat revert hK K); refine W072fa ?_; (repeat intro K hK); refine ⟨?_⟩)
    (simp only [bodyX]; refine ⟨_, by simp only [aresults, aresult, XS.as, Try.results18, aload, go_sem, Option.bind_some]; rfl, ?_⟩)
    exact ⟨ids_idB rfl, rfl, trivial⟩
  · obtain ⟨e1, e2⟩ := shE8_at (hs := hs) h0
    rw [e1, e2]
    generalize stE c = E at *
    (refine SF_of_bodyX (aload tt) (aload_ok tyOK) Try.func18 rfl (by kernel_rfl) ?_; simp only [Try.ntmps18, List.length_cons, List.length_nil, Nat.reduceAdd, Nat.reduceSub, List.replicate_succ, List.replicate_zero, List.cons_append, List.nil_append])
    (refine Wk.o ?_; (repeat revert hK K); refine W072fa ?_; (repeat intro K hK); refine ⟨?_⟩)
    (simp only [bodyX]; refine ⟨_, by simp only [aresults, aresult, XS.as, Try.results18, aload, go_sem, Option.bind_some]; rfl, ?_⟩)
    exact ⟨ids_idB rfl, rfl, trivial⟩
end Go.Proofs.Ytcanlckenjndbaa
namespace Go.Proofs.Ytcanlckenjndbaa
open Go.RowKit
set_option linter.unusedVariables false
set_option linter.unusedSimpArgs false
theorem anews_ints (H : AHeap) (L : List Int) : anews H (.iv (iInts L)) = some (L.map lint, L.length, 1) := by
  unfold anews iInts
  simp only [Nat.mul_one]
  rw [lint_range, if_pos (lint_one L)]
theorem W5cf5a {A B : Prop} (h9 : B) (w : B → A := by (intro h9; (repeat intro K hK); refine ⟨?_⟩; (repeat (first | (first | (with_reducible first | refine AX_block ?_ | refine AX_skip ?_ | refine AX_exit ?_ | refine AX_ret ?_ | refine AX_ift ?_ | refine AX_iff ?_ | refine AX_seq_k (fun K hK => ?_) | refine ContX.use (by assumption) ?_) | simp only [thenX, inBlockX, if_true, if_false, reduceCtorEq]) | (first | ((first | (with_reducible refine XRes_op tyOK ?_ ?_) | ((with_reducible first | refine ADF_op tyOK ?_ ?_ ?_ | refine ADX_op tyOK ?_ ?_ ?_); (focus rfl)) | (with_reducible refine ADR_alloc1 tyOK ?_ ?_) | ((with_reducible refine ADR_free1 tyOK ?_ ?_ ?_); (focus rfl)) | ((with_reducible refine ADR_free0 tyOK ?_ ?_ ?_); (focus rfl)) | ((with_reducible refine ADR_read1 tyOK ?_ ?_ ?_); (focus rfl)) | (with_reducible refine ADR_chg1 tyOK ?_ ?_)); (focus (first | (with_reducible rfl) | ((simp (disch := omega) only [go_sem]); done))); simp (disch := omega) only [go_sem , hs1, hs2, hs3, Int.toNat_zero, Int.toNat_one, List.length_nil, Nat.reduceLeDiff]; (first | (with_reducible refine XRes_id ?_) | (with_reducible refine ADF_id ?_) | (with_reducible refine ADR_id1 ?_) | (with_reducible refine ADX_id ?_))) | ((first | (with_reducible refine XRes_skip ?_ ?_) | (with_reducible refine ADF_skip (b := true) ?_ ?_) | (with_reducible refine ADX_skip ?_ ?_) | ((with_reducible refine ADR_skip1 ?_ ?_ ?_); (focus rfl))); (focus (first | rfl | ((simp (disch := omega) only [go_sem]); done))); (simp only [putL, List.set_cons_succ, List.set_cons_zero]))) | ((first | (with_reducible refine XRes_nil ?_) | (with_reducible refine ADF_nil ?_) | (with_reducible refine ADR_nil ?_) | (with_reducible refine ADX_nil ?_)); (first | refine hK _ ?_ | refine hK _ _ ?_); clear hK K) | ((first | (with_reducible refine AX_reg0 fun K hK => ?_) | (refine AX_drawG1 tyOK (by kernel_rfl) (by rfl) (by kernel_rfl) fun K hK => ?_) | (refine AX_drawT tyOK (by kernel_rfl) (by decide +kernel) fun K hK => ?_) | (refine AX_drawM1 (by kernel_rfl) (by rfl) (by decide +kernel) fun K hK => ?_) | (refine AX_drawA tyOK (by kernel_rfl) (by decide +kernel) fun K hK => ?_)); (first | simp only [go_sem, preN, effOp, runF, alM, mapOp, alD2, kdOf2, Bool.not_false, Bool.not_true, reduceCtorEq] | simp only [go_sem, preN, effOp, runF, alM, mapOp, Bool.not_false, Bool.not_true, reduceCtorEq] | simp only [go_sem, preN, effOp, runF, alD2, kdOf2, Bool.not_false, Bool.not_true, reduceCtorEq] | simp only [go_sem, alD2, kdOf2, Bool.not_false, Bool.not_true, reduceCtorEq] | simp only [go_sem, preN, effOp, runF, Bool.not_false, Bool.not_true, reduceCtorEq] | simp only [go_sem])) | (first | (first | refine XTL (by rfl) hV ?_ | refine ATL tyOK (by rfl) hV ?_ | refine XTL (by rfl) hU ?_ | refine ATL tyOK (by rfl) hU ?_) | ((refine XRes_fn (by rfl) hI ?_); (rintro r H' ⟨rfl, rfl⟩); (simp only [putL, List.set_cons_succ, List.set_cons_zero]))))); refine Wk.o ?_; (repeat revert hK K); exact h9)) : A := w h9
set_option maxRecDepth 100000 in
set_option maxHeartbeats 2000000 in
theorem pf_Step (l h : List Int) (hl : l.length ≤ 1000000) (hh : h.length ≤ 1000000) (hf : Fits' l) (hf2 : Fits' h) : PF Try.prog 19 [.iv (iInts l), .iv (iInts h)] fun r H' => r = .tup [.iv (iInts (stpL l h)), lt (.bool (decide (aCl l h = -1))), lt (.int .i64 (stpE l h))] ∧ H' = [] := by
  refine SF.frozen ?_
  have hs1 := trivial; have hs2 := trivial; have hs3 := trivial
  have hV := pf_aClause l h hl hh hf hf2
  have hU := pf_aUnit l h hl hh hf hf2
  have hI := pf_CloneO l hl
  by_cases h1 : aCl l h = -1
  · have e1 : stpL l h = l := by unfold stpL; rw [if_pos h1]
    have e2 : stpE l h = 0 := by unfold stpE; rw [if_pos h1]
    rw [e1, e2, decide_eq_true h1]
    rw [h1] at hV
    (refine SF_of_bodyX (aload tt) (aload_ok tyOK) Try.func19 rfl (by kernel_rfl) ?_; simp only [Try.ntmps19, List.length_cons, List.length_nil, Nat.reduceAdd, Nat.reduceSub, List.replicate_succ, List.replicate_zero, List.cons_append, List.nil_append])
    (refine Wk.o ?_; (repeat revert hK K); refine W5cf5a ?_; (repeat intro K hK); refine ⟨?_⟩)
    (simp only [bodyX]; refine ⟨_, by simp only [aresults, aresult, XS.as, Try.results19, aload, go_sem, Option.bind_some]; rfl, ?_⟩)
    exact ⟨_, Snap.threeP (snap_ints rfl rfl) (.same _ (.iv _)) (.same _ (.iv _)), rfl, trivial⟩
  · have h1' : ¬ aCl l h < 0 := fun h => h1 ((aCl_neg _ _).1 h)
    rw [decide_eq_false h1]
    cases h2 : aUnitOk l h with
    | false =>
      have e1 : stpL l h = [] := by unfold stpL; rw [if_neg h1, h2, if_neg (by decide)]
      have e2 : stpE l h = 22 := by unfold stpE; rw [if_neg h1, h2, if_neg (by decide)]
      rw [e1, e2]
      rw [h2] at hU
      generalize aCl l h = v at *
      (refine SF_of_bodyX (aload tt) (aload_ok tyOK) Try.func19 rfl (by kernel_rfl) ?_; simp only [Try.ntmps19, List.length_cons, List.length_nil, Nat.reduceAdd, Nat.reduceSub, List.replicate_succ, List.replicate_zero, List.cons_append, List.nil_append])
      (refine Wk.o ?_; (repeat revert hK K); refine W5cf5a ?_; (repeat intro K hK); refine ⟨?_⟩)
      (simp only [bodyX]; refine ⟨_, by simp only [aresults, aresult, XS.as, Try.results19, aload, go_sem, Option.bind_some]; rfl, ?_⟩)
      exact ⟨_, Snap.threeP snap_nil (.same _ (.iv _)) (.same _ (.iv _)), rfl, trivial⟩
    | true =>
      have e1 : stpL l h = l ++ [aUnit l h] := by unfold stpL; rw [if_neg h1, h2, if_pos rfl]
      have e2 : stpE l h = 0 := by unfold stpE; rw [if_neg h1, h2, if_pos rfl]
      rw [e1, e2]
      rw [h2] at hU
      generalize aUnit l h = z at *
      generalize aCl l h = v at *
      (refine SF_of_bodyX (aload tt) (aload_ok tyOK) Try.func19 rfl (by kernel_rfl) ?_; simp only [Try.ntmps19, List.length_cons, List.length_nil, Nat.reduceAdd, Nat.reduceSub, List.replicate_succ, List.replicate_zero, List.cons_append, List.nil_append])
      unfold iInts
      (refine Wk.o ?_; (repeat revert hK K); refine W5cf5a ?_; (repeat intro K hK); refine ⟨?_⟩)
      refine XRes_full tyOK (by rfl) (by simp) rfl rfl rfl rfl rfl rfl ?_
      simp only [putL, List.set_cons_succ, List.set_cons_zero]
      (refine XResF_op tyOK (by rfl) (by decide) ?_); simp (disch := omega) only [go_sem , hs1, hs2, hs3, Int.toNat_zero, Int.toNat_one, List.length_nil, Nat.reduceLeDiff]
      (refine XResF_op tyOK (by rfl) (by decide) ?_); simp (disch := omega) only [go_sem , hs1, hs2, hs3, Int.toNat_zero, Int.toNat_one, List.length_nil, Nat.reduceLeDiff]
      refine XResF_app tyOK (os := l.map lint) (xs := [lt (.int .i64 z)]) (n := l.length) (k := 1) (sz := 1) (by rfl) rfl rfl rfl (anews_ints _ l) rfl (by decide) rfl (by decide) rfl (by show (l.length + 1) * 8 ≤ _; omega) (by omega) ?_
      simp only [putL, List.set_cons_succ, List.set_cons_zero, List.length_cons, List.length_nil, Nat.zero_add, List.cons_append, List.nil_append]
      (refine Wk.o ?_; (repeat revert hK K); refine W5cf5a ?_; (repeat intro K hK); refine ⟨?_⟩)
      (simp only [bodyX]; refine ⟨_, by simp only [aresults, aresult, XS.as, Try.results19, aload, go_sem, Option.bind_some]; rfl, ?_⟩)
      exact ⟨_, Snap.threeP (snap_ints rfl (by rw [List.length_append]; rfl)) (.same _ (.iv _)) (.same _ (.iv _)), rfl, trivial⟩
end Go.Proofs.Ytcanlckenjndbaa
