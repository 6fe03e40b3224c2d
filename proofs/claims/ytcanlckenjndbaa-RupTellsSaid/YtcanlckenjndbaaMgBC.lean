import Derived.Test.YtcanlckenjndbaaMgBB
namespace Go.Proofs.Ytcanlckenjndbaa
open Go.RowKit
set_option linter.unusedVariables false
set_option linter.unusedSimpArgs false
theorem take_at_end {α : Type} (c : List α) : c.take c.length = c := List.take_of_length_le (Nat.le_refl _)
theorem W078ba {A B : Prop} (h9 : B) (w : B → A := by (intro h9; (repeat intro K hK); refine ⟨?_⟩; (repeat (first | (first | (with_reducible first | refine AX_block ?_ | refine AX_skip ?_ | refine AX_exit ?_ | refine AX_ret ?_ | refine AX_ift ?_ | refine AX_iff ?_ | refine AX_seq_k (fun K hK => ?_) | refine ContX.use (by assumption) ?_) | simp only [thenX, inBlockX, if_true, if_false, reduceCtorEq]) | (first | ((first | (with_reducible refine XRes_op tyOK ?_ ?_) | ((with_reducible first | refine ADF_op tyOK ?_ ?_ ?_ | refine ADX_op tyOK ?_ ?_ ?_); (focus rfl)) | (with_reducible refine ADR_alloc1 tyOK ?_ ?_) | ((with_reducible refine ADR_free1 tyOK ?_ ?_ ?_); (focus rfl)) | ((with_reducible refine ADR_free0 tyOK ?_ ?_ ?_); (focus rfl)) | ((with_reducible refine ADR_read1 tyOK ?_ ?_ ?_); (focus rfl)) | (with_reducible refine ADR_chg1 tyOK ?_ ?_)); (focus (first | (with_reducible rfl) | ((simp (disch := omega) only [go_sem]); done))); simp (disch := omega) only [go_sem , hs1, hs2, hs3, hs4, hs5, hs6, hs7, hs8, Int.toNat_zero, Int.toNat_one, List.length_nil, rep_lb]; (first | (with_reducible refine XRes_id ?_) | (with_reducible refine ADF_id ?_) | (with_reducible refine ADR_id1 ?_) | (with_reducible refine ADX_id ?_))) | ((first | (with_reducible refine XRes_skip ?_ ?_) | (with_reducible refine ADF_skip (b := true) ?_ ?_) | (with_reducible refine ADX_skip ?_ ?_) | ((with_reducible refine ADR_skip1 ?_ ?_ ?_); (focus rfl))); (focus (first | rfl | ((simp (disch := omega) only [go_sem]); done))); (simp only [putL, List.set_cons_succ, List.set_cons_zero]))) | ((first | (with_reducible refine XRes_nil ?_) | (with_reducible refine ADF_nil ?_) | (with_reducible refine ADR_nil ?_) | (with_reducible refine ADX_nil ?_)); (first | refine hK _ ?_ | refine hK _ _ ?_); clear hK K) | ((first | (with_reducible refine AX_reg0 fun K hK => ?_) | (refine AX_drawG1 tyOK (by kernel_rfl) (by rfl) (by kernel_rfl) fun K hK => ?_) | (refine AX_drawT tyOK (by kernel_rfl) (by decide +kernel) fun K hK => ?_) | (refine AX_drawM1 (by kernel_rfl) (by rfl) (by decide +kernel) fun K hK => ?_) | (refine AX_drawA tyOK (by kernel_rfl) (by decide +kernel) fun K hK => ?_)); (first | simp only [go_sem, preN, effOp, runF, alM, mapOp, alD2, kdOf2, Bool.not_false, Bool.not_true, reduceCtorEq] | simp only [go_sem, preN, effOp, runF, alM, mapOp, Bool.not_false, Bool.not_true, reduceCtorEq] | simp only [go_sem, preN, effOp, runF, alD2, kdOf2, Bool.not_false, Bool.not_true, reduceCtorEq] | simp only [go_sem, alD2, kdOf2, Bool.not_false, Bool.not_true, reduceCtorEq] | simp only [go_sem, preN, effOp, runF, Bool.not_false, Bool.not_true, reduceCtorEq] | simp only [go_sem])) | (first | (first | refine XTL (by rfl) hV ?_ | refine ATL tyOK (by rfl) hV ?_ | refine XTL (by rfl) hI ?_ | refine ATL tyOK (by rfl) hI ?_) | ((refine XRes_fn (by rfl) hC ?_); (rintro r H' ⟨rfl, rfl⟩); (simp only [putL, List.set_cons_succ, List.set_cons_zero]))))); refine Wk.o ?_; (repeat revert hK K); exact h9)) : A := w h9
set_option maxRecDepth 100000 in
set_option maxHeartbeats 2000000 in
theorem pf_tbClause {H : AHeap} {o q : Nat} {bs : List Bool} {l : List Int} (hH : TbAt H o q bs) (hr : Rep bs l) (hb : bs.length ≤ 1000000) (c : List Int) (hc : c.length ≤ 1000000) : SF Try.prog 64 [.optr o 0, .iv (iInts c)] H fun r H' => r = .tup [lt (.int .i64 (aCl l c)), lt (.int .i64 (tabUnit l c))] ∧ H' = H := by
  have hs1 := trivial; have hs2 := trivial; have hs3 := trivial; have hs4 := trivial; have hs5 := trivial; have hs6 := trivial; have hs7 := trivial; have hs8 := trivial
  have hC := trivial; have hV := trivial; have hI := trivial
  have hVal := fun x => pf_tbValue hH hr hb x
  have hE0 : opens l (c.take 0) = [] := rfl
  have hq0 : ((opens l (c.take 0)).length : Int) = 0 := rfl
  have hu0 : (opens l (c.take 0)).getLastD 0 = 0 := rfl
  (refine SF_of_bodyX (aload tt) (aload_ok tyOK) Try.func64 rfl (by kernel_rfl) ?_; simp only [Try.ntmps64, List.length_cons, List.length_nil, Nat.reduceAdd, Nat.reduceSub, List.replicate_succ, List.replicate_zero, List.cons_append, List.nil_append])
  unfold iInts
  (refine Wk.o ?_; (repeat revert hK K); refine W078ba ?_; (repeat intro K hK); refine ⟨?_⟩)
  refine AX_wh (σ := Nat) [13, 14, 15, 8, 16, 17, 18, 9, 20, 21, 19, 4, 23, 24, 25, 26, 27, 28, 29, 22, 30, 31, 32, 33] (fun k => [(12, lint k), (6, lint ((opens l (c.take k)).length : Nat)), (5, lint ((opens l (c.take k)).getLastD 0))]) (fun _ => H) (fun _ => []) (fun k => k ≤ c.length ∧ ∀ j, j < k → aIs l 1 (c.getD j 0) = false) (fun k => c.length - k) 0 (fun d => by first | ((simp only [deadS, updS, List.set_cons_succ, List.set_cons_zero, lint, List.length_nil, List.length_cons]); done) | ((simp only [deadS, updS, List.set_cons_succ, List.set_cons_zero, lint, List.length_nil, List.length_cons]); rfl) | rfl) rfl rfl ⟨Nat.zero_le _, fun j h => absurd h (by omega)⟩ ?_
  rintro k d fr hfr ⟨hk, hno⟩
  simp only [updS, deadS, List.set_cons_succ, List.set_cons_zero, lint] at hfr
  subst hfr
  (try dsimp only)
  by_cases hlt : k < c.length
  · have hT := take_snoc c k hlt
    have hO := opens_snoc l (c.take k) (c.getD k 0)
    have hIn : c.getD k 0 ∈ c := by simp [List.getD, hlt]
    have hE : aIs l 1 (c.getD k 0) = false → ∀ j, j < k + 1 → aIs l 1 (c.getD j 0) = false := fun h j hj => by
      rcases Nat.lt_or_ge j k with h1 | h1
      · exact hno j h1
      · rw [show j = k by omega]; exact h
    have hlo : (opens l (c.take k)).length ≤ k := by
      have := List.length_filter_le (aIs l 0) (c.take k)
      have h2 : (c.take k).length = k := by simp; omega
      unfold opens; omega
    have hC := hVal (c.getD k 0)
    have hV := pf_LVar (c.getD k 0)
    generalize hz : c.getD k 0 = z at *
    have hs1 := hz
    rcases aVal_cases3 l z with ⟨h1, h2, h3⟩ | ⟨h1, h2, h3⟩ | ⟨h1, h2, h3⟩
    · have hP := aN_some hIn h2
      have hc1 : aCl l c = 1 := by unfold aCl; rw [if_pos hP]
      have hc2 : tabUnit l c = 0 := by unfold tabUnit; rw [if_pos hP]
      rw [h1] at hC
      rw [hc1, hc2]
      generalize opens l (c.take k) = ops at *
      (refine Wk.o ?_; (repeat revert hK K); refine W078ba ?_; (repeat intro K hK); refine ⟨?_⟩)
      (simp only [bodyX]; refine ⟨_, by simp only [aresults, aresult, XS.as, Try.results64, aload, go_sem, Option.bind_some]; rfl, ?_⟩)
      exact ⟨rfl, trivial⟩
    · rw [h1] at hC
      have hO2 : opens l (c.take (k + 1)) = opens l (c.take k) := by rw [hT, hO, h3]; simp
      generalize opens l (c.take k) = ops at *
      (refine Wk.o ?_; (repeat revert hK K); refine W078ba ?_; (repeat intro K hK); refine ⟨?_⟩)
      exact whx_end (k + 1) ⟨by omega, hE h2⟩ (by (first | omega | (dsimp only; omega) | (simp only; omega))) rfl (by first | rfl | (simp (disch := omega) only [go_sem, lint])) (fun d => by rw [hO2]; (simp (disch := omega) only [go_sem, lint , hs1, hs2, hs3, hs4, hs5, hs6, hs7, hs8, Int.toNat_zero, Int.toNat_one, List.length_nil, rep_lb]))
    · rw [h1] at hC
      by_cases hv : lvar z = 0
      · have hO2 : opens l (c.take (k + 1)) = opens l (c.take k) := by rw [hT, hO, h3, hv]; simp
        rw [hv] at hV
        generalize opens l (c.take k) = ops at *
        (refine Wk.o ?_; (repeat revert hK K); refine W078ba ?_; (repeat intro K hK); refine ⟨?_⟩)
        exact whx_end (k + 1) ⟨by omega, hE h2⟩ (by (first | omega | (dsimp only; omega) | (simp only; omega))) rfl (by first | rfl | (simp (disch := omega) only [go_sem, lint])) (fun d => by rw [hO2]; (simp (disch := omega) only [go_sem, lint , hs1, hs2, hs3, hs4, hs5, hs6, hs7, hs8, Int.toNat_zero, Int.toNat_one, List.length_nil, rep_lb]))
      · have hO2 : opens l (c.take (k + 1)) = opens l (c.take k) ++ [z] := by rw [hT, hO, h3, decide_eq_true hv]; rfl
        have hl2 : (opens l (c.take (k + 1))).length = (opens l (c.take k)).length + 1 := by rw [hO2, List.length_append]; rfl
        have hu2 : (opens l (c.take (k + 1))).getLastD 0 = z := by rw [hO2]; simp
        generalize opens l (c.take k) = ops at *
        generalize lvar z = vz at *
        (refine Wk.o ?_; (repeat revert hK K); refine W078ba ?_; (repeat intro K hK); refine ⟨?_⟩)
        exact whx_end (k + 1) ⟨by omega, hE h2⟩ (by (first | omega | (dsimp only; omega) | (simp only; omega))) rfl (by first | rfl | (simp (disch := omega) only [go_sem, lint])) (fun d => by rw [hl2, hu2]; (simp (disch := omega) only [go_sem, lint , hs1, hs2, hs3, hs4, hs5, hs6, hs7, hs8, Int.toNat_zero, Int.toNat_one, List.length_nil, rep_lb]))
  · obtain rfl : k = c.length := by omega
    have hN := aN_none rfl hno
    have hN0 : aN l c 0 = (opens l c).length := rfl
    have hlo : (opens l c).length ≤ c.length := List.length_filter_le _ _
    have hc1 : aCl l c = if 0 < (opens l c).length then 0 else -1 := by unfold aCl; rw [hN, hN0]; simp
    have hc2 : tabUnit l c = if (opens l c).length = 1 then (opens l c).getLastD 0 else 0 := by unfold tabUnit; rw [hN]; simp
    rw [take_at_end]
    generalize (opens l c).getLastD 0 = U at *
    generalize (opens l c).length = n at *
    by_cases n0 : n = 0
    · subst n0
      (refine Wk.o ?_; (repeat revert hK K); refine W078ba ?_; (repeat intro K hK); refine ⟨?_⟩)
      (simp only [bodyX]; refine ⟨_, by simp only [aresults, aresult, XS.as, Try.results64, aload, go_sem, Option.bind_some]; rfl, ?_⟩)
      exact ⟨by rw [hc1, hc2]; rfl, trivial⟩
    · by_cases n1 : n = 1
      · subst n1
        (refine Wk.o ?_; (repeat revert hK K); refine W078ba ?_; (repeat intro K hK); refine ⟨?_⟩)
        (simp only [bodyX]; refine ⟨_, by simp only [aresults, aresult, XS.as, Try.results64, aload, go_sem, Option.bind_some]; rfl, ?_⟩)
        exact ⟨by rw [hc1, hc2]; rfl, trivial⟩
      · (refine Wk.o ?_; (repeat revert hK K); refine W078ba ?_; (repeat intro K hK); refine ⟨?_⟩)
        (simp only [bodyX]; refine ⟨_, by simp only [aresults, aresult, XS.as, Try.results64, aload, go_sem, Option.bind_some]; rfl, ?_⟩)
        exact ⟨by rw [hc1, hc2, if_pos (by omega), if_neg n1], trivial⟩
end Go.Proofs.Ytcanlckenjndbaa
namespace Go.Proofs.Ytcanlckenjndbaa
open Go.RowKit
set_option linter.unusedVariables false
set_option linter.unusedSimpArgs false
theorem Weeb5a {A B : Prop} (h9 : B) (w : B → A := by (intro h9; (repeat intro K hK); refine ⟨?_⟩; (repeat (first | (first | (with_reducible first | refine AX_block ?_ | refine AX_skip ?_ | refine AX_exit ?_ | refine AX_ret ?_ | refine AX_ift ?_ | refine AX_iff ?_ | refine AX_seq_k (fun K hK => ?_) | refine ContX.use (by assumption) ?_) | simp only [thenX, inBlockX, if_true, if_false, reduceCtorEq]) | (first | ((first | (with_reducible refine XRes_op tyOK ?_ ?_) | ((with_reducible first | refine ADF_op tyOK ?_ ?_ ?_ | refine ADX_op tyOK ?_ ?_ ?_); (focus rfl)) | (with_reducible refine ADR_alloc1 tyOK ?_ ?_) | ((with_reducible refine ADR_free1 tyOK ?_ ?_ ?_); (focus rfl)) | ((with_reducible refine ADR_free0 tyOK ?_ ?_ ?_); (focus rfl)) | ((with_reducible refine ADR_read1 tyOK ?_ ?_ ?_); (focus rfl)) | (with_reducible refine ADR_chg1 tyOK ?_ ?_)); (focus (first | (with_reducible rfl) | ((simp (disch := omega) only [go_sem]); done))); simp (disch := omega) only [go_sem , hs1, hs2, hs3, hs4, hs5, hs6, hs7, hs8, Int.toNat_zero, Int.toNat_one, List.length_nil, List.length_set, Nat.reduceLeDiff, Nat.reduceEqDiff]; (first | (with_reducible refine XRes_id ?_) | (with_reducible refine ADF_id ?_) | (with_reducible refine ADR_id1 ?_) | (with_reducible refine ADX_id ?_))) | ((first | (with_reducible refine XRes_skip ?_ ?_) | (with_reducible refine ADF_skip (b := true) ?_ ?_) | (with_reducible refine ADX_skip ?_ ?_) | ((with_reducible refine ADR_skip1 ?_ ?_ ?_); (focus rfl))); (focus (first | rfl | ((simp (disch := omega) only [go_sem]); done))); (simp only [putL, List.set_cons_succ, List.set_cons_zero]))) | ((first | (with_reducible refine XRes_nil ?_) | (with_reducible refine ADF_nil ?_) | (with_reducible refine ADR_nil ?_) | (with_reducible refine ADX_nil ?_)); (first | refine hK _ ?_ | refine hK _ _ ?_); clear hK K) | ((first | (with_reducible refine AX_reg0 fun K hK => ?_) | (refine AX_drawG1 tyOK (by kernel_rfl) (by rfl) (by kernel_rfl) fun K hK => ?_) | (refine AX_drawT tyOK (by kernel_rfl) (by decide +kernel) fun K hK => ?_) | (refine AX_drawM1 (by kernel_rfl) (by rfl) (by decide +kernel) fun K hK => ?_) | (refine AX_drawA tyOK (by kernel_rfl) (by decide +kernel) fun K hK => ?_)); (first | simp only [go_sem, preN, effOp, runF, alM, mapOp, alD2, kdOf2, Bool.not_false, Bool.not_true, reduceCtorEq] | simp only [go_sem, preN, effOp, runF, alM, mapOp, Bool.not_false, Bool.not_true, reduceCtorEq] | simp only [go_sem, preN, effOp, runF, alD2, kdOf2, Bool.not_false, Bool.not_true, reduceCtorEq] | simp only [go_sem, alD2, kdOf2, Bool.not_false, Bool.not_true, reduceCtorEq] | simp only [go_sem, preN, effOp, runF, Bool.not_false, Bool.not_true, reduceCtorEq] | simp only [go_sem])) | (first | (first | refine XTL (by rfl) hV ?_ | refine ATL tyOK (by rfl) hV ?_ | refine XTL (by rfl) hI ?_ | refine ATL tyOK (by rfl) hI ?_) | ((refine XRes_fn (by rfl) hC ?_); (rintro r H' ⟨rfl, rfl⟩); (simp only [putL, List.set_cons_succ, List.set_cons_zero]))))); refine Wk.o ?_; (repeat revert hK K); exact h9)) : A := w h9
theorem Weeb5b {A B : Prop} (h9 : B) (w : B → A := by (intro h9; (repeat intro K hK); refine ⟨?_⟩; (repeat (first | (first | (with_reducible first | refine AX_block ?_ | refine AX_skip ?_ | refine AX_exit ?_ | refine AX_ret ?_ | refine AX_ift ?_ | refine AX_iff ?_ | refine AX_seq_k (fun K hK => ?_) | refine ContX.use (by assumption) ?_) | simp only [thenX, inBlockX, if_true, if_false, reduceCtorEq]) | (first | ((first | (with_reducible refine XRes_op tyOK ?_ ?_) | ((with_reducible first | refine ADF_op tyOK ?_ ?_ ?_ | refine ADX_op tyOK ?_ ?_ ?_); (focus rfl)) | (with_reducible refine ADR_alloc1 tyOK ?_ ?_) | ((with_reducible refine ADR_free1 tyOK ?_ ?_ ?_); (focus rfl)) | ((with_reducible refine ADR_free0 tyOK ?_ ?_ ?_); (focus rfl)) | ((with_reducible refine ADR_read1 tyOK ?_ ?_ ?_); (focus rfl)) | (with_reducible refine ADR_chg1 tyOK ?_ ?_)); (focus (first | (with_reducible rfl) | ((simp (disch := omega) only [go_sem]); done))); simp (disch := omega) only [go_sem , hs1, hs2, hs3, hs4, hs5, hs6, hs7, hs8, Int.toNat_zero, Int.toNat_one, List.length_nil, List.length_set, Nat.reduceLeDiff, Nat.reduceEqDiff]; (first | (with_reducible refine XRes_id ?_) | (with_reducible refine ADF_id ?_) | (with_reducible refine ADR_id1 ?_) | (with_reducible refine ADX_id ?_))) | ((first | (with_reducible refine XRes_skip ?_ ?_) | (with_reducible refine ADF_skip (b := true) ?_ ?_) | (with_reducible refine ADX_skip ?_ ?_) | ((with_reducible refine ADR_skip1 ?_ ?_ ?_); (focus rfl))); (focus (first | rfl | ((simp (disch := omega) only [go_sem]); done))); (simp only [putL, List.set_cons_succ, List.set_cons_zero]))) | ((first | (with_reducible refine XRes_nil ?_) | (with_reducible refine ADF_nil ?_) | (with_reducible refine ADR_nil ?_) | (with_reducible refine ADX_nil ?_)); (first | refine hK _ ?_ | refine hK _ _ ?_); clear hK K) | ((first | (with_reducible refine AX_reg0 fun K hK => ?_) | (refine AX_drawG1 tyOK (by kernel_rfl) (by rfl) (by kernel_rfl) fun K hK => ?_) | (refine AX_drawT tyOK (by kernel_rfl) (by decide +kernel) fun K hK => ?_) | (refine AX_drawM1 (by kernel_rfl) (by rfl) (by decide +kernel) fun K hK => ?_) | (refine AX_drawA tyOK (by kernel_rfl) (by decide +kernel) fun K hK => ?_)); (first | simp only [go_sem, preN, effOp, runF, alM, mapOp, alD2, kdOf2, Bool.not_false, Bool.not_true, reduceCtorEq] | simp only [go_sem, preN, effOp, runF, alM, mapOp, Bool.not_false, Bool.not_true, reduceCtorEq] | simp only [go_sem, preN, effOp, runF, alD2, kdOf2, Bool.not_false, Bool.not_true, reduceCtorEq] | simp only [go_sem, alD2, kdOf2, Bool.not_false, Bool.not_true, reduceCtorEq] | simp only [go_sem, preN, effOp, runF, Bool.not_false, Bool.not_true, reduceCtorEq] | simp only [go_sem])) | (first | (first | refine XTL (by rfl) hV ?_ | refine ATL tyOK (by rfl) hV ?_ | refine XTL (by rfl) hI ?_ | refine ATL tyOK (by rfl) hI ?_) | ((refine XRes_fn (by rfl) hC ?_); (rintro r H' ⟨rfl, rfl⟩); (simp only [putL, List.set_cons_succ, List.set_cons_zero]))) | (simp only [preN, effOp, runF, freeOp, roOp, alD, kdOf, isApp, List.any_cons, List.any_nil, List.take_succ_cons, List.take_zero, List.drop_succ_cons, List.drop_zero, Nat.reduceAdd, Bool.not_true, Bool.not_false, Bool.and_true, Bool.true_and, Bool.false_and, Bool.and_false, Bool.or_true, Bool.true_or, Bool.or_false, Bool.false_or, if_true, if_false, Bool.false_eq_true, reduceCtorEq, dsts, lapp_cons, lapp_nil, List.map_cons, List.map_nil, strip_mk, strip_gd, gix_some, List.getElem?_cons_succ, List.getElem?_cons_zero]) | (with_reducible refine XRes_nil ?_))); refine Wk.o ?_; (repeat revert hK K); exact h9)) : A := w h9
set_option maxRecDepth 100000 in
set_option maxHeartbeats 2000000 in
theorem pf_tbAdd0 {H : AHeap} (o : Nat) {x : Int} (hx : lvar x = 0) : SF Try.prog 61 [.optr o 0, lt (.int .i64 x)] H fun r H' => r = .tup [] ∧ H' = H := by
  have hs1 := trivial; have hs2 := trivial; have hs3 := trivial; have hs4 := trivial; have hs5 := trivial; have hs6 := trivial; have hs7 := trivial; have hs8 := trivial
  have hC := trivial; have hV := trivial; have hI := trivial
  have hI := pf_LIndex x
  have hi : lindex x = -1 := by unfold lindex; rw [if_pos hx]
  rw [hi] at hI
  (refine SF_of_bodyX (aload tt) (aload_ok tyOK) Try.func61 rfl (by kernel_rfl) ?_; simp only [Try.ntmps61, List.length_cons, List.length_nil, Nat.reduceAdd, Nat.reduceSub, List.replicate_succ, List.replicate_zero, List.cons_append, List.nil_append])
  (refine Wk.o ?_; (repeat revert hK K); refine Weeb5a ?_; (repeat intro K hK); refine ⟨?_⟩)
  (simp only [bodyX]; refine ⟨_, by simp only [aresults, aresult, XS.as, Try.results61, aload, go_sem, Option.bind_some]; rfl, ?_⟩)
  exact ⟨rfl, trivial⟩
set_option maxRecDepth 100000 in
set_option maxHeartbeats 2000000 in
theorem pf_tbAdd1 {bs : List Bool} {X : AHeap} {x : Int} {n : Nat} (hn : lindex x = (n : Int)) (hlt : n < bs.length) (hb : bs.length ≤ 1000000) : SF Try.prog 61 [.optr 0 0, lt (.int .i64 x)] (some ⟨141, [.osl 1 0 bs.length 1]⟩ :: some ⟨4, bs.map lb⟩ :: X) fun r H' => r = .tup [] ∧ H' = some ⟨141, [.osl 1 0 bs.length 1]⟩ :: some ⟨4, (bs.set n true).map lb⟩ :: X := by
  have hs1 := trivial; have hs2 := trivial; have hs3 := trivial; have hs4 := trivial; have hs5 := trivial; have hs6 := trivial; have hs7 := trivial; have hs8 := trivial
  have hC := trivial; have hV := trivial; have hI := trivial
  have hI := pf_LIndex x
  rw [hn] at hI
  (refine SF_of_bodyX (aload tt) (aload_ok tyOK) Try.func61 rfl (by kernel_rfl) ?_; simp only [Try.ntmps61, List.length_cons, List.length_nil, Nat.reduceAdd, Nat.reduceSub, List.replicate_succ, List.replicate_zero, List.cons_append, List.nil_append])
  (refine Wk.o ?_; (repeat revert hK K); refine Weeb5a ?_; (repeat intro K hK); refine ⟨?_⟩)
  (simp only [bodyX]; refine ⟨_, by simp only [aresults, aresult, XS.as, Try.results61, aload, go_sem, Option.bind_some]; rfl, ?_⟩)
  exact ⟨rfl, by first | rfl | trivial⟩
def tbGrow (bs : List Bool) (n : Nat) : List Bool := bs ++ List.replicate (n + 1 - bs.length) false
set_option maxRecDepth 100000 in
set_option maxHeartbeats 2000000 in
theorem pf_tbAdd2 {bs : List Bool} {x2 : Option AObj} {x : Int} {n : Nat} (hn : lindex x = (n : Int)) (hlt : bs.length ≤ n) (hb : n ≤ 1000000) : SF Try.prog 61 [.optr 0 0, lt (.int .i64 x)] [some ⟨141, [.osl 1 0 bs.length 1]⟩, some ⟨4, bs.map lb⟩, x2] fun r H' => r = .tup [] ∧ H' = [some ⟨141, [.osl 3 0 (n + 1) 1]⟩, none, x2, some ⟨4, ((tbGrow bs n).set n true).map lb⟩] := by
  have hs1 := trivial; have hs2 := trivial; have hs3 := trivial; have hs4 := trivial; have hs5 := trivial; have hs6 := trivial; have hs7 := trivial; have hs8 := trivial
  have hC := trivial; have hV := trivial; have hI := trivial
  have hI := pf_LIndex x
  rw [hn] at hI
  have hs1 : (((n + 1 : Nat) : Int) - (bs.length : Int)) = ((n + 1 - bs.length : Nat) : Int) := by omega
  have hs2 : bs.map lb ++ List.replicate (n + 1 - bs.length) (AV.iv (IV.lit (Value.bool false))) = (tbGrow bs n).map lb := by unfold tbGrow; rw [List.map_append, rep_lb]
  have hs3 : bs.length + (n + 1 - bs.length) = n + 1 := by omega
  have hln : (tbGrow bs n).length = n + 1 := by unfold tbGrow; simp; omega
  generalize hm : n + 1 - bs.length = m at *
  generalize tbGrow bs n = bs2 at *
  (refine SF_of_bodyX (aload tt) (aload_ok tyOK) Try.func61 rfl (by kernel_rfl) ?_; simp only [Try.ntmps61, List.length_cons, List.length_nil, Nat.reduceAdd, Nat.reduceSub, List.replicate_succ, List.replicate_zero, List.cons_append, List.nil_append])
  (refine Wk.o ?_; (repeat revert hK K); refine Weeb5b ?_; (repeat intro K hK); refine ⟨?_⟩)
  (simp only [bodyX]; refine ⟨_, by simp only [aresults, aresult, XS.as, Try.results61, aload, go_sem, Option.bind_some]; rfl, ?_⟩)
  exact ⟨rfl, by first | rfl | trivial⟩
set_option maxRecDepth 100000 in
set_option maxHeartbeats 2000000 in
theorem pf_tbAdd3 {bs : List Bool} {x2 x3 x4 x5 : Option AObj} {x : Int} {n : Nat} (hn : lindex x = (n : Int)) (hlt : bs.length ≤ n) (hb : n ≤ 1000000) : SF Try.prog 61 [.optr 0 0, lt (.int .i64 x)] [some ⟨141, [.osl 1 0 bs.length 1]⟩, some ⟨4, bs.map lb⟩, x2, x3, x4, x5] fun r H' => r = .tup [] ∧ H' = [some ⟨141, [.osl 6 0 (n + 1) 1]⟩, none, x2, x3, x4, x5, some ⟨4, ((tbGrow bs n).set n true).map lb⟩] := by
  have hs1 := trivial; have hs2 := trivial; have hs3 := trivial; have hs4 := trivial; have hs5 := trivial; have hs6 := trivial; have hs7 := trivial; have hs8 := trivial
  have hC := trivial; have hV := trivial; have hI := trivial
  have hI := pf_LIndex x
  rw [hn] at hI
  have hs1 : (((n + 1 : Nat) : Int) - (bs.length : Int)) = ((n + 1 - bs.length : Nat) : Int) := by omega
  have hs2 : bs.map lb ++ List.replicate (n + 1 - bs.length) (AV.iv (IV.lit (Value.bool false))) = (tbGrow bs n).map lb := by unfold tbGrow; rw [List.map_append, rep_lb]
  have hs3 : bs.length + (n + 1 - bs.length) = n + 1 := by omega
  have hln : (tbGrow bs n).length = n + 1 := by unfold tbGrow; simp; omega
  generalize hm : n + 1 - bs.length = m at *
  generalize tbGrow bs n = bs2 at *
  (refine SF_of_bodyX (aload tt) (aload_ok tyOK) Try.func61 rfl (by kernel_rfl) ?_; simp only [Try.ntmps61, List.length_cons, List.length_nil, Nat.reduceAdd, Nat.reduceSub, List.replicate_succ, List.replicate_zero, List.cons_append, List.nil_append])
  (refine Wk.o ?_; (repeat revert hK K); refine Weeb5b ?_; (repeat intro K hK); refine ⟨?_⟩)
  (simp only [bodyX]; refine ⟨_, by simp only [aresults, aresult, XS.as, Try.results61, aload, go_sem, Option.bind_some]; rfl, ?_⟩)
  exact ⟨rfl, by first | rfl | trivial⟩
end Go.Proofs.Ytcanlckenjndbaa
namespace Go.Proofs.Ytcanlckenjndbaa
open Go.RowKit
set_option linter.unusedVariables false
set_option linter.unusedSimpArgs false
theorem Rep.take_succ {bs : List Bool} {l : List Int} {k : Nat} (hlt : k < l.length) {z : Int} (hz : l.getD k 0 = z) (hr : Rep bs (l.take k)) (hv : lvar z = 0) : Rep bs (l.take (k + 1)) := by
  rw [take_snoc l k hlt, hz]; exact hr.skip hv
theorem Rep.take_add {bs : List Bool} {l : List Int} {k : Nat} (hlt : k < l.length) {z : Int} (hz : l.getD k 0 = z) (hr : Rep bs (l.take k)) {n : Nat} (hv : lvar z ≠ 0) (hn : lindex z = (n : Int)) (hb : n < bs.length) : Rep (bs.set n true) (l.take (k + 1)) := by
  rw [take_snoc l k hlt, hz]; exact hr.add hv hn hb
theorem Wc558a {A B : Prop} (h9 : B) (w : B → A := by (intro h9; (repeat intro K hK); refine ⟨?_⟩; (repeat (first | (first | (with_reducible first | refine AX_block ?_ | refine AX_skip ?_ | refine AX_exit ?_ | refine AX_ret ?_ | refine AX_ift ?_ | refine AX_iff ?_ | refine AX_seq_k (fun K hK => ?_) | refine ContX.use (by assumption) ?_) | simp only [thenX, inBlockX, if_true, if_false, reduceCtorEq]) | (first | ((first | (with_reducible refine XRes_op tyOK ?_ ?_) | ((with_reducible first | refine ADF_op tyOK ?_ ?_ ?_ | refine ADX_op tyOK ?_ ?_ ?_); (focus rfl)) | (with_reducible refine ADR_alloc1 tyOK ?_ ?_) | ((with_reducible refine ADR_free1 tyOK ?_ ?_ ?_); (focus rfl)) | ((with_reducible refine ADR_free0 tyOK ?_ ?_ ?_); (focus rfl)) | ((with_reducible refine ADR_read1 tyOK ?_ ?_ ?_); (focus rfl)) | (with_reducible refine ADR_chg1 tyOK ?_ ?_)); (focus (first | (with_reducible rfl) | ((simp (disch := omega) only [go_sem]); done))); simp (disch := omega) only [go_sem , hs1, hs2, hs3, hs4, hs5, hs6, hs7, hs8, Int.toNat_zero, Int.toNat_one, List.length_nil, rep_lb, List.length_set, List.length_replicate, Nat.reduceLeDiff]; (first | (with_reducible refine XRes_id ?_) | (with_reducible refine ADF_id ?_) | (with_reducible refine ADR_id1 ?_) | (with_reducible refine ADX_id ?_))) | ((first | (with_reducible refine XRes_skip ?_ ?_) | (with_reducible refine ADF_skip (b := true) ?_ ?_) | (with_reducible refine ADX_skip ?_ ?_) | ((with_reducible refine ADR_skip1 ?_ ?_ ?_); (focus rfl))); (focus (first | rfl | ((simp (disch := omega) only [go_sem]); done))); (simp only [putL, List.set_cons_succ, List.set_cons_zero]))) | ((first | (with_reducible refine XRes_nil ?_) | (with_reducible refine ADF_nil ?_) | (with_reducible refine ADR_nil ?_) | (with_reducible refine ADX_nil ?_)); (first | refine hK _ ?_ | refine hK _ _ ?_); clear hK K) | ((first | (with_reducible refine AX_reg0 fun K hK => ?_) | (refine AX_drawG1 tyOK (by kernel_rfl) (by rfl) (by kernel_rfl) fun K hK => ?_) | (refine AX_drawT tyOK (by kernel_rfl) (by decide +kernel) fun K hK => ?_) | (refine AX_drawM1 (by kernel_rfl) (by rfl) (by decide +kernel) fun K hK => ?_) | (refine AX_drawA tyOK (by kernel_rfl) (by decide +kernel) fun K hK => ?_)); (first | simp only [go_sem, preN, effOp, runF, alM, mapOp, alD2, kdOf2, Bool.not_false, Bool.not_true, reduceCtorEq] | simp only [go_sem, preN, effOp, runF, alM, mapOp, Bool.not_false, Bool.not_true, reduceCtorEq] | simp only [go_sem, preN, effOp, runF, alD2, kdOf2, Bool.not_false, Bool.not_true, reduceCtorEq] | simp only [go_sem, alD2, kdOf2, Bool.not_false, Bool.not_true, reduceCtorEq] | simp only [go_sem, preN, effOp, runF, Bool.not_false, Bool.not_true, reduceCtorEq] | simp only [go_sem])) | (first | (first | refine XTL (by rfl) hV ?_ | refine ATL tyOK (by rfl) hV ?_ | refine XTL (by rfl) hI ?_ | refine ATL tyOK (by rfl) hI ?_) | ((refine XRes_fn (by rfl) hC ?_); (rintro r H' ⟨rfl, rfl⟩); (simp only [putL, List.set_cons_succ, List.set_cons_zero]))))); refine Wk.o ?_; (repeat revert hK K); exact h9)) : A := w h9
set_option maxRecDepth 100000 in
set_option maxHeartbeats 2000000 in
theorem pf_tbOf (l : List Int) (hl : l.length ≤ 1000000) : PF Try.prog 59 [.iv (iInts l)] fun r H' => r = .optr 0 0 ∧ ∃ bs, Rep bs l ∧ bs.length ≤ 200000 ∧ H' = [some ⟨141, [.osl 1 0 bs.length 1]⟩, some ⟨4, bs.map lb⟩] := by
  have hs1 := trivial; have hs2 := trivial; have hs3 := trivial; have hs4 := trivial; have hs5 := trivial; have hs6 := trivial; have hs7 := trivial; have hs8 := trivial
  have hC := trivial; have hV := trivial; have hI := trivial
  have hV := pf_LMost l hl
  have hmb := lmost_bd l
  have hix := fun {x} (h : x ∈ l) (hv : lvar x ≠ 0) => most_index h hv
  obtain ⟨M, hM⟩ : ∃ M : Nat, lmost l = M := ⟨(lmost l).toNat, by omega⟩
  rw [hM] at hV hmb hix
  have hs1 : (2 : Int) * (M : Int) = ((2 * M : Nat) : Int) := by omega
  have hN : 2 * M ≤ 200000 := by omega
  have hpos : 0 < M → 0 < 2 * M := by omega
  rw [show ((2 : Int) * (M : Int)) = ((2 * M : Nat) : Int) by omega] at hix
  have hz0 : M = 0 → 2 * M = 0 := by omega
  generalize 2 * M = N at *
  by_cases h0 : 0 < M
  · have hp := hpos h0
    have hN0 := trivial
    have hNo := trivial
    (refine SF_of_bodyX (aload tt) (aload_ok tyOK) Try.func59 rfl (by kernel_rfl) ?_; simp only [Try.ntmps59, List.length_cons, List.length_nil, Nat.reduceAdd, Nat.reduceSub, List.replicate_succ, List.replicate_zero, List.cons_append, List.nil_append])
    unfold iInts
    (refine Wk.o ?_; (repeat revert hK K); refine Wc558a ?_; (repeat intro K hK); refine ⟨?_⟩)
    have hinit : (List.replicate N false).length = N := List.length_replicate
    refine AX_wh (σ := Nat × List Bool) [22, 23, 24, 6, 25, 26, 27, 28] (fun (k, bs) => [(21, lint k)]) (fun (k, bs) => [some ⟨141, [.osl 1 0 bs.length 1]⟩, some ⟨4, bs.map lb⟩]) (fun _ => []) (fun (k, bs) => k ≤ l.length ∧ bs.length = N ∧ Rep bs (l.take k)) (fun (k, bs) => l.length - k) (0, List.replicate N false) (fun d => by first | ((simp only [deadS, updS, List.set_cons_succ, List.set_cons_zero, lint, List.length_nil, List.length_cons]); done) | ((simp only [deadS, updS, List.set_cons_succ, List.set_cons_zero, lint, List.length_nil, List.length_cons]); rfl) | rfl) (by first | (simp only [hinit, hN0, List.map_replicate, List.replicate_zero]; done) | (simp only [hinit, hN0, List.map_replicate, List.replicate_zero]; rfl)) rfl ⟨Nat.zero_le _, hinit, Rep.zeros N⟩ ?_
    rintro ⟨k, bs⟩ d fr hfr ⟨hk, hbl, hrep⟩
    simp only [updS, deadS, List.set_cons_succ, List.set_cons_zero, lint] at hfr
    subst hfr
    (try dsimp only)
    by_cases hlt : k < l.length
    · have hIn : l.getD k 0 ∈ l := by simp [List.getD, hlt]
      generalize hz : l.getD k 0 = z at *
      have hs2 := hz
      by_cases hv : lvar z = 0
      · have hC := pf_tbAdd0 (H := [some ⟨141, [.osl 1 0 bs.length 1]⟩, some ⟨4, bs.map lb⟩]) 0 hv
        (refine Wk.o ?_; (repeat revert hK K); refine Wc558a ?_; (repeat intro K hK); refine ⟨?_⟩)
        exact whx_end (k + 1, bs) ⟨by omega, hbl, hrep.take_succ hlt hz hv⟩ (by (first | omega | (dsimp only; omega) | (simp only; omega))) rfl (by first | rfl | (simp (disch := omega) only [go_sem, lint , hs1, hs2, hs3, hs4, hs5, hs6, hs7, hs8, Int.toNat_zero, Int.toNat_one, List.length_nil, rep_lb, List.length_set, List.length_replicate, Nat.reduceLeDiff])) (fun d => by first | ((simp (disch := omega) only [go_sem, lint , hs1, hs2, hs3, hs4, hs5, hs6, hs7, hs8, Int.toNat_zero, Int.toNat_one, List.length_nil, rep_lb, List.length_set, List.length_replicate, Nat.reduceLeDiff]); done) | ((simp (disch := omega) only [go_sem, lint , hs1, hs2, hs3, hs4, hs5, hs6, hs7, hs8, Int.toNat_zero, Int.toNat_one, List.length_nil, rep_lb, List.length_set, List.length_replicate, Nat.reduceLeDiff]); rfl))
      · first
          | exact absurd (hNo _ hIn) hv
          | (obtain ⟨n, hn, _⟩ := lindex_nat hv
             have hnb := hix hIn hv
             have hlt2 : n < bs.length := by omega
             have hC := pf_tbAdd1 (X := []) hn hlt2 (by omega)
             have hI2 : k + 1 ≤ l.length ∧ (bs.set n true).length = N ∧ Rep (bs.set n true) (l.take (k + 1)) := ⟨by omega, by rw [List.length_set]; exact hbl, hrep.take_add hlt hz hv hn hlt2⟩
             (refine Wk.o ?_; (repeat revert hK K); refine Wc558a ?_; (repeat intro K hK); refine ⟨?_⟩)
             exact whx_end (k + 1, bs.set n true) hI2 (by (first | omega | (dsimp only; omega) | (simp only; omega))) rfl (by first | rfl | (simp (disch := omega) only [go_sem, lint , hs1, hs2, hs3, hs4, hs5, hs6, hs7, hs8, Int.toNat_zero, Int.toNat_one, List.length_nil, rep_lb, List.length_set, List.length_replicate, Nat.reduceLeDiff])) (fun d => by first | ((simp (disch := omega) only [go_sem, lint , hs1, hs2, hs3, hs4, hs5, hs6, hs7, hs8, Int.toNat_zero, Int.toNat_one, List.length_nil, rep_lb, List.length_set, List.length_replicate, Nat.reduceLeDiff]); done) | ((simp (disch := omega) only [go_sem, lint , hs1, hs2, hs3, hs4, hs5, hs6, hs7, hs8, Int.toNat_zero, Int.toNat_one, List.length_nil, rep_lb, List.length_set, List.length_replicate, Nat.reduceLeDiff]); rfl)))
    · obtain rfl : k = l.length := by omega
      rw [take_at_end] at hrep
      (refine Wk.o ?_; (repeat revert hK K); refine Wc558a ?_; (repeat intro K hK); refine ⟨?_⟩)
      (simp only [bodyX]; refine ⟨_, by simp only [aresults, aresult, XS.as, Try.results59, aload, go_sem, Option.bind_some]; rfl, ?_⟩)
      exact ⟨rfl, bs, hrep, by omega, rfl⟩
  · obtain rfl : M = 0 := by omega
    have hN0 := hz0 rfl
    have hNo : ∀ x ∈ l, lvar x = 0 := fun x hx => by
      have h1 := most_ge hx
      have h2 := lvar_bd x
      omega
    (refine SF_of_bodyX (aload tt) (aload_ok tyOK) Try.func59 rfl (by kernel_rfl) ?_; simp only [Try.ntmps59, List.length_cons, List.length_nil, Nat.reduceAdd, Nat.reduceSub, List.replicate_succ, List.replicate_zero, List.cons_append, List.nil_append])
    unfold iInts
    (refine Wk.o ?_; (repeat revert hK K); refine Wc558a ?_; (repeat intro K hK); refine ⟨?_⟩)
    refine AX_cellNew 0 4 1 0 ⟨141, [lt (.slice none 0 0)]⟩ rfl rfl ?_
    have hinit : (List.replicate N false).length = N := List.length_replicate
    refine AX_wh (σ := Nat × List Bool) [22, 23, 24, 6, 25, 26, 27, 28] (fun (k, bs) => [(21, lint k)]) (fun (k, bs) => [some ⟨141, [.osl 1 0 bs.length 1]⟩, some ⟨4, bs.map lb⟩]) (fun _ => []) (fun (k, bs) => k ≤ l.length ∧ bs.length = N ∧ Rep bs (l.take k)) (fun (k, bs) => l.length - k) (0, List.replicate N false) (fun d => by first | ((simp only [deadS, updS, List.set_cons_succ, List.set_cons_zero, lint, List.length_nil, List.length_cons]); done) | ((simp only [deadS, updS, List.set_cons_succ, List.set_cons_zero, lint, List.length_nil, List.length_cons]); rfl) | rfl) (by first | (simp only [hinit, hN0, List.map_replicate, List.replicate_zero]; done) | (simp only [hinit, hN0, List.map_replicate, List.replicate_zero]; rfl)) rfl ⟨Nat.zero_le _, hinit, Rep.zeros N⟩ ?_
    rintro ⟨k, bs⟩ d fr hfr ⟨hk, hbl, hrep⟩
    simp only [updS, deadS, List.set_cons_succ, List.set_cons_zero, lint] at hfr
    subst hfr
    (try dsimp only)
    by_cases hlt : k < l.length
    · have hIn : l.getD k 0 ∈ l := by simp [List.getD, hlt]
      generalize hz : l.getD k 0 = z at *
      have hs2 := hz
      by_cases hv : lvar z = 0
      · have hC := pf_tbAdd0 (H := [some ⟨141, [.osl 1 0 bs.length 1]⟩, some ⟨4, bs.map lb⟩]) 0 hv
        (refine Wk.o ?_; (repeat revert hK K); refine Wc558a ?_; (repeat intro K hK); refine ⟨?_⟩)
        exact whx_end (k + 1, bs) ⟨by omega, hbl, hrep.take_succ hlt hz hv⟩ (by (first | omega | (dsimp only; omega) | (simp only; omega))) rfl (by first | rfl | (simp (disch := omega) only [go_sem, lint , hs1, hs2, hs3, hs4, hs5, hs6, hs7, hs8, Int.toNat_zero, Int.toNat_one, List.length_nil, rep_lb, List.length_set, List.length_replicate, Nat.reduceLeDiff])) (fun d => by first | ((simp (disch := omega) only [go_sem, lint , hs1, hs2, hs3, hs4, hs5, hs6, hs7, hs8, Int.toNat_zero, Int.toNat_one, List.length_nil, rep_lb, List.length_set, List.length_replicate, Nat.reduceLeDiff]); done) | ((simp (disch := omega) only [go_sem, lint , hs1, hs2, hs3, hs4, hs5, hs6, hs7, hs8, Int.toNat_zero, Int.toNat_one, List.length_nil, rep_lb, List.length_set, List.length_replicate, Nat.reduceLeDiff]); rfl))
      · first
          | exact absurd (hNo _ hIn) hv
          | (obtain ⟨n, hn, _⟩ := lindex_nat hv
             have hnb := hix hIn hv
             have hlt2 : n < bs.length := by omega
             have hC := pf_tbAdd1 (X := []) hn hlt2 (by omega)
             have hI2 : k + 1 ≤ l.length ∧ (bs.set n true).length = N ∧ Rep (bs.set n true) (l.take (k + 1)) := ⟨by omega, by rw [List.length_set]; exact hbl, hrep.take_add hlt hz hv hn hlt2⟩
             (refine Wk.o ?_; (repeat revert hK K); refine Wc558a ?_; (repeat intro K hK); refine ⟨?_⟩)
             exact whx_end (k + 1, bs.set n true) hI2 (by (first | omega | (dsimp only; omega) | (simp only; omega))) rfl (by first | rfl | (simp (disch := omega) only [go_sem, lint , hs1, hs2, hs3, hs4, hs5, hs6, hs7, hs8, Int.toNat_zero, Int.toNat_one, List.length_nil, rep_lb, List.length_set, List.length_replicate, Nat.reduceLeDiff])) (fun d => by first | ((simp (disch := omega) only [go_sem, lint , hs1, hs2, hs3, hs4, hs5, hs6, hs7, hs8, Int.toNat_zero, Int.toNat_one, List.length_nil, rep_lb, List.length_set, List.length_replicate, Nat.reduceLeDiff]); done) | ((simp (disch := omega) only [go_sem, lint , hs1, hs2, hs3, hs4, hs5, hs6, hs7, hs8, Int.toNat_zero, Int.toNat_one, List.length_nil, rep_lb, List.length_set, List.length_replicate, Nat.reduceLeDiff]); rfl)))
    · obtain rfl : k = l.length := by omega
      rw [take_at_end] at hrep
      (refine Wk.o ?_; (repeat revert hK K); refine Wc558a ?_; (repeat intro K hK); refine ⟨?_⟩)
      (simp only [bodyX]; refine ⟨_, by simp only [aresults, aresult, XS.as, Try.results59, aload, go_sem, Option.bind_some]; rfl, ?_⟩)
      exact ⟨rfl, bs, hrep, by omega, rfl⟩
end Go.Proofs.Ytcanlckenjndbaa
