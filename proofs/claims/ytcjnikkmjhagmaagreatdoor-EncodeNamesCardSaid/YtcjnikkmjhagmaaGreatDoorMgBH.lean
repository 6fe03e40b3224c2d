import Derived.Test.YtcjnikkmjhagmaaGreatDoorMgBG
import Derived.Test.YtcjnikkmjhagmaaGreatDoorMgAP
namespace Go.Proofs.YtcjnikkmjhagmaaGreatDoor
open Go.RowKit
set_option linter.unusedVariables false
set_option linter.unusedSimpArgs false
theorem cAll_lim (n m : Int) (l : List Op5) : 0 ≤ cAll n m l ∧ cAll n m l ≤ 400000000 := by
  have l1 := qP_lim n m
  have l2 := qT_lim n m (prN l)
  have l3 := qS_lim n m
  have l4 := qM_lim n m (enN l)
  unfold cAll; split <;> omega
def cFits (n m : Int) (l : List Op5) : Int := if cAll n m l = 0 then 2 else if 500000 < cAll n m l ∨ 900 < nVars n m then 3 else 0
theorem Wec42a {A B : Prop} (h9 : B) (w : B → A := by (intro h9; (repeat intro K hK); refine ⟨?_⟩; (repeat (first | (first | (with_reducible first | refine AX_block ?_ | refine AX_skip ?_ | refine AX_exit ?_ | refine AX_ret ?_ | refine AX_ift ?_ | refine AX_iff ?_ | refine AX_seq_k (fun K hK => ?_) | refine ContX.use (by assumption) ?_) | simp only [thenX, inBlockX, if_true, if_false, reduceCtorEq]) | (first | ((with_reducible refine XOP tyOK ?_); simp (disch := omega) only [go_sem , iOps, iFlat, iInts, eqRes, Int.toNat_zero, Int.toNat_one, hs1, hs2, hs3, rows_one, rows_take, List.length_nil]; (with_reducible refine XRes_id ?_)) | (with_reducible refine XSK ?_)) | ((with_reducible refine XRes_nil ?_); refine hK _ ?_; clear hK K) | ((with_reducible refine AX_reg0 fun K hK => ?_); simp only [go_sem]) | (first | (first | refine XTL (by rfl) hA ?_ | refine XTL (by rfl) hV ?_)))); refine Wk.o ?_; (repeat revert hK K); exact h9)) : A := w h9
set_option maxRecDepth 100000 in
set_option maxHeartbeats 1000000 in
theorem pf_cFits (n m : Int) (l : List Op5) (hl : l.length ≤ 100) (hs : okS l) : PF Tryz.prog 67 [szA n m, .iv (iOps l)] fun r H' => r = lt (.int .i64 (cFits n m l)) ∧ H' = [] := by
  refine SF.forgetAll ?_
  have hs1 := trivial; have hs2 := trivial; have hs3 := trivial
  have hA := pf_cAll n m l hl hs
  have hV := pf_nVars n m
  have hb := cAll_lim n m l
  unfold cFits
  generalize cAll n m l = A at *
  generalize nVars n m = V at *
  by_cases h1 : A = 0
  · rw [if_pos h1]
    (refine SF_of_bodyX (aload tt) (aload_ok tyOK) Tryz.func67 rfl (by kernel_rfl) ?_; simp only [Tryz.ntmps67, List.length_cons, List.length_nil, Nat.reduceAdd, Nat.reduceSub, List.replicate_succ, List.replicate_zero, List.cons_append, List.nil_append])
    (refine Wk.o ?_; (repeat revert hK K); refine Wec42a ?_; (repeat intro K hK); refine ⟨?_⟩)
    (simp only [bodyX]; refine ⟨_, by simp only [aresults, aresult, XS.as, Tryz.results67, aload, go_sem, Option.bind_some]; rfl, ?_⟩)
    exact ⟨.iv _, rfl, trivial⟩
  · rw [if_neg h1]
    by_cases h2 : 500000 < A
    · rw [if_pos (.inl h2)]
      (refine SF_of_bodyX (aload tt) (aload_ok tyOK) Tryz.func67 rfl (by kernel_rfl) ?_; simp only [Tryz.ntmps67, List.length_cons, List.length_nil, Nat.reduceAdd, Nat.reduceSub, List.replicate_succ, List.replicate_zero, List.cons_append, List.nil_append])
      (refine Wk.o ?_; (repeat revert hK K); refine Wec42a ?_; (repeat intro K hK); refine ⟨?_⟩)
      (simp only [bodyX]; refine ⟨_, by simp only [aresults, aresult, XS.as, Tryz.results67, aload, go_sem, Option.bind_some]; rfl, ?_⟩)
      exact ⟨.iv _, rfl, trivial⟩
    · by_cases h3 : 900 < V
      · rw [if_pos (.inr h3)]
        (refine SF_of_bodyX (aload tt) (aload_ok tyOK) Tryz.func67 rfl (by kernel_rfl) ?_; simp only [Tryz.ntmps67, List.length_cons, List.length_nil, Nat.reduceAdd, Nat.reduceSub, List.replicate_succ, List.replicate_zero, List.cons_append, List.nil_append])
        (refine Wk.o ?_; (repeat revert hK K); refine Wec42a ?_; (repeat intro K hK); refine ⟨?_⟩)
        (simp only [bodyX]; refine ⟨_, by simp only [aresults, aresult, XS.as, Tryz.results67, aload, go_sem, Option.bind_some]; rfl, ?_⟩)
        exact ⟨.iv _, rfl, trivial⟩
      · rw [if_neg (by omega)]
        (refine SF_of_bodyX (aload tt) (aload_ok tyOK) Tryz.func67 rfl (by kernel_rfl) ?_; simp only [Tryz.ntmps67, List.length_cons, List.length_nil, Nat.reduceAdd, Nat.reduceSub, List.replicate_succ, List.replicate_zero, List.cons_append, List.nil_append])
        (refine Wk.o ?_; (repeat revert hK K); refine Wec42a ?_; (repeat intro K hK); refine ⟨?_⟩)
        (simp only [bodyX]; refine ⟨_, by simp only [aresults, aresult, XS.as, Tryz.results67, aload, go_sem, Option.bind_some]; rfl, ?_⟩)
        exact ⟨.iv _, rfl, trivial⟩
end Go.Proofs.YtcjnikkmjhagmaaGreatDoor
namespace Go.Proofs.YtcjnikkmjhagmaaGreatDoor
open Go.RowKit
set_option linter.unusedVariables false
set_option linter.unusedSimpArgs false
theorem mOk_pos {o : Ob} {l : List Op5} : (mN o l = 0 ∧ mS o l = 0) ↔ ¬ mOk o l := by
  by_cases h : mOk o l
  · rw [(m_yes h).1, (m_yes h).2]
    have h1 := h.1
    have h2 := (obE_zero.1 h1).1
    unfold obHead at h2
    exact ⟨fun e => by omega, fun e => absurd h e⟩
  · exact ⟨fun _ => h, fun _ => m_no h⟩
instance (o : Ob) (l : List Op5) : Decidable (mOk o l) := by unfold mOk; infer_instance
def eE (o : Ob) (l : List Op5) : Int := if ¬ mOk o l then 2 else if 64 < l.length then 3 else cFits (mN o l) (mS o l) l
set_option maxRecDepth 100000 in
set_option maxHeartbeats 2000000 in
theorem pf_eFits (o : Ob) (l : List Op5) (hr : o.R.length ≤ 100000) (ho : o.Ok) (hl : l.length ≤ 100000) (hs : okS l) : PF Tryz.prog 24 [obA o, .iv (iOps l)] fun r H' => r = .tup [szA (mN o l) (mS o l), lt (.int .i64 (eE o l))] ∧ H' = [] := by
  refine SF.forgetAll ?_
  have hs1 := trivial; have hs2 := trivial; have hs3 := trivial
  have hZ := pf_mSize o l hr ho hl hs
  have hm := mOk_pos (o := o) (l := l)
  have hF : l.length ≤ 64 → _ := fun h => pf_cFits (mN o l) (mS o l) l (by omega) hs
  have hee : eE o l = if ¬ mOk o l then 2 else if 64 < l.length then 3 else cFits (mN o l) (mS o l) l := rfl
  generalize cFits (mN o l) (mS o l) l = F at *
  generalize eE o l = E at *
  generalize mN o l = N at *
  generalize mS o l = S at *
  generalize hb : decide (¬ mOk o l) = b at *
  have hq : ([N, S] == [0, 0]) = b := by
    rw [← hb]
    by_cases h : mOk o l
    · rw [decide_eq_false (fun hh => hh h)]
      simp only [List.cons_beq_cons, beq_eq_false_iff_ne, Bool.and_eq_false_iff]
      by_cases h1 : N = 0
      · right; left; intro h2; exact hm.1 ⟨h1, h2⟩ h
      · left; exact h1
    · obtain ⟨rfl, rfl⟩ := hm.2 h
      rw [decide_eq_true h]; rfl
  by_cases h : mOk o l
  · obtain rfl : b = false := by rw [← hb]; exact decide_eq_false (fun hh => hh h)
    rw [if_neg (fun hh => hh h)] at hee
    by_cases h1 : 64 < l.length
    · rw [if_pos h1] at hee
      rw [hee]
      have hF := trivial
      (refine SF_of_bodyX (aload tt) (aload_ok tyOK) Tryz.func24 rfl (by kernel_rfl) ?_; simp only [Tryz.ntmps24, List.length_cons, List.length_nil, Nat.reduceAdd, Nat.reduceSub, List.replicate_succ, List.replicate_zero, List.cons_append, List.nil_append])
      repeat (first | (first | (with_reducible first | refine AX_block ?_ | refine AX_skip ?_ | refine AX_exit ?_ | refine AX_ret ?_ | refine AX_ift ?_ | refine AX_iff ?_ | refine AX_seq_k (fun K hK => ?_) | refine ContX.use (by assumption) ?_) | simp only [thenX, inBlockX, if_true, if_false, reduceCtorEq]) | (first | ((first | (with_reducible refine XRes_op tyOK ?_ ?_) | ((with_reducible first | refine ADF_op tyOK ?_ ?_ ?_ | refine ADX_op tyOK ?_ ?_ ?_); (focus rfl)) | (with_reducible refine ADR_alloc1 tyOK ?_ ?_) | ((with_reducible refine ADR_free1 tyOK ?_ ?_ ?_); (focus rfl)) | ((with_reducible refine ADR_free0 tyOK ?_ ?_ ?_); (focus rfl)) | ((with_reducible refine ADR_read1 tyOK ?_ ?_ ?_); (focus rfl)) | (with_reducible refine ADR_chg1 tyOK ?_ ?_)); (focus (first | (with_reducible rfl) | ((simp (disch := omega) only [go_sem]); done))); simp (disch := omega) only [go_sem , iOps, iFlat, iInts, eqRes, szA, Int.toNat_zero, Int.toNat_one, hs1, hs2, hs3, List.length_nil]; (first | (with_reducible refine XRes_id ?_) | (with_reducible refine ADF_id ?_) | (with_reducible refine ADR_id1 ?_) | (with_reducible refine ADX_id ?_))) | ((first | (with_reducible refine XRes_skip ?_ ?_) | (with_reducible refine ADF_skip (b := true) ?_ ?_) | (with_reducible refine ADX_skip ?_ ?_) | ((with_reducible refine ADR_skip1 ?_ ?_ ?_); (focus rfl))); (focus (first | rfl | ((simp (disch := omega) only [go_sem]); done))); (simp only [putL, List.set_cons_succ, List.set_cons_zero]))) | ((first | (with_reducible refine XRes_nil ?_) | (with_reducible refine ADF_nil ?_) | (with_reducible refine ADR_nil ?_) | (with_reducible refine ADX_nil ?_)); (first | refine hK _ ?_ | refine hK _ _ ?_); clear hK K) | ((first | (with_reducible refine AX_reg0 fun K hK => ?_) | (refine AX_drawG1 tyOK (by kernel_rfl) (by rfl) (by kernel_rfl) fun K hK => ?_) | (refine AX_drawT tyOK (by kernel_rfl) (by decide +kernel) fun K hK => ?_) | (refine AX_drawM1 (by kernel_rfl) (by rfl) (by decide +kernel) fun K hK => ?_) | (refine AX_drawA tyOK (by kernel_rfl) (by decide +kernel) fun K hK => ?_)); (first | simp only [go_sem, preN, effOp, runF, alM, mapOp, alD2, kdOf2, Bool.not_false, Bool.not_true, reduceCtorEq] | simp only [go_sem, preN, effOp, runF, alM, mapOp, Bool.not_false, Bool.not_true, reduceCtorEq] | simp only [go_sem, preN, effOp, runF, alD2, kdOf2, Bool.not_false, Bool.not_true, reduceCtorEq] | simp only [go_sem, alD2, kdOf2, Bool.not_false, Bool.not_true, reduceCtorEq] | simp only [go_sem, preN, effOp, runF, Bool.not_false, Bool.not_true, reduceCtorEq] | simp only [go_sem])) | ((first | (refine XRes_eqB (us := [_, _]) (vs2 := [_, _]) _ rfl (by first | exact .inl rfl | exact .inr rfl) rfl rfl rfl rfl (by kernel_rfl) hq ?_)); (simp only [putL, List.set_cons_succ, List.set_cons_zero])) | (first | (first | refine XTL (by rfl) hZ ?_ | refine ATL tyOK (by rfl) hZ ?_) | ((refine ADR_tellF (by rfl) hF ?_ (fun _ => rfl) ?_); (focus exact idsA (by rfl)); (simp only [putL, List.set_cons_succ, List.set_cons_zero])) | (first | refine XTL (by rfl) hF ?_ | refine ATL tyOK (by rfl) hF ?_)) | (simp only [preN, effOp, runF, freeOp, roOp, alD, kdOf, isApp, List.any_cons, List.any_nil, List.take_succ_cons, List.take_zero, List.drop_succ_cons, List.drop_zero, Nat.reduceAdd, Bool.not_true, Bool.not_false, Bool.and_true, Bool.true_and, Bool.false_and, Bool.and_false, Bool.or_true, Bool.true_or, Bool.or_false, Bool.false_or, if_true, if_false, Bool.false_eq_true, reduceCtorEq, dsts, lapp_cons, lapp_nil, List.map_cons, List.map_nil, strip_mk, strip_gd, gix_some, List.getElem?_cons_succ, List.getElem?_cons_zero]) | (with_reducible refine XRes_nil ?_))
      (simp only [bodyX]; refine ⟨_, by simp only [aresults, aresult, XS.as, Tryz.results24, aload, go_sem, Option.bind_some]; rfl, ?_⟩)
      first | exact ⟨ids_idB rfl, rfl, trivial⟩ | exact ⟨ids_idB rfl, rfl⟩
    · rw [if_neg h1] at hee
      rw [hee]
      have hF := hF (by omega)
      (refine SF_of_bodyX (aload tt) (aload_ok tyOK) Tryz.func24 rfl (by kernel_rfl) ?_; simp only [Tryz.ntmps24, List.length_cons, List.length_nil, Nat.reduceAdd, Nat.reduceSub, List.replicate_succ, List.replicate_zero, List.cons_append, List.nil_append])
      repeat (first | (first | (with_reducible first | refine AX_block ?_ | refine AX_skip ?_ | refine AX_exit ?_ | refine AX_ret ?_ | refine AX_ift ?_ | refine AX_iff ?_ | refine AX_seq_k (fun K hK => ?_) | refine ContX.use (by assumption) ?_) | simp only [thenX, inBlockX, if_true, if_false, reduceCtorEq]) | (first | ((first | (with_reducible refine XRes_op tyOK ?_ ?_) | ((with_reducible first | refine ADF_op tyOK ?_ ?_ ?_ | refine ADX_op tyOK ?_ ?_ ?_); (focus rfl)) | (with_reducible refine ADR_alloc1 tyOK ?_ ?_) | ((with_reducible refine ADR_free1 tyOK ?_ ?_ ?_); (focus rfl)) | ((with_reducible refine ADR_free0 tyOK ?_ ?_ ?_); (focus rfl)) | ((with_reducible refine ADR_read1 tyOK ?_ ?_ ?_); (focus rfl)) | (with_reducible refine ADR_chg1 tyOK ?_ ?_)); (focus (first | (with_reducible rfl) | ((simp (disch := omega) only [go_sem]); done))); simp (disch := omega) only [go_sem , iOps, iFlat, iInts, eqRes, szA, Int.toNat_zero, Int.toNat_one, hs1, hs2, hs3, List.length_nil]; (first | (with_reducible refine XRes_id ?_) | (with_reducible refine ADF_id ?_) | (with_reducible refine ADR_id1 ?_) | (with_reducible refine ADX_id ?_))) | ((first | (with_reducible refine XRes_skip ?_ ?_) | (with_reducible refine ADF_skip (b := true) ?_ ?_) | (with_reducible refine ADX_skip ?_ ?_) | ((with_reducible refine ADR_skip1 ?_ ?_ ?_); (focus rfl))); (focus (first | rfl | ((simp (disch := omega) only [go_sem]); done))); (simp only [putL, List.set_cons_succ, List.set_cons_zero]))) | ((first | (with_reducible refine XRes_nil ?_) | (with_reducible refine ADF_nil ?_) | (with_reducible refine ADR_nil ?_) | (with_reducible refine ADX_nil ?_)); (first | refine hK _ ?_ | refine hK _ _ ?_); clear hK K) | ((first | (with_reducible refine AX_reg0 fun K hK => ?_) | (refine AX_drawG1 tyOK (by kernel_rfl) (by rfl) (by kernel_rfl) fun K hK => ?_) | (refine AX_drawT tyOK (by kernel_rfl) (by decide +kernel) fun K hK => ?_) | (refine AX_drawM1 (by kernel_rfl) (by rfl) (by decide +kernel) fun K hK => ?_) | (refine AX_drawA tyOK (by kernel_rfl) (by decide +kernel) fun K hK => ?_)); (first | simp only [go_sem, preN, effOp, runF, alM, mapOp, alD2, kdOf2, Bool.not_false, Bool.not_true, reduceCtorEq] | simp only [go_sem, preN, effOp, runF, alM, mapOp, Bool.not_false, Bool.not_true, reduceCtorEq] | simp only [go_sem, preN, effOp, runF, alD2, kdOf2, Bool.not_false, Bool.not_true, reduceCtorEq] | simp only [go_sem, alD2, kdOf2, Bool.not_false, Bool.not_true, reduceCtorEq] | simp only [go_sem, preN, effOp, runF, Bool.not_false, Bool.not_true, reduceCtorEq] | simp only [go_sem])) | ((first | (refine XRes_eqB (us := [_, _]) (vs2 := [_, _]) _ rfl (by first | exact .inl rfl | exact .inr rfl) rfl rfl rfl rfl (by kernel_rfl) hq ?_)); (simp only [putL, List.set_cons_succ, List.set_cons_zero])) | (first | (first | refine XTL (by rfl) hZ ?_ | refine ATL tyOK (by rfl) hZ ?_) | ((refine ADR_tellF (by rfl) hF ?_ (fun _ => rfl) ?_); (focus exact idsA (by rfl)); (simp only [putL, List.set_cons_succ, List.set_cons_zero])) | (first | refine XTL (by rfl) hF ?_ | refine ATL tyOK (by rfl) hF ?_)) | (simp only [preN, effOp, runF, freeOp, roOp, alD, kdOf, isApp, List.any_cons, List.any_nil, List.take_succ_cons, List.take_zero, List.drop_succ_cons, List.drop_zero, Nat.reduceAdd, Bool.not_true, Bool.not_false, Bool.and_true, Bool.true_and, Bool.false_and, Bool.and_false, Bool.or_true, Bool.true_or, Bool.or_false, Bool.false_or, if_true, if_false, Bool.false_eq_true, reduceCtorEq, dsts, lapp_cons, lapp_nil, List.map_cons, List.map_nil, strip_mk, strip_gd, gix_some, List.getElem?_cons_succ, List.getElem?_cons_zero]) | (with_reducible refine XRes_nil ?_))
      (simp only [bodyX]; refine ⟨_, by simp only [aresults, aresult, XS.as, Tryz.results24, aload, go_sem, Option.bind_some]; rfl, ?_⟩)
      first | exact ⟨ids_idB rfl, rfl, trivial⟩ | exact ⟨ids_idB rfl, rfl⟩
  · obtain rfl : b = true := by rw [← hb]; exact decide_eq_true h
    rw [if_pos h] at hee
    rw [hee]
    have hF := trivial
    (refine SF_of_bodyX (aload tt) (aload_ok tyOK) Tryz.func24 rfl (by kernel_rfl) ?_; simp only [Tryz.ntmps24, List.length_cons, List.length_nil, Nat.reduceAdd, Nat.reduceSub, List.replicate_succ, List.replicate_zero, List.cons_append, List.nil_append])
    repeat (first | (first | (with_reducible first | refine AX_block ?_ | refine AX_skip ?_ | refine AX_exit ?_ | refine AX_ret ?_ | refine AX_ift ?_ | refine AX_iff ?_ | refine AX_seq_k (fun K hK => ?_) | refine ContX.use (by assumption) ?_) | simp only [thenX, inBlockX, if_true, if_false, reduceCtorEq]) | (first | ((first | (with_reducible refine XRes_op tyOK ?_ ?_) | ((with_reducible first | refine ADF_op tyOK ?_ ?_ ?_ | refine ADX_op tyOK ?_ ?_ ?_); (focus rfl)) | (with_reducible refine ADR_alloc1 tyOK ?_ ?_) | ((with_reducible refine ADR_free1 tyOK ?_ ?_ ?_); (focus rfl)) | ((with_reducible refine ADR_free0 tyOK ?_ ?_ ?_); (focus rfl)) | ((with_reducible refine ADR_read1 tyOK ?_ ?_ ?_); (focus rfl)) | (with_reducible refine ADR_chg1 tyOK ?_ ?_)); (focus (first | (with_reducible rfl) | ((simp (disch := omega) only [go_sem]); done))); simp (disch := omega) only [go_sem , iOps, iFlat, iInts, eqRes, szA, Int.toNat_zero, Int.toNat_one, hs1, hs2, hs3, List.length_nil]; (first | (with_reducible refine XRes_id ?_) | (with_reducible refine ADF_id ?_) | (with_reducible refine ADR_id1 ?_) | (with_reducible refine ADX_id ?_))) | ((first | (with_reducible refine XRes_skip ?_ ?_) | (with_reducible refine ADF_skip (b := true) ?_ ?_) | (with_reducible refine ADX_skip ?_ ?_) | ((with_reducible refine ADR_skip1 ?_ ?_ ?_); (focus rfl))); (focus (first | rfl | ((simp (disch := omega) only [go_sem]); done))); (simp only [putL, List.set_cons_succ, List.set_cons_zero]))) | ((first | (with_reducible refine XRes_nil ?_) | (with_reducible refine ADF_nil ?_) | (with_reducible refine ADR_nil ?_) | (with_reducible refine ADX_nil ?_)); (first | refine hK _ ?_ | refine hK _ _ ?_); clear hK K) | ((first | (with_reducible refine AX_reg0 fun K hK => ?_) | (refine AX_drawG1 tyOK (by kernel_rfl) (by rfl) (by kernel_rfl) fun K hK => ?_) | (refine AX_drawT tyOK (by kernel_rfl) (by decide +kernel) fun K hK => ?_) | (refine AX_drawM1 (by kernel_rfl) (by rfl) (by decide +kernel) fun K hK => ?_) | (refine AX_drawA tyOK (by kernel_rfl) (by decide +kernel) fun K hK => ?_)); (first | simp only [go_sem, preN, effOp, runF, alM, mapOp, alD2, kdOf2, Bool.not_false, Bool.not_true, reduceCtorEq] | simp only [go_sem, preN, effOp, runF, alM, mapOp, Bool.not_false, Bool.not_true, reduceCtorEq] | simp only [go_sem, preN, effOp, runF, alD2, kdOf2, Bool.not_false, Bool.not_true, reduceCtorEq] | simp only [go_sem, alD2, kdOf2, Bool.not_false, Bool.not_true, reduceCtorEq] | simp only [go_sem, preN, effOp, runF, Bool.not_false, Bool.not_true, reduceCtorEq] | simp only [go_sem])) | ((first | (refine XRes_eqB (us := [_, _]) (vs2 := [_, _]) _ rfl (by first | exact .inl rfl | exact .inr rfl) rfl rfl rfl rfl (by kernel_rfl) hq ?_)); (simp only [putL, List.set_cons_succ, List.set_cons_zero])) | (first | (first | refine XTL (by rfl) hZ ?_ | refine ATL tyOK (by rfl) hZ ?_) | ((refine ADR_tellF (by rfl) hF ?_ (fun _ => rfl) ?_); (focus exact idsA (by rfl)); (simp only [putL, List.set_cons_succ, List.set_cons_zero])) | (first | refine XTL (by rfl) hF ?_ | refine ATL tyOK (by rfl) hF ?_)) | (simp only [preN, effOp, runF, freeOp, roOp, alD, kdOf, isApp, List.any_cons, List.any_nil, List.take_succ_cons, List.take_zero, List.drop_succ_cons, List.drop_zero, Nat.reduceAdd, Bool.not_true, Bool.not_false, Bool.and_true, Bool.true_and, Bool.false_and, Bool.and_false, Bool.or_true, Bool.true_or, Bool.or_false, Bool.false_or, if_true, if_false, Bool.false_eq_true, reduceCtorEq, dsts, lapp_cons, lapp_nil, List.map_cons, List.map_nil, strip_mk, strip_gd, gix_some, List.getElem?_cons_succ, List.getElem?_cons_zero]) | (with_reducible refine XRes_nil ?_))
    (simp only [bodyX]; refine ⟨_, by simp only [aresults, aresult, XS.as, Tryz.results24, aload, go_sem, Option.bind_some]; rfl, ?_⟩)
    first | exact ⟨ids_idB rfl, rfl, trivial⟩ | exact ⟨ids_idB rfl, rfl⟩
end Go.Proofs.YtcjnikkmjhagmaaGreatDoor
namespace Go.Proofs.YtcjnikkmjhagmaaGreatDoor
open Go.RowKit
set_option linter.unusedVariables false
set_option linter.unusedSimpArgs false
abbrev lstr (s : ByteArray) : AV := lt (.string s)
def iStrs (xs : List ByteArray) : IV := .sl (fun j => .lit (.string (xs.getD j ByteArray.empty))) xs.length 1
theorem rnL_lstr (r : Nat → Nat) (xs : List ByteArray) : rnL r (xs.map lstr) = xs.map lstr := by rw [rnL_map, List.map_map]; rfl
theorem idL_lstr (p : Nat → Bool) (xs : List ByteArray) : idL p (xs.map lstr) = true := by rw [idL_all, List.all_map, List.all_eq_true]; exact fun _ _ => rfl
theorem lstr_one (xs : List ByteArray) : (xs.map lstr).all AV.one = true := by rw [List.all_map, List.all_eq_true]; exact fun _ _ => rfl
theorem lstr_snoc (xs : List ByteArray) (v : ByteArray) : xs.map lstr ++ [lt (.string v)] = (xs ++ [v]).map lstr := by rw [List.map_append]; rfl
theorem take_lstr {xs : List ByteArray} {n : Nat} (h : xs.length ≤ n) : (xs.map lstr).take n = xs.map lstr := List.take_of_length_le (by simpa using h)
theorem snap_lstr {H : AHeap} {o n : Nat} {t : TypeId} {xs : List ByteArray} (h : H[o]? = some (some ⟨t, xs.map lstr⟩)) (hn : n = xs.length) : Snap H (.osl o 0 n 1) (.iv (iStrs xs)) := by
  subst hn
  exact .iv _ _ (SnapC.lits (fun j => .string (xs.getD j ByteArray.empty)) h fun j hj => by
    rw [Nat.zero_add, List.getElem?_map, List.getElem?_eq_getElem hj]
    simp [List.getD_eq_getElem?_getD, List.getElem?_eq_getElem hj])
theorem pf_nOf (o s v : Int) : PF Tryz.prog 51 [szA o s, lt (.int .i64 v)] fun r H' => r = .tup [.agg [lt (.int .i64 (nOf o s v).1), lt (.int .i64 (nOf o s v).2.1), lt (.int .i64 (nOf o s v).2.2)], lt (.bool (nOfOk o s v))] ∧ H' = [] :=
  PF_of_walk2 (v := .tuple #[.agg #[.int .i64 (nOf o s v).1, .int .i64 (nOf o s v).2.1, .int .i64 (nOf o s v).2.2], .bool (nOfOk o s v)]) ⟨_, Tryz.func51, by kernel_rfl, rfl⟩ (fun G => .tup [_, _] [_, _] rfl (RL.cons (.agg [_, _, _] [_, _, _] rfl (RL.cons (.iv _ _ (.lit _)) (RL.cons (.iv _ _ (.lit _)) (RL.cons (.iv _ _ (.lit _)) (RL.nil _ _)))).2 rfl) (RL.cons (.iv _ _ (.lit _)) (RL.nil _ _))).2) fun G w vs hi hr => by
    obtain ⟨v1, us, rfl, r1, hr⟩ := hr.uncons
    obtain ⟨v2, us, rfl, r2, hr⟩ := hr.uncons
    rw [hr.unnil, ra_agg2 r1, r2.lit_inv]
    exact num_Of o s v w
def tlS (t : ByteArray) (ns : List Int) : Nat → ByteArray
  | 0 => t
  | k + 1 => tlS t ns k ++ ((⟨#[32]⟩ : ByteArray) ++ itoaS (ns.getD k 0))
theorem tlS_size {t : ByteArray} {ns : List Int} (ht : t.size ≤ 1000) (hb : ∀ k, k < ns.length → 0 ≤ ns.getD k 0 ∧ ns.getD k 0 < 100) : ∀ k, k ≤ ns.length → (tlS t ns k).size ≤ 1000 + 3 * k
  | 0, _ => by simpa [tlS] using ht
  | k + 1, h => by
    have ih := tlS_size ht hb k (by omega)
    have h2 := itoaS_size (hb k (by omega)).1 (hb k (by omega)).2
    have h3 : (⟨#[32]⟩ : ByteArray).size = 1 := rfl
    simp only [tlS, ByteArray.size_append]
    omega
attribute [go_sem] rnL_lstr idL_lstr lstr_one lstr_snoc take_lstr
theorem We54da {A B : Prop} (h9 : B) (w : B → A := by (intro h9; (repeat intro K hK); refine ⟨?_⟩; (repeat (first | (first | (with_reducible first | refine AX_block ?_ | refine AX_skip ?_ | refine AX_exit ?_ | refine AX_ret ?_ | refine AX_ift ?_ | refine AX_iff ?_ | refine AX_seq_k (fun K hK => ?_) | refine ContX.use (by assumption) ?_) | simp only [thenX, inBlockX, if_true, if_false, reduceCtorEq]) | (first | ((with_reducible refine XOP tyOK ?_); simp (disch := omega) only [go_sem , hs1, hs2, hs3, iInts, ByteArray.size_append, List.length_nil]; (with_reducible refine XRes_id ?_)) | (with_reducible refine XSK ?_)) | ((with_reducible refine XRes_nil ?_); refine hK _ ?_; clear hK K) | ((with_reducible refine AX_reg0 fun K hK => ?_); simp only [go_sem]) | (first | (first | refine XTL (by rfl) hC ?_)))); refine Wk.o ?_; (repeat revert hK K); exact h9)) : A := w h9
set_option maxRecDepth 100000 in
set_option maxHeartbeats 2000000 in
theorem sf_tell (t : ByteArray) (ns : List Int) (ss : List ByteArray) (x0 x1 x4 : Option AObj) (ht : t.size ≤ 1000) (hn : ns.length ≤ 1000) (hb : ∀ k, k < ns.length → 0 ≤ ns.getD k 0 ∧ ns.getD k 0 < 100) (hss : ss.length ≤ 1000000) :
    SF Tryz.prog 49 [lt (.string t), .iv (iInts ns), .optr 2 0] [x0, x1, some ⟨41, [.osl 3 0 ss.length 1]⟩, some ⟨9, ss.map lstr⟩, x4] fun r H' => r = .tup [] ∧ H' = [x0, x1, some ⟨41, [.osl 6 0 (ss.length + 1) 1]⟩, none, x4, some ⟨9, [lstr (tlS t ns ns.length)]⟩, some ⟨9, (ss ++ [tlS t ns ns.length]).map lstr⟩] := by
  have hs1 := trivial; have hs2 := trivial; have hs3 := trivial; have hC := trivial
  have hsz := tlS_size ht hb
  (refine SF_of_bodyX (aload tt) (aload_ok tyOK) Tryz.func49 rfl (by kernel_rfl) ?_; simp only [Tryz.ntmps49, List.length_cons, List.length_nil, Nat.reduceAdd, Nat.reduceSub, List.replicate_succ, List.replicate_zero, List.cons_append, List.nil_append])
  unfold iInts
  (refine Wk.o ?_; (repeat revert hK K); refine We54da ?_; (repeat intro K hK); refine ⟨?_⟩)
  (refine AWH (σ := Nat) [10, 11, 12, 6, 13, 14, 15, 16, 17, 18] (fun k => [(9, lint k), (0, lt (.string (tlS t ns k)))]) (fun k => [x0, x1, some ⟨41, [.osl 3 0 ss.length 1]⟩, some ⟨9, ss.map lstr⟩, x4]) (fun k => []) (fun k => k ≤ ns.length) (fun k => ns.length - k) 0 (by first | exact Nat.zero_le _) ?_; rintro k d fr hfr hk; simp only [updS, deadS, List.set_cons_succ, List.set_cons_zero, lint] at hfr; subst hfr; (try dsimp only))
  by_cases hlt : k < ns.length
  · have hbk := hb k hlt
    have hC := pf_Itoa (ns.getD k 0) hbk.1 hbk.2
    have hi := itoaS_size hbk.1 hbk.2
    have hsk := hsz k hk
    have h32 : (⟨#[32]⟩ : ByteArray).size = 1 := rfl
    have hs1 := h32
    (refine Wk.o ?_; (repeat revert hK K); refine We54da ?_; (repeat intro K hK); refine ⟨?_⟩)
    exact WEND (k + 1) (by omega) (by (first | omega | (dsimp only; omega) | (simp only; omega)))
  · obtain rfl : k = ns.length := by omega
    (refine Wk.o ?_; (repeat revert hK K); refine We54da ?_; (repeat intro K hK); refine ⟨?_⟩)
    (simp only [bodyX]; refine ⟨_, by simp only [aresults, aresult, XS.as, Tryz.results49, aload, go_sem, Option.bind_some]; rfl, ?_⟩)
    exact ⟨rfl, trivial⟩
end Go.Proofs.YtcjnikkmjhagmaaGreatDoor
