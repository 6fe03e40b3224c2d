import Derived.Test.YtcjnikkmjhagmaaGreatDoorMgBU
import Derived.Test.YtcjnikkmjhagmaaGreatDoorMgBV
import Derived.Test.YtcjnikkmjhagmaaGreatDoorMgBR
import Derived.Test.YtcjnikkmjhagmaaGreatDoorMgBP
import Derived.Test.YtcjnikkmjhagmaaGreatDoorMgBQ
import Derived.Test.YtcjnikkmjhagmaaGreatDoorMgAW
import Derived.Test.YtcjnikkmjhagmaaGreatDoorMgAT
namespace Go.Proofs.YtcjnikkmjhagmaaGreatDoor
open Go.RowKit
set_option linter.unusedVariables false
set_option linter.unusedSimpArgs false
theorem rows_app (xs ys : List (List Int)) : xs.map rowA ++ ys.map rowA = (xs ++ ys).map rowA := List.map_append.symm
theorem snapC_rws {H : AHeap} {o n : Nat} {t : TypeId} {R : List (List Int)} (h : H[o]? = some (some ⟨t, R.map rowA⟩)) (hn : n = R.length) : SnapC H (.osl o 0 n 1) (iRows R) := by
  subst hn
  exact .osl o 0 R.length 1 _ _ (fun j => rowA (R.getD j [])) (by decide) h (fun j hj => by
    rw [Nat.zero_add]; show (R.map rowA)[j]? = _
    rw [List.getElem?_map, List.getElem?_eq_getElem (by omega)]; simp only [Option.map_some, List.getD_eq_getElem?_getD, List.getElem?_eq_getElem (show j < R.length by omega), Option.getD_some]) fun j _ => .iv _
theorem snap_formR {H : AHeap} {vars : Int} {xss : List (List Int)} {x : AV} (h : SnapC H x (iRows xss)) : Snap H (.agg [lt (.int .i64 vars), x]) (aForm vars xss) := .agg _ _ rfl (fun i a b e1 e2 => by
  match i with
  | 0 => simp at e1 e2; subst e1 e2; exact .same _ (.iv _)
  | 1 => simp at e1 e2; subst e1 e2; exact .iv _ _ h
  | i + 2 => simp at e1) rfl
set_option maxRecDepth 100000 in
set_option maxHeartbeats 4000000 in
theorem pf_rEncode (o : Ob) (l : List Op5) (hr : o.R.length ≤ 100000) (ho : o.Ok) (hl : l.length ≤ 100000) (hs : okS l) : PF Tryz.prog 10 [obA o, .iv (iOps l)] fun r H' => r = .tup [enA o l, lt (.int .i64 (eE o l))] ∧ H' = [] := by
  refine SF.frozen ?_
  have hs1 := trivial; have hs2 := trivial; have hs3 := trivial
  have hF := pf_rError o l hr ho hl
  by_cases he : eE o l = 0
  · rw [enA_yes he]
    obtain ⟨hm, hln, hok, _⟩ := eE_ok he
    obtain ⟨l1, l2, l3, l4⟩ := enR_len he
    have c1 := plCl_len (mN o l) (mS o l)
    have c2 := stL_len (mN o l) (mS o l) o.I fun _ => by rw [(m_yes hm).2]; exact ob_init hm.1
    have c3 := tmL_cnt (m := mS o l) hm.2 (by rw [← (m_yes hm).1]; exact hok)
    rw [← (m_yes hm).1] at c3
    have c4 := tri_le hln
    have c5 : prN l * tri l.length ≤ 4096 * 2048 := Nat.mul_le_mul (by have h1 := pairs_le l l.length; have h2 : l.length * l.length ≤ 64 * 64 := Nat.mul_le_mul hln hln; unfold prN; omega) (by omega)
    have b1 := qP_lim (mN o l) (mS o l)
    have b2 := qS_lim (mN o l) (mS o l)
    have b3 := qT_lim (mN o l) (mS o l) (prN l)
    have b4 := qM_lim (mN o l) (mS o l) (enN l)
    have hc := (eE_ok he).2.2.2.2.1
    have hcc : cAll (mN o l) (mS o l) l = qP (mN o l) (mS o l) + qT (mN o l) (mS o l) (prN l) + qS (mN o l) (mS o l) + qM (mN o l) (mS o l) (enN l) := by unfold cAll; rw [if_pos ⟨hm.2, hok, (m_yes hm).1.symm⟩]
    replace l1 : (plCl (mN o l) (mS o l)).length ≤ 500000 := by omega
    replace l2 : (tmL (mN o l) (mS o l) (oPairL l l.length) (prN l)).length ≤ 10000000 := by rw [c3]; omega
    replace l3 : (stL (mN o l) (mS o l) o.I).length ≤ 500000 := by omega
    clear c1 c2 c3 c4 c5 b1 b2 b3 b4 hc hcc
    unfold enR
    have hMv := pf_rClauses o l hr ho hl hs
    have hPr := pf_rPairsN l (by omega)
    have hple := pairs_le l l.length
    have hll2 : l.length * l.length ≤ 64 * 64 := Nat.mul_le_mul hln hln
    obtain ⟨z, hz⟩ := pairs_even l l.length
    rw [(m_yes hm).1, (m_yes hm).2] at hok l1 l2 l3 ⊢
    have hPl := pf_r32Clauses l.length o.S
    have hTm := pf_r33Clauses l.length o.S (oPairL l l.length) (prN l) (by unfold prN; omega) (by unfold prN; omega)
    have hSt := pf_r34Clauses l.length o.S o.I
    have hst := nOk_st hok
    have hsq := nOk_sq hok
    have hVs : nVars l.length o.S = (l.length : Int) * l.length + l.length + ((l.length : Int) + 1) * o.S := by unfold nVars; rw [if_pos hok]; rfl
    have hSb : 0 ≤ o.S ∧ o.S ≤ 32 := by unfold nOk at hok; omega
    rw [hVs]
    rw [he] at hF
    rw [he]
    clear hple hll2 hz hok
    generalize plCl (l.length : Int) o.S = P1 at *
    generalize tmL (l.length : Int) o.S (oPairL l l.length) (prN l) = P2 at *
    generalize stL (l.length : Int) o.S o.I = P3 at *
    generalize mRes o l = P4 at *
    unfold iRows at hPl hTm hSt hMv
    generalize hq1 : (l.length : Int) * l.length = q1 at *
    generalize hq2 : ((l.length : Int) + 1) * o.S = q2 at *
    have hs1 := hq1
    have hs2 : ((l.length + 1 : Nat) : Int) * o.S = q2 := by rw [← hq2]; push_cast; rfl
    clear hVs
    have hL2 : (P1 ++ P2).length = P1.length + P2.length := List.length_append
    have hL3 : (P1 ++ P2 ++ P3).length = P1.length + P2.length + P3.length := by simp only [List.length_append]
    have hL4 : (P1 ++ P2 ++ P3 ++ P4).length = P1.length + P2.length + P3.length + P4.length := by simp only [List.length_append]
    (refine SF_of_bodyX (aload tt) (aload_ok tyOK) Tryz.func10 rfl (by kernel_rfl) ?_; simp only [Tryz.ntmps10, List.length_cons, List.length_nil, Nat.reduceAdd, Nat.reduceSub, List.replicate_succ, List.replicate_zero, List.cons_append, List.nil_append])
    (repeat (first | (first | (with_reducible first | refine AX_block ?_ | refine AX_skip ?_ | refine AX_exit ?_ | refine AX_ret ?_ | refine AX_ift ?_ | refine AX_iff ?_ | refine AX_seq_k (fun K hK => ?_) | refine ContX.use (by assumption) ?_) | simp only [thenX, inBlockX, if_true, if_false, reduceCtorEq]) | (first | ((first | (with_reducible refine XRes_op tyOK ?_ ?_) | ((with_reducible first | refine ADF_op tyOK ?_ ?_ ?_ | refine ADX_op tyOK ?_ ?_ ?_); (focus rfl)) | (with_reducible refine ADR_alloc1 tyOK ?_ ?_) | ((with_reducible refine ADR_free1 tyOK ?_ ?_ ?_); (focus rfl)) | ((with_reducible refine ADR_free0 tyOK ?_ ?_ ?_); (focus rfl)) | ((with_reducible refine ADR_read1 tyOK ?_ ?_ ?_); (focus rfl)) | (with_reducible refine ADR_chg1 tyOK ?_ ?_)); (focus (first | (with_reducible rfl) | ((simp (disch := omega) only [go_sem]); done))); simp (disch := omega) only [go_sem , range_rowsU, rows_app, szA, iInts, iRows, iOps, iFlat, aForm, Int.toNat_zero, Int.toNat_one, hs1, hs2, hs3, rows_one, rows_take, List.length_nil]; (first | (with_reducible refine XRes_id ?_) | (with_reducible refine ADF_id ?_) | (with_reducible refine ADR_id1 ?_) | (with_reducible refine ADX_id ?_))) | ((first | (with_reducible refine XRes_skip ?_ ?_) | (with_reducible refine ADF_skip (b := true) ?_ ?_) | (with_reducible refine ADX_skip ?_ ?_) | ((with_reducible refine ADR_skip1 ?_ ?_ ?_); (focus rfl))); (focus (first | rfl | ((simp (disch := omega) only [go_sem]); done))); (simp only [putL, List.set_cons_succ, List.set_cons_zero]))) | ((first | (with_reducible refine XRes_nil ?_) | (with_reducible refine ADF_nil ?_) | (with_reducible refine ADR_nil ?_) | (with_reducible refine ADX_nil ?_)); (first | refine hK _ ?_ | refine hK _ _ ?_); clear hK K) | ((first | (with_reducible refine AX_reg0 fun K hK => ?_) | (refine AX_drawG1 tyOK (by kernel_rfl) (by rfl) (by kernel_rfl) fun K hK => ?_) | (refine AX_drawT tyOK (by kernel_rfl) (by decide +kernel) fun K hK => ?_) | (refine AX_drawM1 (by kernel_rfl) (by rfl) (by decide +kernel) fun K hK => ?_) | (refine AX_drawA tyOK (by kernel_rfl) (by decide +kernel) fun K hK => ?_)); (first | simp only [go_sem, preN, effOp, runF, alM, mapOp, alD2, kdOf2, Bool.not_false, Bool.not_true, reduceCtorEq] | simp only [go_sem, preN, effOp, runF, alM, mapOp, Bool.not_false, Bool.not_true, reduceCtorEq] | simp only [go_sem, preN, effOp, runF, alD2, kdOf2, Bool.not_false, Bool.not_true, reduceCtorEq] | simp only [go_sem, alD2, kdOf2, Bool.not_false, Bool.not_true, reduceCtorEq] | simp only [go_sem, preN, effOp, runF, Bool.not_false, Bool.not_true, reduceCtorEq] | simp only [go_sem])) | (first | (first | refine XTL (by rfl) hF ?_ | refine ATL tyOK (by rfl) hF ?_ | refine XTL (by rfl) hPl ?_ | refine ATL tyOK (by rfl) hPl ?_ | refine XTL (by rfl) hPr ?_ | refine ATL tyOK (by rfl) hPr ?_ | refine XTL (by rfl) hTm ?_ | refine ATL tyOK (by rfl) hTm ?_ | refine XTL (by rfl) hSt ?_ | refine ATL tyOK (by rfl) hSt ?_ | refine XTL (by rfl) hMv ?_ | refine ATL tyOK (by rfl) hMv ?_) | ((refine ADR_tellF (by rfl) hPl ?_ (fun _ => rfl) ?_); (focus exact idsA (by rfl)); (simp only [putL, List.set_cons_succ, List.set_cons_zero])) | ((refine ADR_tellF (by rfl) hPr ?_ (fun _ => rfl) ?_); (focus exact idsA (by rfl)); (simp only [putL, List.set_cons_succ, List.set_cons_zero])) | ((refine ADR_tellF (by rfl) hTm ?_ (fun _ => rfl) ?_); (focus exact idsA (by rfl)); (simp only [putL, List.set_cons_succ, List.set_cons_zero])) | ((refine ADR_tellF (by rfl) hSt ?_ (fun _ => rfl) ?_); (focus exact idsA (by rfl)); (simp only [putL, List.set_cons_succ, List.set_cons_zero])) | ((refine ADR_tellF (by rfl) hMv ?_ (fun _ => rfl) ?_); (focus exact idsA (by rfl)); (simp only [putL, List.set_cons_succ, List.set_cons_zero]))) | (simp only [preN, effOp, runF, freeOp, roOp, alD, kdOf, isApp, List.any_cons, List.any_nil, List.take_succ_cons, List.take_zero, List.drop_succ_cons, List.drop_zero, Nat.reduceAdd, Bool.not_true, Bool.not_false, Bool.and_true, Bool.true_and, Bool.false_and, Bool.and_false, Bool.or_true, Bool.true_or, Bool.or_false, Bool.false_or, if_true, if_false, Bool.false_eq_true, reduceCtorEq, dsts, lapp_cons, lapp_nil, List.map_cons, List.map_nil, strip_mk, strip_gd, gix_some, List.getElem?_cons_succ, List.getElem?_cons_zero]) | (with_reducible refine XRes_nil ?_)))
    (simp only [bodyX]; refine ⟨_, by simp only [aresults, aresult, XS.as, Tryz.results10, aload, go_sem, Option.bind_some]; rfl, ?_⟩)
    have hfl : [P1, P2, P3, P4].flatten = P1 ++ P2 ++ P3 ++ P4 := by simp
    rw [hfl]
    exact ⟨_, Snap.twoP (snap_formR (snapC_rws rfl hL4.symm)) (.same _ (.iv _)), rfl, trivial⟩
  · rw [enA_no he]
    have hPl := trivial; have hPr := trivial; have hTm := trivial; have hSt := trivial; have hMv := trivial
    generalize eE o l = E at *
    (refine SF_of_bodyX (aload tt) (aload_ok tyOK) Tryz.func10 rfl (by kernel_rfl) ?_; simp only [Tryz.ntmps10, List.length_cons, List.length_nil, Nat.reduceAdd, Nat.reduceSub, List.replicate_succ, List.replicate_zero, List.cons_append, List.nil_append])
    (repeat (first | (first | (with_reducible first | refine AX_block ?_ | refine AX_skip ?_ | refine AX_exit ?_ | refine AX_ret ?_ | refine AX_ift ?_ | refine AX_iff ?_ | refine AX_seq_k (fun K hK => ?_) | refine ContX.use (by assumption) ?_) | simp only [thenX, inBlockX, if_true, if_false, reduceCtorEq]) | (first | ((first | (with_reducible refine XRes_op tyOK ?_ ?_) | ((with_reducible first | refine ADF_op tyOK ?_ ?_ ?_ | refine ADX_op tyOK ?_ ?_ ?_); (focus rfl)) | (with_reducible refine ADR_alloc1 tyOK ?_ ?_) | ((with_reducible refine ADR_free1 tyOK ?_ ?_ ?_); (focus rfl)) | ((with_reducible refine ADR_free0 tyOK ?_ ?_ ?_); (focus rfl)) | ((with_reducible refine ADR_read1 tyOK ?_ ?_ ?_); (focus rfl)) | (with_reducible refine ADR_chg1 tyOK ?_ ?_)); (focus (first | (with_reducible rfl) | ((simp (disch := omega) only [go_sem]); done))); simp (disch := omega) only [go_sem , range_rowsU, rows_app, szA, iInts, iRows, iOps, iFlat, aForm, Int.toNat_zero, Int.toNat_one, hs1, hs2, hs3, rows_one, rows_take, List.length_nil]; (first | (with_reducible refine XRes_id ?_) | (with_reducible refine ADF_id ?_) | (with_reducible refine ADR_id1 ?_) | (with_reducible refine ADX_id ?_))) | ((first | (with_reducible refine XRes_skip ?_ ?_) | (with_reducible refine ADF_skip (b := true) ?_ ?_) | (with_reducible refine ADX_skip ?_ ?_) | ((with_reducible refine ADR_skip1 ?_ ?_ ?_); (focus rfl))); (focus (first | rfl | ((simp (disch := omega) only [go_sem]); done))); (simp only [putL, List.set_cons_succ, List.set_cons_zero]))) | ((first | (with_reducible refine XRes_nil ?_) | (with_reducible refine ADF_nil ?_) | (with_reducible refine ADR_nil ?_) | (with_reducible refine ADX_nil ?_)); (first | refine hK _ ?_ | refine hK _ _ ?_); clear hK K) | ((first | (with_reducible refine AX_reg0 fun K hK => ?_) | (refine AX_drawG1 tyOK (by kernel_rfl) (by rfl) (by kernel_rfl) fun K hK => ?_) | (refine AX_drawT tyOK (by kernel_rfl) (by decide +kernel) fun K hK => ?_) | (refine AX_drawM1 (by kernel_rfl) (by rfl) (by decide +kernel) fun K hK => ?_) | (refine AX_drawA tyOK (by kernel_rfl) (by decide +kernel) fun K hK => ?_)); (first | simp only [go_sem, preN, effOp, runF, alM, mapOp, alD2, kdOf2, Bool.not_false, Bool.not_true, reduceCtorEq] | simp only [go_sem, preN, effOp, runF, alM, mapOp, Bool.not_false, Bool.not_true, reduceCtorEq] | simp only [go_sem, preN, effOp, runF, alD2, kdOf2, Bool.not_false, Bool.not_true, reduceCtorEq] | simp only [go_sem, alD2, kdOf2, Bool.not_false, Bool.not_true, reduceCtorEq] | simp only [go_sem, preN, effOp, runF, Bool.not_false, Bool.not_true, reduceCtorEq] | simp only [go_sem])) | (first | (first | refine XTL (by rfl) hF ?_ | refine ATL tyOK (by rfl) hF ?_ | refine XTL (by rfl) hPl ?_ | refine ATL tyOK (by rfl) hPl ?_ | refine XTL (by rfl) hPr ?_ | refine ATL tyOK (by rfl) hPr ?_ | refine XTL (by rfl) hTm ?_ | refine ATL tyOK (by rfl) hTm ?_ | refine XTL (by rfl) hSt ?_ | refine ATL tyOK (by rfl) hSt ?_ | refine XTL (by rfl) hMv ?_ | refine ATL tyOK (by rfl) hMv ?_) | ((refine ADR_tellF (by rfl) hPl ?_ (fun _ => rfl) ?_); (focus exact idsA (by rfl)); (simp only [putL, List.set_cons_succ, List.set_cons_zero])) | ((refine ADR_tellF (by rfl) hPr ?_ (fun _ => rfl) ?_); (focus exact idsA (by rfl)); (simp only [putL, List.set_cons_succ, List.set_cons_zero])) | ((refine ADR_tellF (by rfl) hTm ?_ (fun _ => rfl) ?_); (focus exact idsA (by rfl)); (simp only [putL, List.set_cons_succ, List.set_cons_zero])) | ((refine ADR_tellF (by rfl) hSt ?_ (fun _ => rfl) ?_); (focus exact idsA (by rfl)); (simp only [putL, List.set_cons_succ, List.set_cons_zero])) | ((refine ADR_tellF (by rfl) hMv ?_ (fun _ => rfl) ?_); (focus exact idsA (by rfl)); (simp only [putL, List.set_cons_succ, List.set_cons_zero])))))
    (simp only [bodyX]; refine ⟨_, by simp only [aresults, aresult, XS.as, Tryz.results10, aload, go_sem, Option.bind_some]; rfl, ?_⟩)
    exact ⟨_, Snap.twoP snap_form0 (.same _ (.iv _)), rfl, trivial⟩
end Go.Proofs.YtcjnikkmjhagmaaGreatDoor
namespace Go.Proofs.YtcjnikkmjhagmaaGreatDoor
open Go.RowKit
set_option linter.unusedVariables false
set_option linter.unusedSimpArgs false
theorem W1a17a {A B : Prop} (h9 : B) (w : B → A := by (intro h9; (repeat intro K hK); refine ⟨?_⟩; (repeat (first | (first | (with_reducible first | refine AX_block ?_ | refine AX_skip ?_ | refine AX_exit ?_ | refine AX_ret ?_ | refine AX_ift ?_ | refine AX_iff ?_ | refine AX_seq_k (fun K hK => ?_) | refine ContX.use (by assumption) ?_) | simp only [thenX, inBlockX, if_true, if_false, reduceCtorEq]) | (first | ((with_reducible first | refine XOP tyOK ?_ | refine AOP tyOK ?_); simp (disch := omega) only [go_sem , szA, iOps, iFlat, iBools, lint, beq_self_eq_true, hs1, hs2, hs3, List.length_nil]; (with_reducible first | refine XRes_id ?_ | refine ADF_id ?_)) | (with_reducible first | refine XSK ?_ | refine ASK ?_)) | ((first | (with_reducible refine XRes_nil ?_) | (with_reducible refine ADF_nil ?_)); (first | refine hK _ ?_ | refine hK _ _ ?_); clear hK K) | ((first | (with_reducible refine AX_reg0 fun K hK => ?_) | (refine AX_drawG1 tyOK (by kernel_rfl) (by rfl) (by kernel_rfl) fun K hK => ?_)); simp only [go_sem]) | (first | (first | refine XTL (by rfl) hFew ?_ | refine ATL tyOK (by rfl) hFew ?_ | refine XTL (by rfl) hAw ?_ | refine ATL tyOK (by rfl) hAw ?_ | refine XTL (by rfl) hEn ?_ | refine ATL tyOK (by rfl) hEn ?_ | refine XTL (by rfl) hEr ?_ | refine ATL tyOK (by rfl) hEr ?_ | refine XTL (by rfl) hSm ?_ | refine ATL tyOK (by rfl) hSm ?_ | refine XTL (by rfl) hS ?_ | refine ATL tyOK (by rfl) hS ?_ | refine XTL (by rfl) hSr ?_ | refine ATL tyOK (by rfl) hSr ?_)))); refine Wk.o ?_; (repeat revert hK K); exact h9)) : A := w h9
set_option maxRecDepth 100000 in
set_option maxHeartbeats 4000000 in
theorem pf_EncodeTells (o : Ob) (l : List Op5) (M : List Bool) (ho : o.Ok) (hrl : o.R.length ≤ 9223372036854775807) (hll : l.length ≤ 9223372036854775807) (hs : okS l) (hml : M.length ≤ 9223372036854775807) : PF Tryz.prog 3 [obA o, .iv (iOps l), .iv (iBools M)] fun r H' => r = lt (.bool true) ∧ H' = [] := by
  refine SF.forgetAll ?_
  have hs1 := trivial; have hs2 := trivial; have hs3 := trivial
  have hFew := pf_few o
  have hAw := pf_awake
  have hEn := trivial; have hEr := trivial; have hSm := trivial; have hS := trivial; have hSr := trivial
  by_cases hr : o.R.length ≤ 300
  · rw [decide_eq_true (by omega)] at hFew
    by_cases hl : l.length ≤ 7
    · by_cases hm : M.length ≤ 1000
      · have hEn := pf_Encode o l (by omega) ho (by omega) hs
        have hEr := pf_rEncode o l (by omega) ho (by omega) hs
        have hS := pf_Says o l M (by omega) ho (by omega) hs (by omega)
        have hSr := pf_rSays o l M (by omega) ho (by omega) hs (by omega)
        obtain ⟨V, A, e1, e2, e3⟩ : ∃ V A, enA o l = aForm V A ∧ A.length ≤ 1000000 ∧ ∀ k, (A.getD k []).length ≤ 1000000 := by
          by_cases he : eE o l = 0
          · have hvf := enR_vf he (by omega)
            exact ⟨_, _, enA_yes he, Nat.le_trans hvf.2.2.1 (by omega), fun k => Nat.le_trans (vc_short enR_vc k) (by omega)⟩
          · exact ⟨0, [], enA_no he, by simp, fun k => by simp⟩
        have hSm := pf_formSelf V A e2 e3
        rw [e1] at hEn hEr
        generalize decide (sayP o l M) = D at *
        generalize eE o l = E at *
        unfold aForm iRows at hEn hEr hSm
        (refine SF_of_bodyX (aload tt) (aload_ok tyOK) Tryz.func3 rfl (by kernel_rfl) ?_; simp only [Tryz.ntmps3, List.length_cons, List.length_nil, Nat.reduceAdd, Nat.reduceSub, List.replicate_succ, List.replicate_zero, List.cons_append, List.nil_append])
        unfold iOps iFlat iBools
        (refine Wk.o ?_; (repeat revert hK K); refine W1a17a ?_; (repeat intro K hK); refine ⟨?_⟩)
        (simp only [bodyX]; refine ⟨_, by simp only [aresults, aresult, XS.as, Tryz.results3, aload, go_sem, Option.bind_some]; rfl, ?_⟩)
        exact ⟨ids_idB rfl, rfl, trivial⟩
      · (refine SF_of_bodyX (aload tt) (aload_ok tyOK) Tryz.func3 rfl (by kernel_rfl) ?_; simp only [Tryz.ntmps3, List.length_cons, List.length_nil, Nat.reduceAdd, Nat.reduceSub, List.replicate_succ, List.replicate_zero, List.cons_append, List.nil_append])
        unfold iOps iFlat iBools
        (refine Wk.o ?_; (repeat revert hK K); refine W1a17a ?_; (repeat intro K hK); refine ⟨?_⟩)
        (simp only [bodyX]; refine ⟨_, by simp only [aresults, aresult, XS.as, Tryz.results3, aload, go_sem, Option.bind_some]; rfl, ?_⟩)
        exact ⟨ids_idB rfl, rfl, trivial⟩
    · (refine SF_of_bodyX (aload tt) (aload_ok tyOK) Tryz.func3 rfl (by kernel_rfl) ?_; simp only [Tryz.ntmps3, List.length_cons, List.length_nil, Nat.reduceAdd, Nat.reduceSub, List.replicate_succ, List.replicate_zero, List.cons_append, List.nil_append])
      unfold iOps iFlat iBools
      (refine Wk.o ?_; (repeat revert hK K); refine W1a17a ?_; (repeat intro K hK); refine ⟨?_⟩)
      (simp only [bodyX]; refine ⟨_, by simp only [aresults, aresult, XS.as, Tryz.results3, aload, go_sem, Option.bind_some]; rfl, ?_⟩)
      exact ⟨ids_idB rfl, rfl, trivial⟩
  · rw [decide_eq_false (by omega)] at hFew
    (refine SF_of_bodyX (aload tt) (aload_ok tyOK) Tryz.func3 rfl (by kernel_rfl) ?_; simp only [Tryz.ntmps3, List.length_cons, List.length_nil, Nat.reduceAdd, Nat.reduceSub, List.replicate_succ, List.replicate_zero, List.cons_append, List.nil_append])
    unfold iOps iFlat iBools
    (refine Wk.o ?_; (repeat revert hK K); refine W1a17a ?_; (repeat intro K hK); refine ⟨?_⟩)
    (simp only [bodyX]; refine ⟨_, by simp only [aresults, aresult, XS.as, Tryz.results3, aload, go_sem, Option.bind_some]; rfl, ?_⟩)
    exact ⟨ids_idB rfl, rfl, trivial⟩
end Go.Proofs.YtcjnikkmjhagmaaGreatDoor
namespace Go.Proofs.YtcjnikkmjhagmaaGreatDoor
open Go.RowKit
theorem wf_i {x : Int} (h : (Lit.int .i64 x).wf = true) : -9223372036854775808 ≤ x ∧ x ≤ 9223372036854775807 := bounds_i64 h
theorem encodeTells_walk (w : World) (x y z : Int) (wx : (Lit.int .i64 x).wf = true) (wy : (Lit.int .i64 y).wf = true) (wz : (Lit.int .i64 z).wf = true) (a : Option Addr) (len cap : Nat) (hs : StructRow w 4 a len cap) (a2 : Option Addr) (len2 cap2 : Nat) (hs2 : StructRow w 5 a2 len2 cap2) (a3 : Option Addr) (len3 cap3 : Nat) (m : List Bool) (hr3 : BoolRow w a3 len3 m) (hc3 : len3 ≤ cap3 ∧ cap3 ≤ maxLen ∧ (a3 = none → cap3 = 0)) :
    Calls Tryz.prog 3 #[.agg #[.int .i64 x, .int .i64 y, .int .i64 z, .slice a len cap], .slice a2 len2 cap2, .slice a3 len3 cap3] w fun e w' => e = .returned (.bool true) ∧ Below w.heap.size w w' := by
  obtain ⟨xs, e1, _, r1⟩ := hs.rwsA
  obtain ⟨ys, e2, o2, r2⟩ := hs2.opsA
  have b1 := hs.2.1; have b2 := hs2.2.1; have b3 := hr3.2.1
  have c1 := hs.1; have c2 := hs2.1; have c3 := hr3.1
  unfold maxLen at b1 b2 b3
  exact law_of (SF.mono (pf_EncodeTells ⟨x, y, z, xs⟩ ys m ⟨wf_i wx, wf_i wy, wf_i wz⟩ (by show xs.length ≤ _; omega) (by omega) (fun i => okI_s o2 i) (by omega)) fun r H' h => h.1) w _ (RL.three (RL.obj r1) (.iv _ _ r2) (.iv _ _ (ri_bools hr3 hc3.1 hc3.2.1)))
end Go.Proofs.YtcjnikkmjhagmaaGreatDoor
