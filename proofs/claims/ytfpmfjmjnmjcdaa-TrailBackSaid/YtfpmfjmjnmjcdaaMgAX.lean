import Derived.Test.YtfpmfjmjnmjcdaaMgAW
namespace Go.Proofs.Ytfpmfjmjnmjcdaa
open Go.RowKit
set_option linter.unusedVariables false
set_option linter.unusedSimpArgs false
theorem We980a {A B : Prop} (h9 : B) (w : B → A := by (intro h9; (repeat intro K hK); refine ⟨?_⟩; (repeat (first | (first | (with_reducible first | refine AX_block ?_ | refine AX_skip ?_ | refine AX_exit ?_ | refine AX_ret ?_ | refine AX_ift ?_ | refine AX_iff ?_ | refine AX_seq_k (fun K hK => ?_) | refine ContX.use (by assumption) ?_) | simp only [thenX, inBlockX, if_true, if_false, reduceCtorEq]) | (first | ((first | (with_reducible refine XRes_op tyOK ?_ ?_) | ((with_reducible first | refine ADF_op tyOK ?_ ?_ ?_ | refine ADX_op tyOK ?_ ?_ ?_); (focus rfl)) | (with_reducible refine ADR_alloc1 tyOK ?_ ?_) | ((with_reducible refine ADR_free1 tyOK ?_ ?_ ?_); (focus rfl)) | ((with_reducible refine ADR_free0 tyOK ?_ ?_ ?_); (focus rfl)) | ((with_reducible refine ADR_read1 tyOK ?_ ?_ ?_); (focus rfl)) | (with_reducible refine ADR_chg1 tyOK ?_ ?_)); (focus (first | (with_reducible rfl) | ((simp (disch := omega) only [go_sem]); done))); simp (disch := omega) only [go_sem , iFlat, hs1, hs2, hs3, hs4, hs5, hs6, hs7, hs8, Int.toNat_zero, Int.toNat_one, List.length_nil, Nat.reduceLeDiff, lint_app, intOf]; (first | (with_reducible refine XRes_id ?_) | (with_reducible refine ADF_id ?_) | (with_reducible refine ADR_id1 ?_) | (with_reducible refine ADX_id ?_))) | ((first | (with_reducible refine XRes_skip ?_ ?_) | (with_reducible refine ADF_skip (b := true) ?_ ?_) | (with_reducible refine ADX_skip ?_ ?_) | ((with_reducible refine ADR_skip1 ?_ ?_ ?_); (focus rfl))); (focus (first | rfl | ((simp (disch := omega) only [go_sem]); done))); (simp only [putL, List.set_cons_succ, List.set_cons_zero]))) | ((first | (with_reducible refine XRes_nil ?_) | (with_reducible refine ADF_nil ?_) | (with_reducible refine ADR_nil ?_) | (with_reducible refine ADX_nil ?_)); (first | refine hK _ ?_ | refine hK _ _ ?_); clear hK K) | ((first | (with_reducible refine AX_reg0 fun K hK => ?_) | (refine AX_drawG1 tyOK (by kernel_rfl) (by rfl) (by kernel_rfl) fun K hK => ?_) | (refine AX_drawT tyOK (by kernel_rfl) (by decide +kernel) fun K hK => ?_) | (refine AX_drawM1 (by kernel_rfl) (by rfl) (by decide +kernel) fun K hK => ?_) | (refine AX_drawA tyOK (by kernel_rfl) (by decide +kernel) fun K hK => ?_)); (first | simp only [go_sem, preN, effOp, runF, alM, mapOp, alD2, kdOf2, Bool.not_false, Bool.not_true, reduceCtorEq] | simp only [go_sem, preN, effOp, runF, alM, mapOp, Bool.not_false, Bool.not_true, reduceCtorEq] | simp only [go_sem, preN, effOp, runF, alD2, kdOf2, Bool.not_false, Bool.not_true, reduceCtorEq] | simp only [go_sem, alD2, kdOf2, Bool.not_false, Bool.not_true, reduceCtorEq] | simp only [go_sem, preN, effOp, runF, Bool.not_false, Bool.not_true, reduceCtorEq] | simp only [go_sem])) | (first | (first | refine XTL (by rfl) hC ?_ | refine ATL tyOK (by rfl) hC ?_ | refine XTL (by rfl) hD ?_ | refine ATL tyOK (by rfl) hD ?_)))); refine Wk.o ?_; (repeat revert hK K); exact h9)) : A := w h9
set_option maxRecDepth 100000 in
set_option maxHeartbeats 4000000 in
theorem pf_r13Imply (n : Int) (E : List Int) (m : Nat) (dd x r : Int) (hm : m ≤ 1000000) (hE : E.length = m * 3) (hd : 0 ≤ dd ∧ dd ≤ 1000000) (h0 : rMay n E m x = 0) (hr : 0 ≤ r) : PF Try.prog 25 [rT n E m dd, lt (.int .i64 x), lt (.int .i64 r)] fun y H' => y = .tup [rT n (E ++ [x, dd, r]) (m + 1) dd, lt (.int .i64 0)] ∧ H' = [] := by
  refine SF.frozen ?_
  have hs1 := trivial; have hs2 := trivial; have hs3 := trivial; have hs4 := trivial; have hs5 := trivial; have hs6 := trivial; have hs7 := trivial; have hs8 := trivial
  have hC := trivial; have hD := trivial
  have hC := pf_r13may n E m dd x hm
  rw [h0] at hC
  unfold rT iFlat at hC
  have hr3 : List.map (fun j => lt (.int .i64 (E.getD j 0))) (List.range (m * 3)) = E.map lint := by rw [← hE]; rw [range_takeI (Nat.le_refl _), List.take_length]
  (refine SF_of_bodyX (aload tt) (aload_ok tyOK) Try.func25 rfl (by kernel_rfl) ?_; simp only [Try.ntmps25, List.length_cons, List.length_nil, Nat.reduceAdd, Nat.reduceSub, List.replicate_succ, List.replicate_zero, List.cons_append, List.nil_append])
  unfold rT iFlat
  (repeat (first | (first | (with_reducible first | refine AX_block ?_ | refine AX_skip ?_ | refine AX_exit ?_ | refine AX_ret ?_ | refine AX_ift ?_ | refine AX_iff ?_ | refine AX_seq_k (fun K hK => ?_) | refine ContX.use (by assumption) ?_) | simp only [thenX, inBlockX, if_true, if_false, reduceCtorEq]) | (first | ((first | (with_reducible refine XRes_op tyOK ?_ ?_) | ((with_reducible first | refine ADF_op tyOK ?_ ?_ ?_ | refine ADX_op tyOK ?_ ?_ ?_); (focus rfl)) | (with_reducible refine ADR_alloc1 tyOK ?_ ?_) | ((with_reducible refine ADR_free1 tyOK ?_ ?_ ?_); (focus rfl)) | ((with_reducible refine ADR_free0 tyOK ?_ ?_ ?_); (focus rfl)) | ((with_reducible refine ADR_read1 tyOK ?_ ?_ ?_); (focus rfl)) | (with_reducible refine ADR_chg1 tyOK ?_ ?_)); (focus (first | (with_reducible rfl) | ((simp (disch := omega) only [go_sem]); done))); simp (disch := omega) only [go_sem , iFlat, hs1, hs2, hs3, hs4, hs5, hs6, hs7, hs8, Int.toNat_zero, Int.toNat_one, List.length_nil, Nat.reduceLeDiff, lint_app, intOf]; (first | (with_reducible refine XRes_id ?_) | (with_reducible refine ADF_id ?_) | (with_reducible refine ADR_id1 ?_) | (with_reducible refine ADX_id ?_))) | ((first | (with_reducible refine XRes_skip ?_ ?_) | (with_reducible refine ADF_skip (b := true) ?_ ?_) | (with_reducible refine ADX_skip ?_ ?_) | ((with_reducible refine ADR_skip1 ?_ ?_ ?_); (focus rfl))); (focus (first | rfl | ((simp (disch := omega) only [go_sem]); done))); (simp only [putL, List.set_cons_succ, List.set_cons_zero]))) | ((first | (with_reducible refine XRes_nil ?_) | (with_reducible refine ADF_nil ?_) | (with_reducible refine ADR_nil ?_) | (with_reducible refine ADX_nil ?_)); (first | refine hK _ ?_ | refine hK _ _ ?_); clear hK K) | ((with_reducible refine AX_reg0 fun K hK => ?_); simp only [go_sem]) | (first | (first | refine XTL (by rfl) hC ?_ | refine ATL tyOK (by rfl) hC ?_ | refine XTL (by rfl) hD ?_ | refine ATL tyOK (by rfl) hD ?_))))
  refine AX_drawW tyOK (by kernel_rfl) (by decide +kernel) fun K hK => ?_
  simp only [go_sem, alW, kdW, isApp, List.any_cons, List.any_nil, List.map_cons, List.map_nil, Bool.or_false, Bool.false_or, Bool.or_true, Bool.true_or, reduceCtorEq]
  refine ADR_empty tyOK rfl 3 49 (by rfl) ?_
  (simp only [putL, List.set_cons_succ, List.set_cons_zero])
  repeat (first | (first | ((first | (with_reducible refine XRes_op tyOK ?_ ?_) | ((with_reducible first | refine ADF_op tyOK ?_ ?_ ?_ | refine ADX_op tyOK ?_ ?_ ?_); (focus rfl)) | (with_reducible refine ADR_alloc1 tyOK ?_ ?_) | ((with_reducible refine ADR_free1 tyOK ?_ ?_ ?_); (focus rfl)) | ((with_reducible refine ADR_free0 tyOK ?_ ?_ ?_); (focus rfl)) | ((with_reducible refine ADR_read1 tyOK ?_ ?_ ?_); (focus rfl)) | (with_reducible refine ADR_chg1 tyOK ?_ ?_)); (focus (first | (with_reducible rfl) | ((simp (disch := omega) only [go_sem]); done))); simp (disch := omega) only [go_sem , iFlat, hs1, hs2, hs3, hs4, hs5, hs6, hs7, hs8, Int.toNat_zero, Int.toNat_one, List.length_nil, Nat.reduceLeDiff, lint_app, intOf]; (first | (with_reducible refine XRes_id ?_) | (with_reducible refine ADF_id ?_) | (with_reducible refine ADR_id1 ?_) | (with_reducible refine ADX_id ?_))) | ((first | (with_reducible refine XRes_skip ?_ ?_) | (with_reducible refine ADF_skip (b := true) ?_ ?_) | (with_reducible refine ADX_skip ?_ ?_) | ((with_reducible refine ADR_skip1 ?_ ?_ ?_); (focus rfl))); (focus (first | rfl | ((simp (disch := omega) only [go_sem]); done))); (simp only [putL, List.set_cons_succ, List.set_cons_zero]))) | ((first | (with_reducible refine XRes_nil ?_) | (with_reducible refine ADF_nil ?_) | (with_reducible refine ADR_nil ?_) | (with_reducible refine ADX_nil ?_)); (first | refine hK _ ?_ | refine hK _ _ ?_); clear hK K))
  refine ADR_new1 tyOK (by rfl) (x := .osl 3 0 m 3) (H' := [some ⟨30, [lt (.int .i64 n), .iv (.sl (fun j => .lit (.int .i64 (E.getD j 0))) m 3), lt (.int .i64 dd)]⟩, some ⟨30, [lt (.int .i64 0), lt (.slice none 0 0), lt (.int .i64 0)]⟩, none, some ⟨49, E.map lint⟩]) ?_ ?_ ?_ ?_
  · simp (disch := omega) only [Bool.true_beq, Bool.false_beq, beq_true, beq_false, cond_true, cond_false, dsts, lapp_cons, lapp_nil, strip_mk, strip_gd, gix_some, wantedS, alF, AS.ev, AS.put, putL, arun, drun, alD, kdOf, isApp, freeOp, roOp, extH, List.any_cons, List.any_nil, Bool.or_false, Bool.false_or, Bool.or_true, Bool.true_or, aop, abuiltin, abox, acells, aload, astore, afieldAddr, aindexAddr, shiftA, alen, abin, aint, aun, aconv, apick_b, apick_l, apick_r, amake, aslice, abound, aappend, anews, abuildSlice, abuild, afill, asets, splice, azero, aplaces, apart, afield, aindex, aggCells, anilS, anilP, aeq, notNil, aminmax, ashift, astr, TyKind.agg, BinOp.isShift, AV.one, List.set_cons_succ, List.set_cons_zero, List.getD_cons_succ, List.getD_cons_zero, List.getElem?_cons_succ, List.getElem?_cons_zero, List.getElem?_toArray, Option.map_some, Option.map_none, Option.bind_some, List.map_cons, List.map_nil, List.headD_cons, List.tail_cons, List.take_succ_cons, List.drop_succ_cons, List.drop_zero, List.take_zero, List.take_nil, if_true, if_false, Bool.false_eq_true, Bool.not_true, Bool.not_false, beq_self_eq_true, reduceCtorEq, bne_self_eq_false, tt_2, tt_3, tt_4, tt_5, tt_7, tt_9, tt_12, tt_13, tt_18, tt_20, tt_21, tt_22, tt_24, tt_25, tt_28, tt_29, tt_30, tt_33, tt_36, tt_37, tt_47, tt_48, tt_49, tt_54, tt_55, tt_56, tt_57, tt_70, tt_72, tt_73, tt_74, tt_76, tt_79, tt_81, tt_85, tt_88, wrap_in, ite_t, ite_f, dec_t, dec_f, beq_t, beq_f, bne_t, bne_f, nat_succ, Int.toNat_natCast, updS, deadS, and_true, true_and, ge_iff_le, Nat.mul_one, Nat.zero_add, Nat.add_zero, AV.one, lt_one_i, lt_one_b, lt_one_n, List.all_cons, List.all_nil, Bool.and_true, Bool.and_self, Bool.true_and, List.length_cons, List.length_nil, Nat.reduceAdd, Nat.reduceSub, List.replicate_succ, List.replicate_zero, List.cons_append, List.nil_append]
    rw [hr3, if_pos (all_lint _)]
    have e1 : (E.map lint).length = m * 3 := by rw [List.length_map]; exact hE
    simp [e1]
    omega
  · simp
  · exact fun _ => ⟨by simp, fun o y e => by
      match o with
      | 0 => exact e
      | 1 => exact e
      | o + 2 => simp at e⟩
  simp only [putL, List.set_cons_succ, List.set_cons_zero]
  repeat (first | (first | ((first | (with_reducible refine XRes_op tyOK ?_ ?_) | ((with_reducible first | refine ADF_op tyOK ?_ ?_ ?_ | refine ADX_op tyOK ?_ ?_ ?_); (focus rfl)) | (with_reducible refine ADR_alloc1 tyOK ?_ ?_) | ((with_reducible refine ADR_free1 tyOK ?_ ?_ ?_); (focus rfl)) | ((with_reducible refine ADR_free0 tyOK ?_ ?_ ?_); (focus rfl)) | ((with_reducible refine ADR_read1 tyOK ?_ ?_ ?_); (focus rfl)) | (with_reducible refine ADR_chg1 tyOK ?_ ?_)); (focus (first | (with_reducible rfl) | ((simp (disch := omega) only [go_sem]); done))); simp (disch := omega) only [go_sem , iFlat, hs1, hs2, hs3, hs4, hs5, hs6, hs7, hs8, Int.toNat_zero, Int.toNat_one, List.length_nil, Nat.reduceLeDiff, lint_app, intOf]; (first | (with_reducible refine XRes_id ?_) | (with_reducible refine ADF_id ?_) | (with_reducible refine ADR_id1 ?_) | (with_reducible refine ADX_id ?_))) | ((first | (with_reducible refine XRes_skip ?_ ?_) | (with_reducible refine ADF_skip (b := true) ?_ ?_) | (with_reducible refine ADX_skip ?_ ?_) | ((with_reducible refine ADR_skip1 ?_ ?_ ?_); (focus rfl))); (focus (first | rfl | ((simp (disch := omega) only [go_sem]); done))); (simp only [putL, List.set_cons_succ, List.set_cons_zero]))) | ((first | (with_reducible refine XRes_nil ?_) | (with_reducible refine ADF_nil ?_) | (with_reducible refine ADR_nil ?_) | (with_reducible refine ADX_nil ?_)); (first | refine hK _ ?_ | refine hK _ _ ?_); clear hK K))
  refine ADR_litF tyOK (by rfl) (len := 1) (sz := 3) (cs := [lt (.int .i64 x), lt (.int .i64 dd), lt (.int .i64 r)]) (by rfl) (by decide) (by rfl) (by rfl) ?_
  simp only [iFlat, show List.range 3 = [0, 1, 2] from rfl, show List.range (1 * 3) = [0, 1, 2] from rfl, List.map_cons, List.map_nil, Nat.reduceMod, List.getD_cons_zero, List.getD_cons_succ, intOf, putL, List.set_cons_succ, List.set_cons_zero]
  refine ADR_new1 tyOK (by rfl) (x := .osl 4 0 (m + 1) 3) (H' := [some ⟨30, [lt (.int .i64 n), .iv (.sl (fun j => .lit (.int .i64 (E.getD j 0))) m 3), lt (.int .i64 dd)]⟩, some ⟨30, [lt (.int .i64 0), lt (.slice none 0 0), lt (.int .i64 0)]⟩, none, none, some ⟨49, (E ++ [x, dd, r]).map lint⟩]) ?_ ?_ ?_ ?_
  · simp (disch := omega) only [Bool.true_beq, Bool.false_beq, beq_true, beq_false, cond_true, cond_false, dsts, lapp_cons, lapp_nil, strip_mk, strip_gd, gix_some, wantedS, alF, AS.ev, AS.put, putL, arun, drun, alD, kdOf, isApp, freeOp, roOp, extH, List.any_cons, List.any_nil, Bool.or_false, Bool.false_or, Bool.or_true, Bool.true_or, aop, abuiltin, abox, acells, aload, astore, afieldAddr, aindexAddr, shiftA, alen, abin, aint, aun, aconv, apick_b, apick_l, apick_r, amake, aslice, abound, aappend, anews, abuildSlice, abuild, afill, asets, splice, azero, aplaces, apart, afield, aindex, aggCells, anilS, anilP, aeq, notNil, aminmax, ashift, astr, TyKind.agg, BinOp.isShift, AV.one, List.set_cons_succ, List.set_cons_zero, List.getD_cons_succ, List.getD_cons_zero, List.getElem?_cons_succ, List.getElem?_cons_zero, List.getElem?_toArray, Option.map_some, Option.map_none, Option.bind_some, List.map_cons, List.map_nil, List.headD_cons, List.tail_cons, List.take_succ_cons, List.drop_succ_cons, List.drop_zero, List.take_zero, List.take_nil, if_true, if_false, Bool.false_eq_true, Bool.not_true, Bool.not_false, beq_self_eq_true, reduceCtorEq, bne_self_eq_false, tt_2, tt_3, tt_4, tt_5, tt_7, tt_9, tt_12, tt_13, tt_18, tt_20, tt_21, tt_22, tt_24, tt_25, tt_28, tt_29, tt_30, tt_33, tt_36, tt_37, tt_47, tt_48, tt_49, tt_54, tt_55, tt_56, tt_57, tt_70, tt_72, tt_73, tt_74, tt_76, tt_79, tt_81, tt_85, tt_88, wrap_in, ite_t, ite_f, dec_t, dec_f, beq_t, beq_f, bne_t, bne_f, nat_succ, Int.toNat_natCast, updS, deadS, and_true, true_and, ge_iff_le, Nat.mul_one, Nat.zero_add, Nat.add_zero, AV.one, lt_one_i, lt_one_b, lt_one_n, List.all_cons, List.all_nil, Bool.and_true, Bool.and_self, Bool.true_and, List.length_cons, List.length_nil, Nat.reduceAdd, Nat.reduceSub, List.replicate_succ, List.replicate_zero, List.cons_append, List.nil_append]
    have e1 : (E.map lint).length = m * 3 := by rw [List.length_map]; exact hE
    have hr4 : List.map (fun j => lt (.int .i64 ([x, dd, r].getD j 0))) (List.range (1 * 3)) = [lint x, lint dd, lint r] := rfl
    rw [hr4, if_pos (show [lint x, lint dd, lint r].all AV.one = true from rfl)]
    have e2 : (E.map lint).take (m * 3) = E.map lint := List.take_of_length_le (by omega)
    simp [e1, e2]
    omega
  · simp
  · exact fun _ => ⟨by simp, fun o y e => by
      match o with
      | 0 => exact e
      | 1 => exact e
      | o + 2 => simp at e⟩
  simp only [putL, List.set_cons_succ, List.set_cons_zero]
  repeat (first | (first | ((first | (with_reducible refine XRes_op tyOK ?_ ?_) | ((with_reducible first | refine ADF_op tyOK ?_ ?_ ?_ | refine ADX_op tyOK ?_ ?_ ?_); (focus rfl)) | (with_reducible refine ADR_alloc1 tyOK ?_ ?_) | ((with_reducible refine ADR_free1 tyOK ?_ ?_ ?_); (focus rfl)) | ((with_reducible refine ADR_free0 tyOK ?_ ?_ ?_); (focus rfl)) | ((with_reducible refine ADR_read1 tyOK ?_ ?_ ?_); (focus rfl)) | (with_reducible refine ADR_chg1 tyOK ?_ ?_)); (focus (first | (with_reducible rfl) | ((simp (disch := omega) only [go_sem]); done))); simp (disch := omega) only [go_sem , iFlat, hs1, hs2, hs3, hs4, hs5, hs6, hs7, hs8, Int.toNat_zero, Int.toNat_one, List.length_nil, Nat.reduceLeDiff, lint_app, intOf]; (first | (with_reducible refine XRes_id ?_) | (with_reducible refine ADF_id ?_) | (with_reducible refine ADR_id1 ?_) | (with_reducible refine ADX_id ?_))) | ((first | (with_reducible refine XRes_skip ?_ ?_) | (with_reducible refine ADF_skip (b := true) ?_ ?_) | (with_reducible refine ADX_skip ?_ ?_) | ((with_reducible refine ADR_skip1 ?_ ?_ ?_); (focus rfl))); (focus (first | rfl | ((simp (disch := omega) only [go_sem]); done))); (simp only [putL, List.set_cons_succ, List.set_cons_zero]))) | ((first | (with_reducible refine XRes_nil ?_) | (with_reducible refine ADF_nil ?_) | (with_reducible refine ADR_nil ?_) | (with_reducible refine ADX_nil ?_)); (first | refine hK _ ?_ | refine hK _ _ ?_); clear hK K))
  (refine Wk.o ?_; (repeat revert hK K); refine We980a ?_; (repeat intro K hK); refine ⟨?_⟩)
  (simp only [bodyX]; refine ⟨_, by simp only [aresults, aresult, XS.as, Try.results25, aload, go_sem, Option.bind_some]; rfl, ?_⟩)
  exact ⟨_, Snap.twoP (snap_rT (snap_flat rfl (by decide) (by rw [List.length_append, hE]; show m * 3 + 3 = _; omega))) (.same _ (.iv _)), rfl, trivial⟩
set_option maxRecDepth 100000 in
set_option maxHeartbeats 2000000 in
theorem pf_r13DecideNo (n : Int) (E : List Int) (m : Nat) (dd x : Int) (hm : m ≤ 1000000) (h0 : rMay n E m x ≠ 0) : PF Try.prog 24 [rT n E m dd, lt (.int .i64 x)] fun r H' => r = .tup [rT n E m dd, lt (.int .i64 (rMay n E m x))] ∧ H' = [] := by
  refine SF.frozen ?_
  have hs1 := trivial; have hs2 := trivial; have hs3 := trivial; have hs4 := trivial; have hs5 := trivial; have hs6 := trivial; have hs7 := trivial; have hs8 := trivial
  have hC := trivial; have hD := trivial
  have hC := pf_r13may n E m dd x hm
  generalize rMay n E m x = c at *
  unfold rT iFlat at hC
  (refine SF_of_bodyX (aload tt) (aload_ok tyOK) Try.func24 rfl (by kernel_rfl) ?_; simp only [Try.ntmps24, List.length_cons, List.length_nil, Nat.reduceAdd, Nat.reduceSub, List.replicate_succ, List.replicate_zero, List.cons_append, List.nil_append])
  unfold rT iFlat
  (refine Wk.o ?_; (repeat revert hK K); refine We980a ?_; (repeat intro K hK); refine ⟨?_⟩)
  (simp only [bodyX]; refine ⟨_, by simp only [aresults, aresult, XS.as, Try.results24, aload, go_sem, Option.bind_some]; rfl, ?_⟩)
  exact ⟨_, Snap.twoP (snap_rT (.iv _ _ (.iv _))) (.same _ (.iv _)), rfl, trivial⟩
set_option maxRecDepth 100000 in
set_option maxHeartbeats 2000000 in
theorem pf_r13ImplyNo (n : Int) (E : List Int) (m : Nat) (dd x r : Int) (hm : m ≤ 1000000) (h0 : rMay n E m x ≠ 0) : PF Try.prog 25 [rT n E m dd, lt (.int .i64 x), lt (.int .i64 r)] fun y H' => y = .tup [rT n E m dd, lt (.int .i64 (rMay n E m x))] ∧ H' = [] := by
  refine SF.frozen ?_
  have hs1 := trivial; have hs2 := trivial; have hs3 := trivial; have hs4 := trivial; have hs5 := trivial; have hs6 := trivial; have hs7 := trivial; have hs8 := trivial
  have hC := trivial; have hD := trivial
  have hC := pf_r13may n E m dd x hm
  generalize rMay n E m x = c at *
  unfold rT iFlat at hC
  (refine SF_of_bodyX (aload tt) (aload_ok tyOK) Try.func25 rfl (by kernel_rfl) ?_; simp only [Try.ntmps25, List.length_cons, List.length_nil, Nat.reduceAdd, Nat.reduceSub, List.replicate_succ, List.replicate_zero, List.cons_append, List.nil_append])
  unfold rT iFlat
  (refine Wk.o ?_; (repeat revert hK K); refine We980a ?_; (repeat intro K hK); refine ⟨?_⟩)
  (simp only [bodyX]; refine ⟨_, by simp only [aresults, aresult, XS.as, Try.results25, aload, go_sem, Option.bind_some]; rfl, ?_⟩)
  exact ⟨_, Snap.twoP (snap_rT (.iv _ _ (.iv _))) (.same _ (.iv _)), rfl, trivial⟩
set_option maxRecDepth 100000 in
set_option maxHeartbeats 2000000 in
theorem pf_r13ImplyArg (n : Int) (E : List Int) (m : Nat) (dd x r : Int) (hm : m ≤ 1000000) (h0 : rMay n E m x = 0) (hr : r < 0) : PF Try.prog 25 [rT n E m dd, lt (.int .i64 x), lt (.int .i64 r)] fun y H' => y = .tup [rT n E m dd, lt (.int .i64 2)] ∧ H' = [] := by
  refine SF.frozen ?_
  have hs1 := trivial; have hs2 := trivial; have hs3 := trivial; have hs4 := trivial; have hs5 := trivial; have hs6 := trivial; have hs7 := trivial; have hs8 := trivial
  have hC := trivial; have hD := trivial
  have hC := pf_r13may n E m dd x hm
  rw [h0] at hC
  unfold rT iFlat at hC
  (refine SF_of_bodyX (aload tt) (aload_ok tyOK) Try.func25 rfl (by kernel_rfl) ?_; simp only [Try.ntmps25, List.length_cons, List.length_nil, Nat.reduceAdd, Nat.reduceSub, List.replicate_succ, List.replicate_zero, List.cons_append, List.nil_append])
  unfold rT iFlat
  (refine Wk.o ?_; (repeat revert hK K); refine We980a ?_; (repeat intro K hK); refine ⟨?_⟩)
  (simp only [bodyX]; refine ⟨_, by simp only [aresults, aresult, XS.as, Try.results25, aload, go_sem, Option.bind_some]; rfl, ?_⟩)
  exact ⟨_, Snap.twoP (snap_rT (.iv _ _ (.iv _))) (.same _ (.iv _)), rfl, trivial⟩
end Go.Proofs.Ytfpmfjmjnmjcdaa
namespace Go.Proofs.Ytfpmfjmjnmjcdaa
structure EnS (E L lv rs : List Int) : Prop where
  len : E.length = L.length * 3
  at0 : ∀ i, i < L.length → E.getD (i * 3) 0 = L.getD i 0
  at1 : ∀ i, i < L.length → E.getD (i * 3 + 1) 0 = lv.getD i 0
  at2 : ∀ i, i < L.length → E.getD (i * 3 + 2) 0 = rs.getD i 0
theorem rPl_or {E L lv rs : List Int} (h : EnS E L lv rs) (v : Int) : (rPl E L.length v = -1 ∧ ∀ i, i < L.length → lvar (L.getD i 0) ≠ v) ∨ ∃ i, i < L.length ∧ lvar (L.getD i 0) = v ∧ rPl E L.length v = i := by
  unfold rPl
  rcases tplF_or (fun i => lvar (E.getD (i * 3) 0)) v L.length 0 with ⟨h1, h2⟩ | ⟨j, _, h1, h2, h3, _⟩
  · exact .inl ⟨h1, fun i hi => by rw [← h.at0 i hi]; exact h2 i (Nat.zero_le _) (by omega)⟩
  · exact .inr ⟨j, by omega, by rw [← h.at0 j (by omega)]; exact h2, h3⟩
theorem mem_at {L : List Int} {x : Int} : x ∈ L ↔ ∃ i, i < L.length ∧ L.getD i 0 = x := by
  rw [List.mem_iff_getElem]
  constructor
  · rintro ⟨i, hi, e⟩; exact ⟨i, hi, by rw [List.getD_eq_getElem?_getD, List.getElem?_eq_getElem hi]; exact e⟩
  · rintro ⟨i, hi, e⟩; exact ⟨i, hi, by rw [List.getD_eq_getElem?_getD, List.getElem?_eq_getElem hi] at e; exact e⟩
theorem rMay_eq {E L lv rs St Of Vl : List Int} {n : Nat} (h : EnS E L lv rs) (hT : TrS n L St Of Vl lv rs) (x : Int) : rMay n E L.length x = mayE n L x := by
  have hn := hT.n1
  unfold rMay mayE lcheck
  rw [if_neg (by omega : ¬((n : Int) < 0 ∨ 100000 < (n : Int)))]
  by_cases h1 : lvar x ≠ 0 ∧ lvar x ≤ n
  · rw [if_pos h1, if_neg (by omega : ¬(lvar x = 0 ∨ (n : Int) < lvar x)), if_neg (by omega)]
    rcases rPl_or h (lvar x) with ⟨h2, h3⟩ | ⟨i, hi, h2, h3⟩
    · have h0 : tv L x = 0 := by
        unfold tv
        rw [if_neg, if_neg]
        · intro hm; obtain ⟨i, hi, e⟩ := mem_at.1 hm; exact h3 i hi (by rw [e, lvar_neg])
        · intro hm; obtain ⟨i, hi, e⟩ := mem_at.1 hm; exact h3 i hi (by rw [e])
      rw [h2, h0, if_neg (by omega), if_pos rfl]
    · have h0 : tv L x ≠ 0 := fun h0 => by
        obtain ⟨a, b⟩ := tv_zero h0
        rcases lvar_pm (x := L.getD i 0) (y := x) (by rw [h2]; exact h1.1) h2 with e | e
        · exact a (mem_at.2 ⟨i, hi, e⟩)
        · exact b (mem_at.2 ⟨i, hi, e⟩)
      rw [h3, if_pos (by omega), if_neg h0]
  · rw [if_neg h1, if_pos (by omega : lvar x = 0 ∨ (n : Int) < lvar x), if_pos (by omega)]
end Go.Proofs.Ytfpmfjmjnmjcdaa
namespace Go.Proofs.Ytfpmfjmjnmjcdaa
theorem lvar_self {v : Int} (h : 1 ≤ v) (h2 : v ≤ 100000) : lvar v = v := by unfold lvar; rw [if_pos ⟨h, h2⟩]
theorem en_put {E L lv rs : List Int} (h : EnS E L lv rs) (h1 : lv.length = L.length) (h2 : rs.length = L.length) (x a r : Int) : EnS (E ++ [x, a, r]) (L ++ [x]) (lv ++ [a]) (rs ++ [r]) := by
  have hE := h.len
  have key : ∀ (xs ys : List Int) (k : Nat), (xs ++ ys).getD k 0 = if k < xs.length then xs.getD k 0 else ys.getD (k - xs.length) 0 := fun xs ys k => by
    rw [List.getD_eq_getElem?_getD, List.getElem?_append]
    split
    · rw [List.getD_eq_getElem?_getD]
    · rw [List.getD_eq_getElem?_getD]
  refine ⟨by rw [List.length_append, List.length_append, hE]; show _ + 3 = (_ + 1) * 3; omega, fun i hi => ?_, fun i hi => ?_, fun i hi => ?_⟩ <;> rw [List.length_append] at hi <;> (have hi : i < L.length + 1 := hi) <;> rw [key, key]
  · by_cases hlt : i < L.length
    · rw [if_pos (by omega), if_pos hlt]; exact h.at0 i hlt
    · rw [if_neg (by omega), if_neg hlt, show i * 3 - E.length = 0 by omega, show i - L.length = 0 by omega]; rfl
  · by_cases hlt : i < L.length
    · rw [if_pos (by omega), if_pos (by omega)]; exact h.at1 i hlt
    · rw [if_neg (by omega), if_neg (by omega), show i * 3 + 1 - E.length = 1 by omega, show i - lv.length = 0 by omega]; rfl
  · by_cases hlt : i < L.length
    · rw [if_pos (by omega), if_pos (by omega)]; exact h.at2 i hlt
    · rw [if_neg (by omega), if_neg (by omega), show i * 3 + 2 - E.length = 2 by omega, show i - rs.length = 0 by omega]; rfl
theorem en_nil : EnS [] [] [] [] := ⟨rfl, fun i h => by simp at h, fun i h => by simp at h, fun i h => by simp at h⟩
end Go.Proofs.Ytfpmfjmjnmjcdaa
