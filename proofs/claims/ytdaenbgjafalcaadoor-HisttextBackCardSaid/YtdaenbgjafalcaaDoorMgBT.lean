import Derived.Test.YtdaenbgjafalcaaDoorMgBQ
import Derived.Test.YtdaenbgjafalcaaDoorMgBF
import Derived.Test.YtdaenbgjafalcaaDoorMgBK
import Derived.Test.YtdaenbgjafalcaaDoorMgBG
import Derived.Test.YtdaenbgjafalcaaDoorMgBS
import Derived.Test.YtdaenbgjafalcaaDoorMgBJ
import Derived.Test.YtdaenbgjafalcaaDoorMgBR
namespace Go.Proofs.YtdaenbgjafalcaaDoor
open Go.RowKit Go.Lib
set_option linter.unusedVariables false
set_option linter.unusedSimpArgs false
def rX (K z : Int) (T : List Tok3) : Ev3 := if (T.getD 0 tok0).2.2 ≠ wCall ∧ (T.getD 0 tok0).2.2 ≠ wRet then ev0 else if (evN K z T).2.2 ≠ 0 then ⟨evW T, 0, 0⟩ else ⟨evW T, (evN K z T).1.getD 0 0, (evN K z T).1.getD 1 0⟩
theorem Wf97ea {A B : Prop} (h9 : B) (w : B → A := by (intro h9; (repeat intro K hK); refine ⟨?_⟩; (repeat (first | (first | (with_reducible first | refine AX_block ?_ | refine AX_skip ?_ | refine AX_exit ?_ | refine AX_ret ?_ | refine AX_ift ?_ | refine AX_iff ?_ | refine AX_seq_k (fun K hK => ?_) | refine ContX.use (by assumption) ?_) | simp only [thenX, inBlockX, if_true, if_false, reduceCtorEq]) | ((first | (refine XRes_litF tyOK (by rfl) rfl (by decide) rfl rfl ?_) | (refine ADF_litF tyOK (by rfl) rfl (by decide) rfl rfl ?_)); (simp only [List.map_cons, List.map_nil, intOf, putL, List.set_cons_succ, List.set_cons_zero])) | (first | ((first | (with_reducible refine XRes_op tyOK ?_ ?_) | ((with_reducible first | refine ADF_op tyOK ?_ ?_ ?_ | refine ADX_op tyOK ?_ ?_ ?_); (focus rfl)) | (with_reducible refine ADR_alloc1 tyOK ?_ ?_) | ((with_reducible refine ADR_free1 tyOK ?_ ?_ ?_); (focus rfl)) | ((with_reducible refine ADR_free0 tyOK ?_ ?_ ?_); (focus rfl)) | ((with_reducible refine ADR_read1 tyOK ?_ ?_ ?_); (focus rfl)) | (with_reducible refine ADR_chg1 tyOK ?_ ?_)); (focus (first | (with_reducible rfl) | ((simp (disch := omega) only [go_sem]); done))); simp (disch := omega) only [go_sem , hs1, hs2, hs3, hs4, hs5, hs6, hs7, hs8, hs9, hsa, hsb, hsc, Int.toNat_zero, Int.toNat_one, Int.reduceToNat, Nat.reduceMul, Nat.reduceAdd, Nat.zero_add, Int.toNat_natCast, List.length_nil, List.length_cons, ba_size, ba_toList, List.getD_cons_zero, List.getD_cons_succ, beq_self_eq_true, bne_self_eq_false, hW1, hW2]; (first | (with_reducible refine XRes_id ?_) | (with_reducible refine ADF_id ?_) | (with_reducible refine ADR_id1 ?_) | (with_reducible refine ADX_id ?_))) | ((first | (with_reducible refine XRes_skip ?_ ?_) | (with_reducible refine ADF_skip (b := true) ?_ ?_) | (with_reducible refine ADX_skip ?_ ?_) | ((with_reducible refine ADR_skip1 ?_ ?_ ?_); (focus rfl))); (focus (first | rfl | ((simp (disch := omega) only [go_sem]); done))); (simp only [putL, List.set_cons_succ, List.set_cons_zero]))) | ((first | (with_reducible refine XRes_nil ?_) | (with_reducible refine ADF_nil ?_) | (with_reducible refine ADR_nil ?_) | (with_reducible refine ADX_nil ?_)); (first | refine hK _ ?_ | refine hK _ _ ?_); clear hK K) | (first | (first | refine XTL (by rfl) hN ?_ | refine ATL tyOK (by rfl) hN ?_ | refine XTL (by rfl) hOp ?_ | refine ATL tyOK (by rfl) hOp ?_ | refine XTL (by rfl) hHs ?_ | refine ATL tyOK (by rfl) hHs ?_)) | ((with_reducible refine AX_reg0 fun K hK => ?_); simp only [go_sem]))); refine Wk.o ?_; (repeat revert hK K); exact h9)) : A := w h9
theorem Wf97eb {A B : Prop} (h9 : B) (w : B → A := by (intro h9; (repeat intro K hK); refine ⟨?_⟩; (repeat (first | (first | ((with_reducible refine ADL_free tyOK ?_ ?_ ?_); (focus rfl); (focus (first | (with_reducible rfl) | ((simp (disch := omega) only [go_sem]); done))); simp (disch := omega) only [go_sem , hs1, hs2, hs3, hs4, hs5, hs6, hs7, hs8, hs9, hsa, hsb, hsc, Int.toNat_zero, Int.toNat_one, Int.reduceToNat, Nat.reduceMul, Nat.reduceAdd, Nat.zero_add, Int.toNat_natCast, List.length_nil, List.length_cons, ba_size, ba_toList, List.getD_cons_zero, List.getD_cons_succ, beq_self_eq_true, bne_self_eq_false, hW1, hW2]; (with_reducible refine ADL_id ?_)) | ((refine ADL_look tyOK (by rfl) (by rfl) (fun H hS => by first | (simp only [go_sem, hS , hs1, hs2, hs3, hs4, hs5, hs6, hs7, hs8, hs9, hsa, hsb, hsc, Int.toNat_zero, Int.toNat_one, Int.reduceToNat, Nat.reduceMul, Nat.reduceAdd, Nat.zero_add, Int.toNat_natCast, List.length_nil, List.length_cons, ba_size, ba_toList, List.getD_cons_zero, List.getD_cons_succ, beq_self_eq_true, bne_self_eq_false, hW1, hW2]; rfl) | (simp (disch := omega) only [go_sem , hs1, hs2, hs3, hs4, hs5, hs6, hs7, hs8, hs9, hsa, hsb, hsc, Int.toNat_zero, Int.toNat_one, Int.reduceToNat, Nat.reduceMul, Nat.reduceAdd, Nat.zero_add, Int.toNat_natCast, List.length_nil, List.length_cons, ba_size, ba_toList, List.getD_cons_zero, List.getD_cons_succ, beq_self_eq_true, bne_self_eq_false, hW1, hW2]; rfl)) ?_); (simp only [putL, List.set_cons_succ, List.set_cons_zero])) | ((with_reducible refine ADL_chg tyOK ?_ ?_ ?_); (exact Nat.le_of_ble_eq_true rfl); (focus (first | (with_reducible rfl) | ((simp (disch := omega) only [go_sem]); done))); simp (disch := omega) only [go_sem , hs1, hs2, hs3, hs4, hs5, hs6, hs7, hs8, hs9, hsa, hsb, hsc, Int.toNat_zero, Int.toNat_one, Int.reduceToNat, Nat.reduceMul, Nat.reduceAdd, Nat.zero_add, Int.toNat_natCast, List.length_nil, List.length_cons, ba_size, ba_toList, List.getD_cons_zero, List.getD_cons_succ, beq_self_eq_true, bne_self_eq_false, hW1, hW2]; (first | (refine ⟨(by decide), (fun hh => by first | trivial | rfl | cases hh), ?_⟩) | (refine ⟨(by decide), ?_⟩) | (refine ⟨(fun hh => by first | trivial | rfl | cases hh), ?_⟩) | skip); (with_reducible refine ADL_id ?_))) | ((refine ADL_nil ?_); (refine hK _ _ _ (Nat.le_of_ble_eq_true rfl) ?_); clear hK K))); refine Wk.o ?_; (repeat revert hK K); exact h9)) : A := w h9
theorem Wf97ec {A B : Prop} (h9 : B) (w : B → A := by (intro h9; (repeat intro K hK); refine ⟨?_⟩; (repeat (first | (first | (with_reducible first | refine AX_block ?_ | refine AX_skip ?_ | refine AX_exit ?_ | refine AX_ret ?_ | refine AX_ift ?_ | refine AX_iff ?_ | refine AX_seq_k (fun K hK => ?_) | refine ContX.use (by assumption) ?_) | simp only [thenX, inBlockX, if_true, if_false, reduceCtorEq]) | ((first | (refine XRes_litF tyOK (by rfl) rfl (by decide) rfl rfl ?_) | (refine ADF_litF tyOK (by rfl) rfl (by decide) rfl rfl ?_)); (simp only [List.map_cons, List.map_nil, intOf, putL, List.set_cons_succ, List.set_cons_zero])) | (first | ((first | (with_reducible refine XRes_op tyOK ?_ ?_) | ((with_reducible first | refine ADF_op tyOK ?_ ?_ ?_ | refine ADX_op tyOK ?_ ?_ ?_); (focus rfl)) | (with_reducible refine ADR_alloc1 tyOK ?_ ?_) | ((with_reducible refine ADR_free1 tyOK ?_ ?_ ?_); (focus rfl)) | ((with_reducible refine ADR_free0 tyOK ?_ ?_ ?_); (focus rfl)) | ((with_reducible refine ADR_read1 tyOK ?_ ?_ ?_); (focus rfl)) | (with_reducible refine ADR_chg1 tyOK ?_ ?_)); (focus (first | (with_reducible rfl) | ((simp (disch := omega) only [go_sem]); done))); simp (disch := omega) only [go_sem , hs1, hs2, hs3, hs4, hs5, hs6, hs7, hs8, hs9, hsa, hsb, hsc, Int.toNat_zero, Int.toNat_one, Int.reduceToNat, Nat.reduceMul, Nat.reduceAdd, Nat.zero_add, Int.toNat_natCast, List.length_nil, List.length_cons, ba_size, ba_toList, List.getD_cons_zero, List.getD_cons_succ, beq_self_eq_true, bne_self_eq_false, hW1, hW2]; (first | (with_reducible refine XRes_id ?_) | (with_reducible refine ADF_id ?_) | (with_reducible refine ADR_id1 ?_) | (with_reducible refine ADX_id ?_))) | ((first | (with_reducible refine XRes_skip ?_ ?_) | (with_reducible refine ADF_skip (b := true) ?_ ?_) | (with_reducible refine ADX_skip ?_ ?_) | ((with_reducible refine ADR_skip1 ?_ ?_ ?_); (focus rfl))); (focus (first | rfl | ((simp (disch := omega) only [go_sem]); done))); (simp only [putL, List.set_cons_succ, List.set_cons_zero]))) | ((first | (with_reducible refine XRes_nil ?_) | (with_reducible refine ADF_nil ?_) | (with_reducible refine ADR_nil ?_) | (with_reducible refine ADX_nil ?_)); (first | refine hK _ ?_ | refine hK _ _ ?_); clear hK K) | (first | (first | refine XTL (by rfl) hN ?_ | refine ATL tyOK (by rfl) hN ?_ | refine XTL (by rfl) hOp ?_ | refine ATL tyOK (by rfl) hOp ?_ | refine XTL (by rfl) hHs ?_ | refine ATL tyOK (by rfl) hHs ?_)) | ((with_reducible refine AX_reg0 fun K hK => ?_); simp only [go_sem]) | ((refine AX_drawG1 tyOK (by kernel_rfl) (by rfl) (by kernel_rfl) fun K hK => ?_); (first | simp only [go_sem, preN, effOp, runF, alM, mapOp, alD2, kdOf2, Bool.not_false, Bool.not_true, reduceCtorEq] | simp only [go_sem, preN, effOp, runF, alM, mapOp, Bool.not_false, Bool.not_true, reduceCtorEq] | simp only [go_sem, preN, effOp, runF, alD2, kdOf2, Bool.not_false, Bool.not_true, reduceCtorEq] | simp only [go_sem, alD2, kdOf2, Bool.not_false, Bool.not_true, reduceCtorEq] | simp only [go_sem, preN, effOp, runF, Bool.not_false, Bool.not_true, reduceCtorEq] | simp only [go_sem])))); refine Wk.o ?_; (repeat revert hK K); exact h9)) : A := w h9
set_option maxRecDepth 100000 in
set_option maxHeartbeats 4000000 in
theorem pf_rone0 (o : Ob) (es : List Ev3) (T : List Tok3) (z : Int) (hT : TokOK T) (hT0 : T.length ≠ 0) (c1 : (T.getD 0 tok0).2.2 ≠ wCall) (c2 : (T.getD 0 tok0).2.2 ≠ wRet) :
    PF Tryd.prog 22 [obA o, .iv (iEvs es), .iv (iTokL T), lt (.int .i64 z)] fun r H' => r = .tup [evA (rX o.K z T), lt (.int .i64 (evOne o.K z es T).2.1), lt (.int .i64 (evOne o.K z es T).2.2)] ∧ H' = [] := by
  refine SF.forgetAll ?_
  have hs1 := trivial; have hs2 := trivial; have hs3 := trivial; have hs4 := trivial; have hs5 := trivial; have hs6 := trivial; have hs7 := trivial; have hs8 := trivial; have hs9 := trivial; have hsa := trivial; have hsb := trivial; have hsc := trivial; have hN := trivial; have hOp := trivial; have hHs := trivial; have hW1 := trivial; have hW2 := trivial
  have hq : evOne o.K z es T = (ev0, (T.getD 0 tok0).2.1, 8) := if_pos ⟨c1, c2⟩
  have hx : rX o.K z T = ev0 := if_pos ⟨c1, c2⟩
  obtain ⟨e1, e2, e3⟩ := tokL_atL (T := T) (k := 0) (by omega)
  have hs2 : (tokL T).getD 1 undef = _ := e2
  have hs3 : (tokL T).getD 2 undef = _ := e3
  have hs4 : (⟨#[99, 97, 108, 108]⟩ : ByteArray) = ba wCall := rfl
  have hs5 : (⟨#[114, 101, 116]⟩ : ByteArray) = ba wRet := rfl
  have hs6 : ((T.getD 0 tok0).2.2 == wCall) = false := by simpa using c1
  have hs7 : ((T.getD 0 tok0).2.2 == wRet) = false := by simpa using c2
  have hln := hT.len
  rw [hq, hx]
  generalize (T.getD 0 tok0).2.1 = tp at *
  generalize (T.getD 0 tok0).2.2 = tx at *
  obtain ⟨S, Kn, I, R⟩ := o
  unfold iTokL
  unfold obA
  (refine SF_of_bodyX (aload tt) (aload_ok tyOK) Tryd.func22 rfl (by kernel_rfl) ?_; simp only [Tryd.ntmps22, List.length_cons, List.length_nil, Nat.reduceAdd, Nat.reduceSub, List.replicate_succ, List.replicate_zero, List.cons_append, List.nil_append])
  (refine Wk.o ?_; (repeat revert hK K); refine Wf97ea ?_; (repeat intro K hK); refine ⟨?_⟩)
  ((refine AX_drawLk (fun _ => True) 8 [.free, .free, .free, .free, .free, .chg, .free, .free] [false, false, false, false, true, true, false, false] (by kernel_rfl) (by decide +kernel) (by decide +kernel) trivial fun K hK => ?_); (simp only [go_sem]); (refine Wk.o ?_; (repeat revert hK K); refine Wf97eb ?_; (repeat intro K hK); refine ⟨?_⟩))
  (refine Wk.o ?_; (repeat revert hK K); refine Wf97ea ?_; (repeat intro K hK); refine ⟨?_⟩)
  (simp only [bodyX]; refine ⟨_, by simp only [aresults, aresult, XS.as, Tryd.results22, aload, go_sem, Option.bind_some]; rfl, ?_⟩)
  exact ⟨ids_idB rfl, rfl, trivial⟩
set_option maxRecDepth 100000 in
set_option maxHeartbeats 8000000 in
theorem pf_roneC (o : Ob) (es : List Ev3) (T : List Tok3) (z : Int) (hT : TokOK T) (hT0 : T.length ≠ 0) (hK : 1 ≤ o.K ∧ o.K ≤ 64) (hes : es.length ≤ 100000) (c1 : (T.getD 0 tok0).2.2 = wCall) :
    PF Tryd.prog 22 [obA o, .iv (iEvs es), .iv (iTokL T), lt (.int .i64 z)] fun r H' => r = .tup [evA (rX o.K z T), lt (.int .i64 (evOne o.K z es T).2.1), lt (.int .i64 (evOne o.K z es T).2.2)] ∧ H' = [] := by
  refine SF.forgetAll ?_
  have hs1 := trivial; have hs2 := trivial; have hs3 := trivial; have hs4 := trivial; have hs5 := trivial; have hs6 := trivial; have hs7 := trivial; have hs8 := trivial; have hs9 := trivial; have hsa := trivial; have hsb := trivial; have hsc := trivial; have hN := trivial; have hOp := trivial; have hHs := trivial; have hW1 := trivial; have hW2 := trivial
  have hne : ¬ wRet = wCall := by decide
  have hW : evW T = 1 := by unfold evW; rw [c1, if_pos rfl]
  have hEv : evN o.K z T = nums T wCall [1, 0] [1000, o.K - 1] z := by unfold evN evHi; rw [c1, if_pos rfl]
  have hN := pf_rnums T wCall [1, 0] [1000, o.K - 1] z hT (by simp) (by simp)
  rw [← hEv] at hN
  have hq0 : evOne o.K z es T = if (evN o.K z T).2.2 ≠ 0 then (ev0, (evN o.K z T).2.1, (evN o.K z T).2.2) else if (eLast es es.length ((evN o.K z T).1.getD 0 0) = 1) ↔ (1 : Int) = 1 then (ev0, (T.getD 0 tok0).2.1, 33) else if es.length = 10000 then (ev0, (T.getD 0 tok0).2.1, 3) else (⟨1, (evN o.K z T).1.getD 0 0, (evN o.K z T).1.getD 1 0⟩, z, 0) := by
    unfold evOne; rw [if_neg (by rw [c1]; simp), hW]
  have hx0 : rX o.K z T = if (evN o.K z T).2.2 ≠ 0 then ⟨1, 0, 0⟩ else ⟨1, (evN o.K z T).1.getD 0 0, (evN o.K z T).1.getD 1 0⟩ := by
    unfold rX; rw [if_neg (by rw [c1]; simp), hW]
  have hok := fun h => nums2_ok (T := T) (w := wCall) (a := 1) (b := 0) (c := 1000) (d := o.K - 1) (z := z) h
  rw [← hEv] at hok
  obtain ⟨e1, e2, e3⟩ := tokL_atL (T := T) (k := 0) (by omega)
  have hs2 : (tokL T).getD 1 undef = _ := e2
  have hs3 : (tokL T).getD 2 undef = .string (ba wCall) := by rw [← c1]; exact e3
  have hs4 : (⟨#[99, 97, 108, 108]⟩ : ByteArray) = ba wCall := rfl
  have hs5 : (⟨#[114, 101, 116]⟩ : ByteArray) = ba wRet := rfl
  have hs6 : (wRet == wCall) = false := by decide
  have hs8 : (wCall == wRet) = false := by decide
  have hsb : ((2 : Int) == 1) = false := by decide
  have hW1 : (true == false) = false := rfl
  have hW2 : (false == true) = false := rfl
  have hln := hT.len
  rw [hq0, hx0]
  clear hq0 hx0 hEv c1 hW e1 e2 e3
  generalize (T.getD 0 tok0).2.1 = tp at *
  obtain ⟨S, Kn, I, R⟩ := o
  dsimp only at *
  generalize evN Kn z T = Q at *
  obtain ⟨ns, a, e⟩ := Q
  dsimp only at *
  unfold obA
  by_cases he : e = 0
  · subst he
    rw [if_neg (by simp), if_neg (by simp)]
    obtain ⟨_, g1, g2, g3⟩ := hok rfl
    obtain ⟨p, n, rfl⟩ : ∃ p n, ns = [p, n] := by
      match ns, g1 with
      | [p, n], _ => exact ⟨p, n, rfl⟩
    simp only [List.getD_cons_zero, List.getD_cons_succ] at g2 g3 ⊢
    clear hok g1
    have hOp := pf_rOpenL es hes
    have hHs := pf_has (eOps es) p (by have := eOps_len es; omega)
    unfold iInts at hN
    have hl2 : ([p, n] : List Int).length = 2 := rfl
    rw [hl2] at hN
    by_cases hop : eLast es es.length p = 1
    · rw [decide_eq_true (mem_eOps.2 hop)] at hHs
      rw [if_pos (by simp [hop])]
      unfold iTokL at *
      (refine SF_of_bodyX (aload tt) (aload_ok tyOK) Tryd.func22 rfl (by kernel_rfl) ?_; simp only [Tryd.ntmps22, List.length_cons, List.length_nil, Nat.reduceAdd, Nat.reduceSub, List.replicate_succ, List.replicate_zero, List.cons_append, List.nil_append])
      (refine Wk.o ?_; (repeat revert hK K); refine Wf97ec ?_; (repeat intro K hK); refine ⟨?_⟩)
      ((refine AX_drawLk (fun H => H[2]? = some (some ⟨51, [lt (.int .i64 1), lt (.int .i64 p), lt (.int .i64 n)]⟩)) 8 [.free, .free, .free, .free, .free, .chg, .free, .free] [true, false, false, false, true, true, false, false] (by kernel_rfl) (by decide +kernel) (by decide +kernel) rfl fun K hK => ?_); (simp only [go_sem]); (refine Wk.o ?_; (repeat revert hK K); refine Wf97eb ?_; (repeat intro K hK); refine ⟨?_⟩))
      (refine Wk.o ?_; (repeat revert hK K); refine Wf97ea ?_; (repeat intro K hK); refine ⟨?_⟩)
      (simp only [bodyX]; refine ⟨_, by simp only [aresults, aresult, XS.as, Tryd.results22, aload, go_sem, Option.bind_some]; rfl, ?_⟩)
      exact ⟨ids_idB rfl, rfl, trivial⟩
    · rw [decide_eq_false fun h => hop (mem_eOps.1 h)] at hHs
      rw [if_neg (by simp [hop])]
      by_cases hl : es.length = 10000
      · rw [if_pos hl]
        have hsc : iEvs es = .sl (fun j => .lit (.int .i64 ((flatE es).getD j 0))) es.length 3 := rfl
        have hs9 : ((es.length : Int) == 10000) = true := by simp [hl]
        unfold iTokL at *
        (refine SF_of_bodyX (aload tt) (aload_ok tyOK) Tryd.func22 rfl (by kernel_rfl) ?_; simp only [Tryd.ntmps22, List.length_cons, List.length_nil, Nat.reduceAdd, Nat.reduceSub, List.replicate_succ, List.replicate_zero, List.cons_append, List.nil_append])
        (refine Wk.o ?_; (repeat revert hK K); refine Wf97ec ?_; (repeat intro K hK); refine ⟨?_⟩)
        ((refine AX_drawLk (fun H => H[2]? = some (some ⟨51, [lt (.int .i64 1), lt (.int .i64 p), lt (.int .i64 n)]⟩)) 8 [.free, .free, .free, .free, .free, .chg, .free, .free] [true, false, false, false, true, true, false, false] (by kernel_rfl) (by decide +kernel) (by decide +kernel) rfl fun K hK => ?_); (simp only [go_sem]); (refine Wk.o ?_; (repeat revert hK K); refine Wf97eb ?_; (repeat intro K hK); refine ⟨?_⟩))
        (refine Wk.o ?_; (repeat revert hK K); refine Wf97ea ?_; (repeat intro K hK); refine ⟨?_⟩)
        (simp only [bodyX]; refine ⟨_, by simp only [aresults, aresult, XS.as, Tryd.results22, aload, go_sem, Option.bind_some]; rfl, ?_⟩)
        exact ⟨ids_idB rfl, rfl, trivial⟩
      · rw [if_neg hl]
        have hsc : iEvs es = .sl (fun j => .lit (.int .i64 ((flatE es).getD j 0))) es.length 3 := rfl
        have hs9 : ((es.length : Int) == 10000) = false := by simp; omega
        unfold iTokL at *
        (refine SF_of_bodyX (aload tt) (aload_ok tyOK) Tryd.func22 rfl (by kernel_rfl) ?_; simp only [Tryd.ntmps22, List.length_cons, List.length_nil, Nat.reduceAdd, Nat.reduceSub, List.replicate_succ, List.replicate_zero, List.cons_append, List.nil_append])
        (refine Wk.o ?_; (repeat revert hK K); refine Wf97ec ?_; (repeat intro K hK); refine ⟨?_⟩)
        (simp only [bodyX]; refine ⟨_, by simp only [aresults, aresult, XS.as, Tryd.results22, aload, go_sem, Option.bind_some]; rfl, ?_⟩)
        exact ⟨ids_idB rfl, rfl, trivial⟩
  · rw [if_pos he, if_pos he]
    have hsa : (e != 0) = true := by simpa using he
    clear hok
    unfold iTokL at *
    (refine SF_of_bodyX (aload tt) (aload_ok tyOK) Tryd.func22 rfl (by kernel_rfl) ?_; simp only [Tryd.ntmps22, List.length_cons, List.length_nil, Nat.reduceAdd, Nat.reduceSub, List.replicate_succ, List.replicate_zero, List.cons_append, List.nil_append])
    (refine Wk.o ?_; (repeat revert hK K); refine Wf97ea ?_; (repeat intro K hK); refine ⟨?_⟩)
    (simp only [bodyX]; refine ⟨_, by simp only [aresults, aresult, XS.as, Tryd.results22, aload, go_sem, Option.bind_some]; rfl, ?_⟩)
    exact ⟨ids_idB rfl, rfl, trivial⟩
set_option maxRecDepth 100000 in
set_option maxHeartbeats 8000000 in
theorem pf_roneR (o : Ob) (es : List Ev3) (T : List Tok3) (z : Int) (hT : TokOK T) (hT0 : T.length ≠ 0) (hK : 1 ≤ o.K ∧ o.K ≤ 64) (hes : es.length ≤ 100000) (c1 : (T.getD 0 tok0).2.2 = wRet) :
    PF Tryd.prog 22 [obA o, .iv (iEvs es), .iv (iTokL T), lt (.int .i64 z)] fun r H' => r = .tup [evA (rX o.K z T), lt (.int .i64 (evOne o.K z es T).2.1), lt (.int .i64 (evOne o.K z es T).2.2)] ∧ H' = [] := by
  refine SF.forgetAll ?_
  have hs1 := trivial; have hs2 := trivial; have hs3 := trivial; have hs4 := trivial; have hs5 := trivial; have hs6 := trivial; have hs7 := trivial; have hs8 := trivial; have hs9 := trivial; have hsa := trivial; have hsb := trivial; have hsc := trivial; have hN := trivial; have hOp := trivial; have hHs := trivial; have hW1 := trivial; have hW2 := trivial
  have hne : ¬ wRet = wCall := by decide
  have hW : evW T = 2 := by unfold evW; rw [c1, if_neg hne]
  have hEv : evN o.K z T = nums T wRet [1, 0] [1000, 1000000] z := by unfold evN evHi; rw [c1, if_neg hne]
  have hN := pf_rnums T wRet [1, 0] [1000, 1000000] z hT (by simp) (by simp)
  rw [← hEv] at hN
  have hq0 : evOne o.K z es T = if (evN o.K z T).2.2 ≠ 0 then (ev0, (evN o.K z T).2.1, (evN o.K z T).2.2) else if (eLast es es.length ((evN o.K z T).1.getD 0 0) = 1) ↔ (2 : Int) = 1 then (ev0, (T.getD 0 tok0).2.1, 33) else if es.length = 10000 then (ev0, (T.getD 0 tok0).2.1, 3) else (⟨2, (evN o.K z T).1.getD 0 0, (evN o.K z T).1.getD 1 0⟩, z, 0) := by
    unfold evOne; rw [if_neg (by rw [c1]; simp), hW]
  have hx0 : rX o.K z T = if (evN o.K z T).2.2 ≠ 0 then ⟨2, 0, 0⟩ else ⟨2, (evN o.K z T).1.getD 0 0, (evN o.K z T).1.getD 1 0⟩ := by
    unfold rX; rw [if_neg (by rw [c1]; simp), hW]
  have hok := fun h => nums2_ok (T := T) (w := wRet) (a := 1) (b := 0) (c := 1000) (d := 1000000) (z := z) h
  rw [← hEv] at hok
  obtain ⟨e1, e2, e3⟩ := tokL_atL (T := T) (k := 0) (by omega)
  have hs2 : (tokL T).getD 1 undef = _ := e2
  have hs3 : (tokL T).getD 2 undef = .string (ba wRet) := by rw [← c1]; exact e3
  have hs4 : (⟨#[99, 97, 108, 108]⟩ : ByteArray) = ba wCall := rfl
  have hs5 : (⟨#[114, 101, 116]⟩ : ByteArray) = ba wRet := rfl
  have hs6 : (wRet == wCall) = false := by decide
  have hs8 : (wCall == wRet) = false := by decide
  have hsb : ((2 : Int) == 1) = false := by decide
  have hW1 : (true == false) = false := rfl
  have hW2 : (false == true) = false := rfl
  have hln := hT.len
  rw [hq0, hx0]
  clear hq0 hx0 hEv c1 hW e1 e2 e3
  generalize (T.getD 0 tok0).2.1 = tp at *
  obtain ⟨S, Kn, I, R⟩ := o
  dsimp only at *
  generalize evN Kn z T = Q at *
  obtain ⟨ns, a, e⟩ := Q
  dsimp only at *
  unfold obA
  by_cases he : e = 0
  · subst he
    rw [if_neg (by simp), if_neg (by simp)]
    obtain ⟨_, g1, g2, g3⟩ := hok rfl
    obtain ⟨p, n, rfl⟩ : ∃ p n, ns = [p, n] := by
      match ns, g1 with
      | [p, n], _ => exact ⟨p, n, rfl⟩
    simp only [List.getD_cons_zero, List.getD_cons_succ] at g2 g3 ⊢
    clear hok g1
    have hOp := pf_rOpenL es hes
    have hHs := pf_has (eOps es) p (by have := eOps_len es; omega)
    unfold iInts at hN
    have hl2 : ([p, n] : List Int).length = 2 := rfl
    rw [hl2] at hN
    by_cases hop : eLast es es.length p = 1
    · rw [decide_eq_true (mem_eOps.2 hop)] at hHs
      rw [if_neg (by simp [hop])]
      by_cases hl : es.length = 10000
      · rw [if_pos hl]
        have hsc : iEvs es = .sl (fun j => .lit (.int .i64 ((flatE es).getD j 0))) es.length 3 := rfl
        have hs9 : ((es.length : Int) == 10000) = true := by simp [hl]
        unfold iTokL at *
        (refine SF_of_bodyX (aload tt) (aload_ok tyOK) Tryd.func22 rfl (by kernel_rfl) ?_; simp only [Tryd.ntmps22, List.length_cons, List.length_nil, Nat.reduceAdd, Nat.reduceSub, List.replicate_succ, List.replicate_zero, List.cons_append, List.nil_append])
        (refine Wk.o ?_; (repeat revert hK K); refine Wf97ec ?_; (repeat intro K hK); refine ⟨?_⟩)
        ((refine AX_drawLk (fun H => H[2]? = some (some ⟨51, [lt (.int .i64 2), lt (.int .i64 p), lt (.int .i64 n)]⟩)) 8 [.free, .free, .free, .free, .free, .chg, .free, .free] [true, false, false, false, true, true, false, false] (by kernel_rfl) (by decide +kernel) (by decide +kernel) rfl fun K hK => ?_); (simp only [go_sem]); (refine Wk.o ?_; (repeat revert hK K); refine Wf97eb ?_; (repeat intro K hK); refine ⟨?_⟩))
        (refine Wk.o ?_; (repeat revert hK K); refine Wf97ea ?_; (repeat intro K hK); refine ⟨?_⟩)
        (simp only [bodyX]; refine ⟨_, by simp only [aresults, aresult, XS.as, Tryd.results22, aload, go_sem, Option.bind_some]; rfl, ?_⟩)
        exact ⟨ids_idB rfl, rfl, trivial⟩
      · rw [if_neg hl]
        have hsc : iEvs es = .sl (fun j => .lit (.int .i64 ((flatE es).getD j 0))) es.length 3 := rfl
        have hs9 : ((es.length : Int) == 10000) = false := by simp; omega
        unfold iTokL at *
        (refine SF_of_bodyX (aload tt) (aload_ok tyOK) Tryd.func22 rfl (by kernel_rfl) ?_; simp only [Tryd.ntmps22, List.length_cons, List.length_nil, Nat.reduceAdd, Nat.reduceSub, List.replicate_succ, List.replicate_zero, List.cons_append, List.nil_append])
        (refine Wk.o ?_; (repeat revert hK K); refine Wf97ec ?_; (repeat intro K hK); refine ⟨?_⟩)
        (simp only [bodyX]; refine ⟨_, by simp only [aresults, aresult, XS.as, Tryd.results22, aload, go_sem, Option.bind_some]; rfl, ?_⟩)
        exact ⟨ids_idB rfl, rfl, trivial⟩
    · rw [decide_eq_false fun h => hop (mem_eOps.1 h)] at hHs
      rw [if_pos (by simp [hop])]
      unfold iTokL at *
      (refine SF_of_bodyX (aload tt) (aload_ok tyOK) Tryd.func22 rfl (by kernel_rfl) ?_; simp only [Tryd.ntmps22, List.length_cons, List.length_nil, Nat.reduceAdd, Nat.reduceSub, List.replicate_succ, List.replicate_zero, List.cons_append, List.nil_append])
      (refine Wk.o ?_; (repeat revert hK K); refine Wf97ec ?_; (repeat intro K hK); refine ⟨?_⟩)
      ((refine AX_drawLk (fun H => H[2]? = some (some ⟨51, [lt (.int .i64 2), lt (.int .i64 p), lt (.int .i64 n)]⟩)) 8 [.free, .free, .free, .free, .free, .chg, .free, .free] [true, false, false, false, true, true, false, false] (by kernel_rfl) (by decide +kernel) (by decide +kernel) rfl fun K hK => ?_); (simp only [go_sem]); (refine Wk.o ?_; (repeat revert hK K); refine Wf97eb ?_; (repeat intro K hK); refine ⟨?_⟩))
      (refine Wk.o ?_; (repeat revert hK K); refine Wf97ea ?_; (repeat intro K hK); refine ⟨?_⟩)
      (simp only [bodyX]; refine ⟨_, by simp only [aresults, aresult, XS.as, Tryd.results22, aload, go_sem, Option.bind_some]; rfl, ?_⟩)
      exact ⟨ids_idB rfl, rfl, trivial⟩
  · rw [if_pos he, if_pos he]
    have hsa : (e != 0) = true := by simpa using he
    clear hok
    unfold iTokL at *
    (refine SF_of_bodyX (aload tt) (aload_ok tyOK) Tryd.func22 rfl (by kernel_rfl) ?_; simp only [Tryd.ntmps22, List.length_cons, List.length_nil, Nat.reduceAdd, Nat.reduceSub, List.replicate_succ, List.replicate_zero, List.cons_append, List.nil_append])
    (refine Wk.o ?_; (repeat revert hK K); refine Wf97ea ?_; (repeat intro K hK); refine ⟨?_⟩)
    (simp only [bodyX]; refine ⟨_, by simp only [aresults, aresult, XS.as, Tryd.results22, aload, go_sem, Option.bind_some]; rfl, ?_⟩)
    exact ⟨ids_idB rfl, rfl, trivial⟩
theorem pf_rone (o : Ob) (es : List Ev3) (T : List Tok3) (z : Int) (hT : TokOK T) (hT0 : T.length ≠ 0) (hK : 1 ≤ o.K ∧ o.K ≤ 64) (hes : es.length ≤ 100000) :
    PF Tryd.prog 22 [obA o, .iv (iEvs es), .iv (iTokL T), lt (.int .i64 z)] fun r H' => r = .tup [evA (rX o.K z T), lt (.int .i64 (evOne o.K z es T).2.1), lt (.int .i64 (evOne o.K z es T).2.2)] ∧ H' = [] := by
  by_cases c1 : (T.getD 0 tok0).2.2 = wCall
  · exact pf_roneC o es T z hT hT0 hK hes c1
  · by_cases c2 : (T.getD 0 tok0).2.2 = wRet
    · exact pf_roneR o es T z hT hT0 hK hes c2
    · exact pf_rone0 o es T z hT hT0 c1 c2
end Go.Proofs.YtdaenbgjafalcaaDoor
namespace Go.Proofs.YtdaenbgjafalcaaDoor
open Go.RowKit Go.Lib
set_option linter.unusedVariables false
set_option linter.unusedSimpArgs false
theorem snap_e0 {H : AHeap} : Snap H (lt (.slice none 0 0)) (.iv (iEvs [])) := .iv _ _ (.nil _ _)
theorem evsGo_dropS {K z : Int} {S : List (List Tok3)} {i : Nat} {es : List Ev3} (hi : i < S.length) (h0 : (S.getD i []).length ≠ 0) : evsGo K z (S.drop i) es = if (evOne K z es (S.getD i [])).2.2 ≠ 0 then ([], (evOne K z es (S.getD i [])).2.1, (evOne K z es (S.getD i [])).2.2) else evsGo K z (S.drop (i + 1)) (es ++ [(evOne K z es (S.getD i [])).1]) := by
  have e : S.drop i = S.getD i [] :: S.drop (i + 1) := by
    rw [List.drop_eq_getElem_cons hi, List.getD_eq_getElem?_getD, List.getElem?_eq_getElem hi]; rfl
  rw [e, evsGo, if_neg h0]
theorem said_ne {L : List (List Tok3)} {i : Nat} (hi : i < (said L).length) : ((said L).getD i []).length ≠ 0 := by
  have hm : (said L).getD i [] ∈ said L := by rw [List.getD_eq_getElem?_getD, List.getElem?_eq_getElem hi]; exact List.getElem_mem hi
  have := (List.mem_filter.1 hm).2
  simpa using this
theorem W1708a {A B : Prop} (h9 : B) (w : B → A := by (intro h9; (repeat intro K hK); refine ⟨?_⟩; (repeat (first | (first | (with_reducible first | refine AX_block ?_ | refine AX_skip ?_ | refine AX_exit ?_ | refine AX_ret ?_ | refine AX_ift ?_ | refine AX_iff ?_ | refine AX_seq_k (fun K hK => ?_) | refine ContX.use (by assumption) ?_) | simp only [thenX, inBlockX, if_true, if_false, reduceCtorEq]) | (first | ((with_reducible refine XOP tyOK ?_); simp (disch := omega) only [go_sem , hs1, hs2, hs3, hs4, hs5, hs6, hs7, hs8, hs9, Int.toNat_zero, Int.toNat_one, Int.toNat_natCast, List.length_nil, List.length_cons, ba_size]; (with_reducible refine XRes_id ?_)) | (with_reducible refine XSK ?_)) | ((with_reducible refine XRes_nil ?_); refine hK _ ?_; clear hK K) | (first | (first | refine XTL (by rfl) hLn ?_ | refine XTL (by rfl) hSd ?_ | refine XTL (by rfl) hTk ?_)) | ((with_reducible refine AX_reg0 fun K hK => ?_); simp only [go_sem]))); refine Wk.o ?_; (repeat revert hK K); exact h9)) : A := w h9
set_option maxRecDepth 100000 in
set_option maxHeartbeats 8000000 in
theorem pf_rhParseG (l : List UInt8) (hl : l.length ≤ 1000000) (hok : LsOK (lnsT l)) : PF Tryd.prog 9 [lt (.string (ba l))] fun r H' => r = .tup [obA (hpr l).1, .iv (iEvs (hpr l).2.1), lt (.int .i64 (hpr l).2.2.1), lt (.int .i64 (hpr l).2.2.2)] ∧ H' = [] := by
  refine SF.frozen ?_
  have hs1 := trivial; have hs2 := trivial; have hs3 := trivial; have hs4 := trivial; have hs5 := trivial; have hs6 := trivial; have hs7 := trivial; have hs8 := trivial; have hs9 := trivial; have hLn := trivial; have hSd := trivial; have hTk := trivial; have hOn := trivial
  have hLn := pf_rLinesT l (by omega)
  have hSd := pf_rSaid (lnsT l) hok
  have hTk := pf_rTake (lnsT l) l.length hok
  have hs1 : decide ((1000000 : Int) < (l.length : Int)) = false := decide_eq_false (by omega)
  have hht := @hps_t (lnsT l) l.length
  have hhe := @hps_e (lnsT l) l.length
  have hho := @hps_o (lnsT l) l.length
  have hsm := @takeP_sm (lnsT l) l.length
  have hsd := fun h => (@takeP_said (lnsT l) l.length h).1
  have hcn := @takeP_cnt (lnsT l) l.length
  have hbd := @takeP_bad (lnsT l) l.length
  have hsok := hok.said
  have hsne := @said_ne (lnsT l)
  unfold hpr
  generalize hps (lnsT l) l.length = P at *
  generalize lnsT l = L at *
  generalize takeP L l.length = q at *
  obtain ⟨⟨S, Kd, I, R⟩, rest, at1, e⟩ := q
  dsimp only at *
  by_cases he : e = 0
  · subst he
    rw [taken_ok] at hTk
    have hcn := hcn rfl
    have hsd := hsd rfl
    obtain ⟨a1, _, _, _, _, _⟩ := hsm rfl
    have hKd : 1 ≤ Kd ∧ Kd ≤ 64 := by have := (obE_zero.1 a1).1; unfold obHead at this; dsimp only at this; omega
    have hhe := hhe rfl
    have hho := hho rfl
    rw [← evsGo_said rest, hsd] at hhe hho
    generalize said L = Sd at *
    generalize hkk : R.length + 1 = kk at *
    have hk2 : ((R.length : Int) + 1) = (kk : Int) := by omega
    dsimp only at hTk
    rw [hk2] at hTk
    unfold obA at hTk
    have hSlen := hsok.len
    generalize hG : evsGo Kd l.length (Sd.drop kk) [] = G at *
    have hs2 : iLs Sd = .sl (fun j => iTokL (Sd.getD j [])) Sd.length 1 := rfl
    (refine SF_of_bodyX (aload tt) (aload_ok tyOK) Tryd.func9 rfl (by kernel_rfl) ?_; simp only [Tryd.ntmps9, List.length_cons, List.length_nil, Nat.reduceAdd, Nat.reduceSub, List.replicate_succ, List.replicate_zero, List.cons_append, List.nil_append])
    (refine Wk.o ?_; (repeat revert hK K); refine W1708a ?_; (repeat intro K hK); refine ⟨?_⟩)
    refine AX_nil 11 51 3 rfl ?_
    have hinit : (flatE []).map lint = [] := rfl
    (refine AX_wh (σ := Nat × List Ev3) [38, 39, 40, 41, 45, 46, 47, 48, 49, 50, 51, 52, 53, 44, 54, 55, 56, 13, 14, 15, 57, 58, 59, 60, 61, 3, 4, 5, 62, 63, 64, 65, 42, 43] (fun (i, es) => [(12, lint i), (11, .osl 2 0 es.length 3)]) (fun (i, es) => [some ⟨25, [lt (.int .i64 0), lt (.int .i64 0), lt (.int .i64 0), lt (.slice none 0 0)]⟩, some ⟨25, [lt (.int .i64 S), lt (.int .i64 Kd), lt (.int .i64 I), .iv (iRws R)]⟩, some ⟨51, (flatE es).map lint⟩]) (fun (i, es) => []) (fun (i, es) => kk ≤ i ∧ i ≤ Sd.length ∧ G = evsGo Kd l.length (Sd.drop i) es ∧ es.length ≤ i) (fun (i, es) => Sd.length - i) (kk, []) (fun d => by first | ((simp only [deadS, updS, List.set_cons_succ, List.set_cons_zero, lint, List.length_nil, List.length_cons]); done) | ((simp only [deadS, updS, List.set_cons_succ, List.set_cons_zero, lint, List.length_nil, List.length_cons]); rfl) | rfl) (by first | (with_reducible rfl) | (simp only [hinit]; done) | rfl) (by first | (with_reducible rfl) | rfl) (by first | exact ⟨Nat.le_refl _, hcn, hG.symm, by simp⟩) ?_; rintro ⟨i, es⟩ d fr hfr ⟨hi0, hi, hgo, hlen⟩; simp only [updS, deadS, List.set_cons_succ, List.set_cons_zero, lint] at hfr; subst hfr; (try dsimp only))
    by_cases hlt : i < Sd.length
    · have hs3 : decide ((i : Int) < (Sd.length : Int)) = true := decide_eq_true (by omega)
      have hne := hsne hlt
      have hOn := pf_rone ⟨S, Kd, I, R⟩ es (Sd.getD i []) l.length (hsok.get i) hne hKd (by omega)
      rw [evsGo_dropS hlt hne] at hgo
      have hyf : (flatE es).length = es.length * 3 := flat_len (g := eFl) (fun _ => rfl) es
      have hX : (evOne Kd l.length es (Sd.getD i [])).2.2 = 0 → rX Kd l.length (Sd.getD i []) = (evOne Kd l.length es (Sd.getD i [])).1 := fun h => by
        obtain ⟨o1, o2, _, _, o5⟩ := evOne_ok h
        rw [o5]; unfold rX
        rw [if_neg (by rintro ⟨h1, h2⟩; rcases o1 with o1 | o1; exact h1 o1; exact h2 o1), if_neg (by rw [o2]; simp)]
      dsimp only at hOn
      generalize evOne Kd l.length es (Sd.getD i []) = q at *
      obtain ⟨ev, p, e⟩ := q
      generalize rX Kd l.length (Sd.getD i []) = xx at *
      dsimp only at hgo hOn hX
      unfold obA evA at hOn
      dsimp only at hOn
      have hno : NoImm (.tup [.agg [lt (.int .i64 xx.w), lt (.int .i64 xx.p), lt (.int .i64 xx.n)], lt (.int .i64 p), lt (.int .i64 e)]) := .tup _ fun i x h => by
        rcases i with _ | _ | _ | i <;> simp at h <;> subst h
        · exact .agg _ fun i x h => by rcases i with _ | _ | _ | i <;> simp at h <;> subst h <;> exact .lit _
        · exact .lit _
        · exact .lit _
      by_cases he : e = 0
      · subst he
        have hX := hX rfl
        subst hX
        rw [if_neg (by simp)] at hgo
        obtain ⟨w, p2, n⟩ := xx
        dsimp only at hOn hno
        (refine Wk.o ?_; (repeat revert hK K); refine W1708a ?_; (repeat intro K hK); refine ⟨?_⟩)
        refine AX_drawLk (fun H => H[1]? = some (some ⟨25, [lt (.int .i64 S), lt (.int .i64 Kd), lt (.int .i64 I), .iv (iRws R)]⟩) ∧ H[2]? = some (some ⟨51, (flatE es).map lint⟩)) 17 [.free, .free, .free, .free, .free, .free, .free, .free, .free, .free, .free, .free, .free, .chg, .chg, .free, .free] [true, false, false, false, false, true, false, false, true, false, false, false, false, true, true, false, false] (by kernel_rfl) (by decide +kernel) (by decide +kernel) ⟨rfl, rfl⟩ fun K hK => ?_
        simp only [go_sem]
        repeat (first | ((refine ADL_sayN (by rfl) hOn (fun H hS => SnapL.cons (.same _ (ids_idB rfl)) (SnapL.cons (.iv _ _ (snapC_evs hS.2 rfl)) (SnapL.cons (.same _ (ids_idB rfl)) (SnapL.cons (.same _ (ids_idB rfl)) (SnapL.nil _))))) hno (fun _ => rfl) ?_); (simp only [putL, List.set_cons_succ, List.set_cons_zero])) | (first | ((with_reducible refine ADL_free tyOK ?_ ?_ ?_); (focus rfl); (focus (first | (with_reducible rfl) | ((simp (disch := omega) only [go_sem]); done))); simp (disch := omega) only [go_sem , hs1, hs2, hs3, hs4, hs5, hs6, hs7, hs8, hs9, Int.toNat_zero, Int.toNat_one, Int.toNat_natCast, List.length_nil, List.length_cons, ba_size]; (with_reducible refine ADL_id ?_)) | ((refine ADL_look tyOK (by rfl) (by rfl) (fun H hS => by first | (simp only [go_sem, hS , hs1, hs2, hs3, hs4, hs5, hs6, hs7, hs8, hs9, Int.toNat_zero, Int.toNat_one, Int.toNat_natCast, List.length_nil, List.length_cons, ba_size]; rfl) | (simp (disch := omega) only [go_sem , hs1, hs2, hs3, hs4, hs5, hs6, hs7, hs8, hs9, Int.toNat_zero, Int.toNat_one, Int.toNat_natCast, List.length_nil, List.length_cons, ba_size]; rfl)) ?_); (simp only [putL, List.set_cons_succ, List.set_cons_zero])) | ((with_reducible refine ADL_chg tyOK ?_ ?_ ?_); (exact Nat.le_of_ble_eq_true rfl); (focus (first | (with_reducible rfl) | ((simp (disch := omega) only [go_sem]); done))); simp (disch := omega) only [go_sem , hs1, hs2, hs3, hs4, hs5, hs6, hs7, hs8, hs9, Int.toNat_zero, Int.toNat_one, Int.toNat_natCast, List.length_nil, List.length_cons, ba_size]; (first | (refine ⟨(by decide), (fun hh => by first | exact ⟨rfl, rfl⟩ | trivial | rfl | cases hh), ?_⟩) | (refine ⟨(by decide), ?_⟩) | (refine ⟨(fun hh => by first | exact ⟨rfl, rfl⟩ | trivial | rfl | cases hh), ?_⟩) | skip); (with_reducible refine ADL_id ?_))) | ((refine ADL_nil ?_); (refine hK _ _ _ (Nat.le_of_ble_eq_true rfl) ?_); clear hK K))
        (refine Wk.o ?_; (repeat revert hK K); refine W1708a ?_; (repeat intro K hK); refine ⟨?_⟩)
        have hfa := flatE_app es ⟨w, p2, n⟩
        refine whx_ren [0, 1, 5] (i + 1, es ++ [⟨w, p2, n⟩]) ⟨by omega, by omega, hgo, by rw [List.length_append, List.length_singleton]; omega⟩ (by dsimp only; omega) rfl (by decide) (by decide) (by (simp (disch := omega) only [go_sem, lint , hs1, hs2, hs3, hs4, hs5, hs6, hs7, hs8, hs9, Int.toNat_zero, Int.toNat_one, Int.toNat_natCast, List.length_nil, List.length_cons, ba_size])) (by (simp (disch := omega) only [go_sem, lint , hs1, hs2, hs3, hs4, hs5, hs6, hs7, hs8, hs9, Int.toNat_zero, Int.toNat_one, Int.toNat_natCast, List.length_nil, List.length_cons, ba_size])) ?_ (fun d => by first | ((simp (disch := omega) only [go_sem, lint , hs1, hs2, hs3, hs4, hs5, hs6, hs7, hs8, hs9, Int.toNat_zero, Int.toNat_one, Int.toNat_natCast, List.length_nil, List.length_cons, ba_size]); done) | ((simp (disch := omega) only [go_sem, lint , hs1, hs2, hs3, hs4, hs5, hs6, hs7, hs8, hs9, Int.toNat_zero, Int.toNat_one, Int.toNat_natCast, List.length_nil, List.length_cons, ba_size]); rfl))
        dsimp only
        rw [hfa]
        (simp (disch := omega) only [go_sem, lint , hs1, hs2, hs3, hs4, hs5, hs6, hs7, hs8, hs9, Int.toNat_zero, Int.toNat_one, Int.toNat_natCast, List.length_nil, List.length_cons, ba_size])
      · rw [if_pos he] at hgo
        have hhe := hhe (by rw [hgo]; exact he)
        have hs4 : (e != 0) = true := by simpa using he
        obtain ⟨w, p2, n⟩ := xx
        dsimp only at hOn hno
        (refine Wk.o ?_; (repeat revert hK K); refine W1708a ?_; (repeat intro K hK); refine ⟨?_⟩)
        refine AX_drawLk (fun H => H[1]? = some (some ⟨25, [lt (.int .i64 S), lt (.int .i64 Kd), lt (.int .i64 I), .iv (iRws R)]⟩) ∧ H[2]? = some (some ⟨51, (flatE es).map lint⟩)) 17 [.free, .free, .free, .free, .free, .free, .free, .free, .free, .free, .free, .free, .free, .chg, .chg, .free, .free] [true, false, false, false, false, true, false, false, true, false, false, false, false, true, true, false, false] (by kernel_rfl) (by decide +kernel) (by decide +kernel) ⟨rfl, rfl⟩ fun K hK => ?_
        simp only [go_sem]
        repeat (first | ((refine ADL_sayN (by rfl) hOn (fun H hS => SnapL.cons (.same _ (ids_idB rfl)) (SnapL.cons (.iv _ _ (snapC_evs hS.2 rfl)) (SnapL.cons (.same _ (ids_idB rfl)) (SnapL.cons (.same _ (ids_idB rfl)) (SnapL.nil _))))) hno (fun _ => rfl) ?_); (simp only [putL, List.set_cons_succ, List.set_cons_zero])) | (first | ((with_reducible refine ADL_free tyOK ?_ ?_ ?_); (focus rfl); (focus (first | (with_reducible rfl) | ((simp (disch := omega) only [go_sem]); done))); simp (disch := omega) only [go_sem , hs1, hs2, hs3, hs4, hs5, hs6, hs7, hs8, hs9, Int.toNat_zero, Int.toNat_one, Int.toNat_natCast, List.length_nil, List.length_cons, ba_size]; (with_reducible refine ADL_id ?_)) | ((refine ADL_look tyOK (by rfl) (by rfl) (fun H hS => by first | (simp only [go_sem, hS , hs1, hs2, hs3, hs4, hs5, hs6, hs7, hs8, hs9, Int.toNat_zero, Int.toNat_one, Int.toNat_natCast, List.length_nil, List.length_cons, ba_size]; rfl) | (simp (disch := omega) only [go_sem , hs1, hs2, hs3, hs4, hs5, hs6, hs7, hs8, hs9, Int.toNat_zero, Int.toNat_one, Int.toNat_natCast, List.length_nil, List.length_cons, ba_size]; rfl)) ?_); (simp only [putL, List.set_cons_succ, List.set_cons_zero])) | ((with_reducible refine ADL_chg tyOK ?_ ?_ ?_); (exact Nat.le_of_ble_eq_true rfl); (focus (first | (with_reducible rfl) | ((simp (disch := omega) only [go_sem]); done))); simp (disch := omega) only [go_sem , hs1, hs2, hs3, hs4, hs5, hs6, hs7, hs8, hs9, Int.toNat_zero, Int.toNat_one, Int.toNat_natCast, List.length_nil, List.length_cons, ba_size]; (first | (refine ⟨(by decide), (fun hh => by first | exact ⟨rfl, rfl⟩ | trivial | rfl | cases hh), ?_⟩) | (refine ⟨(by decide), ?_⟩) | (refine ⟨(fun hh => by first | exact ⟨rfl, rfl⟩ | trivial | rfl | cases hh), ?_⟩) | skip); (with_reducible refine ADL_id ?_))) | ((refine ADL_nil ?_); (refine hK _ _ _ (Nat.le_of_ble_eq_true rfl) ?_); clear hK K))
        (refine Wk.o ?_; (repeat revert hK K); refine W1708a ?_; (repeat intro K hK); refine ⟨?_⟩)
        (simp only [bodyX]; refine ⟨_, by simp only [aresults, aresult, XS.as, Tryd.results9, aload, go_sem, Option.bind_some]; rfl, ?_⟩)
        exact ⟨_, Snap.quad snap_ob0 snap_e0 (.same _ (.iv _)) (.same _ (.iv _)), by rw [hhe, hgo], trivial⟩
    · obtain rfl : i = Sd.length := by omega
      rw [List.drop_length] at hgo
      have hgo : G = (es, (l.length : Int), 0) := hgo
      have hho := hho (by rw [hgo])
      have hs3 : decide ((Sd.length : Int) < (Sd.length : Int)) = false := decide_eq_false (by omega)
      (refine Wk.o ?_; (repeat revert hK K); refine W1708a ?_; (repeat intro K hK); refine ⟨?_⟩)
      (simp only [bodyX]; refine ⟨_, by simp only [aresults, aresult, XS.as, Tryd.results9, aload, go_sem, Option.bind_some]; rfl, ?_⟩)
      exact ⟨_, Snap.quad (.same _ (ids_idB rfl)) (.iv _ _ (snapC_evs rfl rfl)) (.same _ (.iv _)) (.same _ (.iv _)), by first | rfl | (rw [hho, hgo]; done) | (rw [hho, hgo]; rfl), trivial⟩
  · have hht := hht he
    rw [taken_bad he] at hTk
    have hs2 : (e != 0) = true := by simpa using he
    (refine SF_of_bodyX (aload tt) (aload_ok tyOK) Tryd.func9 rfl (by kernel_rfl) ?_; simp only [Tryd.ntmps9, List.length_cons, List.length_nil, Nat.reduceAdd, Nat.reduceSub, List.replicate_succ, List.replicate_zero, List.cons_append, List.nil_append])
    (refine Wk.o ?_; (repeat revert hK K); refine W1708a ?_; (repeat intro K hK); refine ⟨?_⟩)
    (simp only [bodyX]; refine ⟨_, by simp only [aresults, aresult, XS.as, Tryd.results9, aload, go_sem, Option.bind_some]; rfl, ?_⟩)
    exact ⟨_, Snap.quad snap_ob0 snap_e0 (.same _ (.iv _)) (.same _ (.iv _)), by rw [hht], trivial⟩
end Go.Proofs.YtdaenbgjafalcaaDoor
namespace Go.Proofs.YtdaenbgjafalcaaDoor
open Go.RowKit Go.Lib
set_option linter.unusedVariables false
set_option linter.unusedSimpArgs false
theorem hpr_len {l : List UInt8} (hl : l.length ≤ 3000) : (hpr l).1.R.length + (hpr l).2.1.length ≤ 3000 := by
  by_cases h : (hpr l).2.2.2 = 0
  · obtain ⟨_, _, h3⟩ := hpr_ok h
    have hs := lns_sum l.length 1 0 l (Nat.le_refl _)
    have hL : (lnsT l).length = (lns 1 0 l).length := List.length_map ..
    omega
  · obtain ⟨h1, h2⟩ := hps_bad h
    have e1 : (hpr l).1 = ob0 := h1
    have e2 : (hpr l).2.1 = [] := h2
    rw [e1, e2]; simp [ob0]
theorem pf_rhParse (l : List UInt8) (hl : l.length ≤ 100000) : PF Tryd.prog 9 [lt (.string (ba l))] fun r H' => r = .tup [obA (hpr l).1, .iv (iEvs (hpr l).2.1), lt (.int .i64 (hpr l).2.2.1), lt (.int .i64 (hpr l).2.2.2)] ∧ H' = [] := pf_rhParseG l (by omega) (lnsT_ok hl)
theorem W9feca {A B : Prop} (h9 : B) (w : B → A := by (intro h9; (repeat intro K hK); refine ⟨?_⟩; (repeat (first | (first | (with_reducible first | refine AX_block ?_ | refine AX_skip ?_ | refine AX_exit ?_ | refine AX_ret ?_ | refine AX_ift ?_ | refine AX_iff ?_ | refine AX_seq_k (fun K hK => ?_) | refine ContX.use (by assumption) ?_) | simp only [thenX, inBlockX, if_true, if_false, reduceCtorEq]) | (first | ((with_reducible first | refine XOP tyOK ?_ | refine AOP tyOK ?_); simp (disch := omega) only [go_sem , hs1, hs2, hs3, hs4, hs5, hs6, Int.toNat_zero, Int.toNat_one, List.length_nil, beq_self_eq_true, ba_size, bne_self_eq_false]; (with_reducible first | refine XRes_id ?_ | refine ADF_id ?_)) | (with_reducible first | refine XSK ?_ | refine ASK ?_)) | ((first | (with_reducible refine XRes_nil ?_) | (with_reducible refine ADF_nil ?_)); (first | refine hK _ ?_ | refine hK _ _ ?_); clear hK K) | (first | (first | refine XTL (by rfl) hAw ?_ | refine ATL tyOK (by rfl) hAw ?_ | refine XTL (by rfl) hF ?_ | refine ATL tyOK (by rfl) hF ?_ | refine XTL (by rfl) hP1 ?_ | refine ATL tyOK (by rfl) hP1 ?_ | refine XTL (by rfl) hQ1 ?_ | refine ATL tyOK (by rfl) hQ1 ?_ | refine XTL (by rfl) hS1 ?_ | refine ATL tyOK (by rfl) hS1 ?_ | refine XTL (by rfl) hR1 ?_ | refine ATL tyOK (by rfl) hR1 ?_ | refine XTL (by rfl) hK1 ?_ | refine ATL tyOK (by rfl) hK1 ?_ | refine XTL (by rfl) hK2 ?_ | refine ATL tyOK (by rfl) hK2 ?_ | refine XTL (by rfl) hP2 ?_ | refine ATL tyOK (by rfl) hP2 ?_ | refine XTL (by rfl) hQ2 ?_ | refine ATL tyOK (by rfl) hQ2 ?_ | refine XTL (by rfl) hQ3 ?_ | refine ATL tyOK (by rfl) hQ3 ?_ | refine XTL (by rfl) hS2 ?_ | refine ATL tyOK (by rfl) hS2 ?_) | ((refine XRes_fn (by rfl) (PF.says (SnapL.cons (.same _ (ids_idB rfl)) (SnapL.cons snap_ob0 (SnapL.cons snap_e0 (SnapL.nil _)))) hSn) ?_); (rintro r H' ⟨rfl, rfl⟩); (simp only [putL, List.set_cons_succ, List.set_cons_zero]))) | ((with_reducible refine AX_reg0 fun K hK => ?_); simp only [go_sem]) | ((refine AX_drawG1 tyOK (by kernel_rfl) (by rfl) (by kernel_rfl) fun K hK => ?_); (first | simp only [go_sem, preN, effOp, runF, alM, mapOp, alD2, kdOf2, Bool.not_false, Bool.not_true, reduceCtorEq] | simp only [go_sem, preN, effOp, runF, alM, mapOp, Bool.not_false, Bool.not_true, reduceCtorEq] | simp only [go_sem, preN, effOp, runF, alD2, kdOf2, Bool.not_false, Bool.not_true, reduceCtorEq] | simp only [go_sem, alD2, kdOf2, Bool.not_false, Bool.not_true, reduceCtorEq] | simp only [go_sem, preN, effOp, runF, Bool.not_false, Bool.not_true, reduceCtorEq] | simp only [go_sem])))); refine Wk.o ?_; (repeat revert hK K); exact h9)) : A := w h9
set_option maxRecDepth 100000 in
set_option maxHeartbeats 4000000 in
theorem pf_HisttextReads (s : ByteArray) (hAw : PF Tryd.prog 7 [] fun r H' => r = lt (.bool true) ∧ H' = []) : PF Tryd.prog 3 [lt (.string s)] fun r H' => r = lt (.bool true) ∧ H' = [] := by
  refine SF.forgetAll ?_
  have hs1 := trivial; have hs2 := trivial; have hs3 := trivial; have hs4 := trivial; have hs5 := trivial; have hs6 := trivial; have hF := trivial; have hP1 := trivial; have hQ1 := trivial; have hS1 := trivial; have hR1 := trivial; have hK1 := trivial; have hK2 := trivial; have hP2 := trivial; have hQ2 := trivial; have hQ3 := trivial; have hS2 := trivial; have hSn := trivial
  obtain ⟨l, rfl⟩ : ∃ l, s = ba l := ⟨s.data.toList, (ba_of s).symm⟩
  by_cases hl : 3000 < l.length
  · have hs1 : decide ((3000 : Int) < (l.length : Int)) = true := decide_eq_true (by omega)
    (refine SF_of_bodyX (aload tt) (aload_ok tyOK) Tryd.func3 rfl (by kernel_rfl) ?_; simp only [Tryd.ntmps3, List.length_cons, List.length_nil, Nat.reduceAdd, Nat.reduceSub, List.replicate_succ, List.replicate_zero, List.cons_append, List.nil_append])
    (refine Wk.o ?_; (repeat revert hK K); refine W9feca ?_; (repeat intro K hK); refine ⟨?_⟩)
    (simp only [bodyX]; refine ⟨_, by simp only [aresults, aresult, XS.as, Tryd.results3, aload, go_sem, Option.bind_some]; rfl, ?_⟩)
    exact ⟨ids_idB rfl, rfl, trivial⟩
  · have hs1 : decide ((3000 : Int) < (l.length : Int)) = false := decide_eq_false (by omega)
    have hP1 := pf_hParse l (by omega)
    have hQ1 := pf_rhParse l (by omega)
    have hlen := hpr_len (l := l) (by omega)
    generalize hpr l = P at *
    obtain ⟨o, es, at1, e⟩ := P
    dsimp only at hP1 hQ1 hlen
    have hS1 := pf_same26 o es (by omega) (by omega)
    obtain ⟨S, Kn, I, R⟩ := o
    unfold csA at hP1 hS1
    unfold obA iEvs iFlat at *
    dsimp only at hP1 hQ1 hS1
    (refine SF_of_bodyX (aload tt) (aload_ok tyOK) Tryd.func3 rfl (by kernel_rfl) ?_; simp only [Tryd.ntmps3, List.length_cons, List.length_nil, Nat.reduceAdd, Nat.reduceSub, List.replicate_succ, List.replicate_zero, List.cons_append, List.nil_append])
    (refine Wk.o ?_; (repeat revert hK K); refine W9feca ?_; (repeat intro K hK); refine ⟨?_⟩)
    (simp only [bodyX]; refine ⟨_, by simp only [aresults, aresult, XS.as, Tryd.results3, aload, go_sem, Option.bind_some]; rfl, ?_⟩)
    exact ⟨ids_idB rfl, rfl, trivial⟩
theorem case_prints {o : Ob} {es : List Ev3} (ho : o.Ok) (hR : o.R.length ≤ 300) (he : es.length ≤ 200) (hn : ∀ i, -9223372036854775808 ≤ (evAt es i).n) : ∃ (t : List UInt8),
    (PF Tryd.prog 12 [csA o es] fun r H' => r = .tup [lt (.string (ba t)), lt (.int .i64 (hChk o es))] ∧ H' = []) ∧ (PF Tryd.prog 13 [obA o, .iv (iEvs es)] fun r H' => r = .tup [lt (.string (ba t)), lt (.int .i64 (hChk o es))] ∧ H' = []) := by
  have hk := pf_hCheck o es (by omega) ho (by omega) hn
  have hrk := pf_rhCheck o es (by omega) ho (by omega) hn
  by_cases h : hChk o es = 0
  · obtain ⟨_, h2, _, h4⟩ := case_all ⟨h, by omega⟩
    rw [h]
    exact ⟨_, h2, h4⟩
  · exact ⟨_, pf_hPrintNo o es h hk, pf_rhPrintNo o es h hrk⟩
set_option maxRecDepth 100000 in
set_option maxHeartbeats 4000000 in
theorem pf_HisttextPrints (o : Ob) (es : List Ev3) (ho : o.Ok) (hrl : o.R.length ≤ 9223372036854775807) (hel : es.length ≤ 9223372036854775807) (hn : ∀ i, -9223372036854775808 ≤ (evAt es i).n) (hAw : PF Tryd.prog 7 [] fun r H' => r = lt (.bool true) ∧ H' = []) : PF Tryd.prog 4 [obA o, .iv (iEvs es)] fun r H' => r = lt (.bool true) ∧ H' = [] := by
  refine SF.forgetAll ?_
  have hs1 := trivial; have hs2 := trivial; have hs3 := trivial; have hs4 := trivial; have hs5 := trivial; have hs6 := trivial; have hF := trivial; have hP1 := trivial; have hQ1 := trivial; have hS1 := trivial; have hR1 := trivial; have hK1 := trivial; have hK2 := trivial; have hP2 := trivial; have hQ2 := trivial; have hQ3 := trivial; have hS2 := trivial; have hSn := trivial
  have hF := pf_few23 o hrl
  by_cases hw : o.R.length ≤ 300
  · rw [decide_eq_true hw] at hF
    by_cases h2 : 200 < es.length
    · have hs1 : decide ((200 : Int) < (es.length : Int)) = true := decide_eq_true (by omega)
      clear hw
      obtain ⟨S, Kn, I, R⟩ := o
      unfold obA iEvs iFlat at *
      (try dsimp only at *)
      (refine SF_of_bodyX (aload tt) (aload_ok tyOK) Tryd.func4 rfl (by kernel_rfl) ?_; simp only [Tryd.ntmps4, List.length_cons, List.length_nil, Nat.reduceAdd, Nat.reduceSub, List.replicate_succ, List.replicate_zero, List.cons_append, List.nil_append])
      (refine Wk.o ?_; (repeat revert hK K); refine W9feca ?_; (repeat intro K hK); refine ⟨?_⟩)
      (simp only [bodyX]; refine ⟨_, by simp only [aresults, aresult, XS.as, Tryd.results4, aload, go_sem, Option.bind_some]; rfl, ?_⟩)
      exact ⟨ids_idB rfl, rfl, trivial⟩
    · have hs1 : decide ((200 : Int) < (es.length : Int)) = false := decide_eq_false (by omega)
      have hK1 := pf_hCheck o es (by omega) ho (by omega) hn
      have hK2 := pf_rhCheck o es (by omega) ho (by omega) hn
      obtain ⟨t, hP1, hQ1⟩ := case_prints ho hw (by omega) hn
      generalize hChk o es = E at *
      obtain ⟨S, Kn, I, R⟩ := o
      unfold csA at *
      unfold obA iEvs iFlat at *
      (try dsimp only at *)
      (refine SF_of_bodyX (aload tt) (aload_ok tyOK) Tryd.func4 rfl (by kernel_rfl) ?_; simp only [Tryd.ntmps4, List.length_cons, List.length_nil, Nat.reduceAdd, Nat.reduceSub, List.replicate_succ, List.replicate_zero, List.cons_append, List.nil_append])
      (refine Wk.o ?_; (repeat revert hK K); refine W9feca ?_; (repeat intro K hK); refine ⟨?_⟩)
      (simp only [bodyX]; refine ⟨_, by simp only [aresults, aresult, XS.as, Tryd.results4, aload, go_sem, Option.bind_some]; rfl, ?_⟩)
      exact ⟨ids_idB rfl, rfl, trivial⟩
  · rw [decide_eq_false hw] at hF
    clear hw
    obtain ⟨S, Kn, I, R⟩ := o
    unfold obA iEvs iFlat at *
    (try dsimp only at *)
    (refine SF_of_bodyX (aload tt) (aload_ok tyOK) Tryd.func4 rfl (by kernel_rfl) ?_; simp only [Tryd.ntmps4, List.length_cons, List.length_nil, Nat.reduceAdd, Nat.reduceSub, List.replicate_succ, List.replicate_zero, List.cons_append, List.nil_append])
    (refine Wk.o ?_; (repeat revert hK K); refine W9feca ?_; (repeat intro K hK); refine ⟨?_⟩)
    (simp only [bodyX]; refine ⟨_, by simp only [aresults, aresult, XS.as, Tryd.results4, aload, go_sem, Option.bind_some]; rfl, ?_⟩)
    exact ⟨ids_idB rfl, rfl, trivial⟩
set_option maxRecDepth 100000 in
set_option maxHeartbeats 8000000 in
theorem pf_HisttextBack (o : Ob) (es : List Ev3) (s : ByteArray) (ho : o.Ok) (hrl : o.R.length ≤ 9223372036854775807) (hel : es.length ≤ 9223372036854775807) (hn : ∀ i, -9223372036854775808 ≤ (evAt es i).n) (hAw : PF Tryd.prog 7 [] fun r H' => r = lt (.bool true) ∧ H' = []) : PF Tryd.prog 5 [obA o, .iv (iEvs es), lt (.string s)] fun r H' => r = lt (.bool true) ∧ H' = [] := by
  refine SF.forgetAll ?_
  have hs1 := trivial; have hs2 := trivial; have hs3 := trivial; have hs4 := trivial; have hs5 := trivial; have hs6 := trivial; have hF := trivial; have hP1 := trivial; have hQ1 := trivial; have hS1 := trivial; have hR1 := trivial; have hK1 := trivial; have hK2 := trivial; have hP2 := trivial; have hQ2 := trivial; have hQ3 := trivial; have hS2 := trivial; have hSn := trivial
  obtain ⟨l, rfl⟩ : ∃ l, s = ba l := ⟨s.data.toList, (ba_of s).symm⟩
  have hF := pf_few23 o hrl
  by_cases hw : o.R.length ≤ 300
  · rw [decide_eq_true hw] at hF
    by_cases h2 : 200 < es.length
    · have hs1 : decide ((200 : Int) < (es.length : Int)) = true := decide_eq_true (by omega)
      clear hw
      obtain ⟨S, Kn, I, R⟩ := o
      unfold obA iEvs iFlat at *
      (try dsimp only at *)
      (refine SF_of_bodyX (aload tt) (aload_ok tyOK) Tryd.func5 rfl (by kernel_rfl) ?_; simp only [Tryd.ntmps5, List.length_cons, List.length_nil, Nat.reduceAdd, Nat.reduceSub, List.replicate_succ, List.replicate_zero, List.cons_append, List.nil_append])
      (refine Wk.o ?_; (repeat revert hK K); refine W9feca ?_; (repeat intro K hK); refine ⟨?_⟩)
      (simp only [bodyX]; refine ⟨_, by simp only [aresults, aresult, XS.as, Tryd.results5, aload, go_sem, Option.bind_some]; rfl, ?_⟩)
      exact ⟨ids_idB rfl, rfl, trivial⟩
    · have hs1 : decide ((200 : Int) < (es.length : Int)) = false := decide_eq_false (by omega)
      by_cases hl : 3000 < l.length
      · have hs4 : decide ((3000 : Int) < (l.length : Int)) = true := decide_eq_true (by omega)
        clear hw
        obtain ⟨S, Kn, I, R⟩ := o
        unfold obA iEvs iFlat at *
        (try dsimp only at *)
        (refine SF_of_bodyX (aload tt) (aload_ok tyOK) Tryd.func5 rfl (by kernel_rfl) ?_; simp only [Tryd.ntmps5, List.length_cons, List.length_nil, Nat.reduceAdd, Nat.reduceSub, List.replicate_succ, List.replicate_zero, List.cons_append, List.nil_append])
        (refine Wk.o ?_; (repeat revert hK K); refine W9feca ?_; (repeat intro K hK); refine ⟨?_⟩)
        (simp only [bodyX]; refine ⟨_, by simp only [aresults, aresult, XS.as, Tryd.results5, aload, go_sem, Option.bind_some]; rfl, ?_⟩)
        exact ⟨ids_idB rfl, rfl, trivial⟩
      · have hs4 : decide ((3000 : Int) < (l.length : Int)) = false := decide_eq_false (by omega)
        have hQ2 := pf_hParse l (by omega)
        have hlen := hpr_len (l := l) (by omega)
        have hb3 : (hpr l).2.2.2 ≠ 0 → (hpr l).1 = ob0 ∧ (hpr l).2.1 = [] := fun h => hps_bad h
        have hb2 : (hpr l).2.2.2 = 0 → _ ∧ _ ∧ _ ∧ _ := fun h => And.intro (case_all ⟨(hpr_ok h).1, hlen⟩).1 (And.intro (case_all ⟨(hpr_ok h).1, hlen⟩).2.1 (And.intro (case_all ⟨(hpr_ok h).1, hlen⟩).2.2.1 (pf_same26 (hpr l).1 (hpr l).2.1 (by omega) (by omega))))
        have hSn := pf_same26 ob0 [] (by decide) (by decide)
        generalize hpr l = P at *
        obtain ⟨o2, es2, at2, e2⟩ := P
        dsimp only at hQ2 hb3 hb2
        by_cases he : hChk o es = 0
        · obtain ⟨_, hP1, hQ1, _⟩ := case_all (o := o) (es := es) ⟨he, by omega⟩
          have hS1 := pf_same26 o es (by omega) (by omega)
          clear he ho hn
          generalize caseB o es = pr at *
          obtain ⟨S, Kn, I, R⟩ := o
          by_cases he2 : e2 = 0
          · subst he2
            obtain ⟨hK2, hP2, hQ3, hS2⟩ := hb2 rfl
            generalize caseB o2 es2 = pr2 at *
            obtain ⟨S2, K2, I2, R2⟩ := o2
            have hs3 : ((0 : Int) != 0) = false := by decide
            unfold csA at *
            unfold obA iEvs iFlat at *
            (try dsimp only at *)
            (refine SF_of_bodyX (aload tt) (aload_ok tyOK) Tryd.func5 rfl (by kernel_rfl) ?_; simp only [Tryd.ntmps5, List.length_cons, List.length_nil, Nat.reduceAdd, Nat.reduceSub, List.replicate_succ, List.replicate_zero, List.cons_append, List.nil_append])
            (refine Wk.o ?_; (repeat revert hK K); refine W9feca ?_; (repeat intro K hK); refine ⟨?_⟩)
            (simp only [bodyX]; refine ⟨_, by simp only [aresults, aresult, XS.as, Tryd.results5, aload, go_sem, Option.bind_some]; rfl, ?_⟩)
            exact ⟨ids_idB rfl, rfl, trivial⟩
          · obtain ⟨h0, h00⟩ := hb3 he2
            (try dsimp only at h0 h00)
            subst h0 h00
            have hs3 : (e2 != 0) = true := by simpa using he2
            clear hb2
            unfold csA at *
            unfold obA iEvs iFlat at *
            (try dsimp only [ob0] at *)
            (refine SF_of_bodyX (aload tt) (aload_ok tyOK) Tryd.func5 rfl (by kernel_rfl) ?_; simp only [Tryd.ntmps5, List.length_cons, List.length_nil, Nat.reduceAdd, Nat.reduceSub, List.replicate_succ, List.replicate_zero, List.cons_append, List.nil_append])
            (refine Wk.o ?_; (repeat revert hK K); refine W9feca ?_; (repeat intro K hK); refine ⟨?_⟩)
            (simp only [bodyX]; refine ⟨_, by simp only [aresults, aresult, XS.as, Tryd.results5, aload, go_sem, Option.bind_some]; rfl, ?_⟩)
            exact ⟨ids_idB rfl, rfl, trivial⟩
        · have hP1 := pf_hPrintNo o es he (pf_hCheck o es (by omega) ho (by omega) hn)
          have hs2 : (hChk o es == 0) = false := by simpa using he
          clear ho hn
          generalize hChk o es = e at *
          obtain ⟨S, Kn, I, R⟩ := o
          by_cases he2 : e2 = 0
          · subst he2
            obtain ⟨hK2, hP2, hQ3, hS2⟩ := hb2 rfl
            generalize caseB o2 es2 = pr2 at *
            obtain ⟨S2, K2, I2, R2⟩ := o2
            have hs3 : ((0 : Int) != 0) = false := by decide
            unfold csA at *
            unfold obA iEvs iFlat at *
            (try dsimp only at *)
            (refine SF_of_bodyX (aload tt) (aload_ok tyOK) Tryd.func5 rfl (by kernel_rfl) ?_; simp only [Tryd.ntmps5, List.length_cons, List.length_nil, Nat.reduceAdd, Nat.reduceSub, List.replicate_succ, List.replicate_zero, List.cons_append, List.nil_append])
            (refine Wk.o ?_; (repeat revert hK K); refine W9feca ?_; (repeat intro K hK); refine ⟨?_⟩)
            (simp only [bodyX]; refine ⟨_, by simp only [aresults, aresult, XS.as, Tryd.results5, aload, go_sem, Option.bind_some]; rfl, ?_⟩)
            exact ⟨ids_idB rfl, rfl, trivial⟩
          · obtain ⟨h0, h00⟩ := hb3 he2
            (try dsimp only at h0 h00)
            subst h0 h00
            have hs3 : (e2 != 0) = true := by simpa using he2
            clear hb2
            unfold csA at *
            unfold obA iEvs iFlat at *
            (try dsimp only [ob0] at *)
            (refine SF_of_bodyX (aload tt) (aload_ok tyOK) Tryd.func5 rfl (by kernel_rfl) ?_; simp only [Tryd.ntmps5, List.length_cons, List.length_nil, Nat.reduceAdd, Nat.reduceSub, List.replicate_succ, List.replicate_zero, List.cons_append, List.nil_append])
            (refine Wk.o ?_; (repeat revert hK K); refine W9feca ?_; (repeat intro K hK); refine ⟨?_⟩)
            (simp only [bodyX]; refine ⟨_, by simp only [aresults, aresult, XS.as, Tryd.results5, aload, go_sem, Option.bind_some]; rfl, ?_⟩)
            exact ⟨ids_idB rfl, rfl, trivial⟩
  · rw [decide_eq_false hw] at hF
    clear hw
    obtain ⟨S, Kn, I, R⟩ := o
    unfold obA iEvs iFlat at *
    (try dsimp only at *)
    (refine SF_of_bodyX (aload tt) (aload_ok tyOK) Tryd.func5 rfl (by kernel_rfl) ?_; simp only [Tryd.ntmps5, List.length_cons, List.length_nil, Nat.reduceAdd, Nat.reduceSub, List.replicate_succ, List.replicate_zero, List.cons_append, List.nil_append])
    (refine Wk.o ?_; (repeat revert hK K); refine W9feca ?_; (repeat intro K hK); refine ⟨?_⟩)
    (simp only [bodyX]; refine ⟨_, by simp only [aresults, aresult, XS.as, Tryd.results5, aload, go_sem, Option.bind_some]; rfl, ?_⟩)
    exact ⟨ids_idB rfl, rfl, trivial⟩
end Go.Proofs.YtdaenbgjafalcaaDoor
