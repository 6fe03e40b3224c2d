import Derived.Test.YtpfbcjlgbdbcpaaMgAT
import Derived.Test.YtpfbcjlgbdbcpaaMgAR
import Derived.Test.YtpfbcjlgbdbcpaaMgAS
namespace Go.Proofs.Ytpfbcjlgbdbcpaa
open Go.RowKit
set_option linter.unusedVariables false
set_option linter.unusedSimpArgs false
set_option maxRecDepth 100000 in
set_option maxHeartbeats 1000000 in
theorem pf_obMove (o : Ob) (st kd : Int) (hr : o.R.length ≤ 100000) : PF Try.prog 10 [obA o, lt (.int .i64 st), lt (.int .i64 kd)] fun r H' => r = .tup [lt (.int .i64 (mvN o st kd)), lt (.int .i64 (mvR o st kd)), lt (.bool (mvOk o st kd))] ∧ H' = [] := by
  refine SF.forgetAll ?_
  unfold mvN mvR mvOk
  have hle : mvI o st kd ≤ o.R.length := fb_le _ _
  by_cases hm : mvI o st kd < o.R.length
  · rw [if_pos hm, if_pos hm, decide_eq_true hm]
    (refine SF_of_bodyX (aload tt) (aload_ok tyOK) Try.func10 rfl (by kernel_rfl) ?_; simp only [Try.ntmps10, List.length_cons, List.length_nil, Nat.reduceAdd, Nat.reduceSub, List.replicate_succ, List.replicate_zero, List.cons_append, List.nil_append])
    (repeat' (first | (first | (with_reducible first | refine AX_block ?_ | refine AX_skip ?_ | refine AX_exit ?_ | refine AX_ret ?_ | refine AX_ift ?_ | refine AX_iff ?_ | refine AX_seq_k (fun K hK => ?_) | refine ContX.use (by assumption) ?_) | simp only [thenX, inBlockX, if_true, if_false, reduceCtorEq]) | (first | ((with_reducible first | refine XOP tyOK ?_ | refine AOP tyOK ?_); simp (disch := omega) only [go_sem , flatR_s, flatR_k, flatR_n, flatR_r]; (with_reducible first | refine XRes_id ?_ | refine ADF_id ?_)) | (with_reducible first | refine XSK ?_ | refine ASK ?_)) | ((first | (with_reducible refine XRes_nil ?_) | (with_reducible refine ADF_nil ?_)); (first | refine hK _ ?_ | refine hK _ _ ?_); clear hK K) | ((first | (with_reducible refine AX_reg0 fun K hK => ?_) | (refine AX_drawG1 tyOK (by kernel_rfl) (by rfl) (by kernel_rfl) fun K hK => ?_)); simp only [go_sem]) | ((refine XRes_fn (by rfl) (sf_indexRow o.R hr (fun x => decide (x.s = st ∧ x.k = kd)) _ _ _ (sf_move1 o st kd) (mvI o st kd) rfl) ?_); rintro r H' ⟨rfl, rfl⟩; (simp only [putL, List.set_cons_succ, List.set_cons_zero])) | ((first | (refine XRes_splitG (by rfl) (fun hc => ?_) (fun hc => ?_)) | (refine ADF_splitG (by rfl) (fun hc => ?_) (fun hc => ?_))) <;> (try simp only [eqRes, List.cons_beq_cons, Bool.and_eq_true, Bool.not_eq_true, Bool.and_eq_false_iff, decide_eq_true_eq, decide_eq_false_iff_not, bne_iff_ne, beq_iff_eq, bne_eq_false_iff_eq, beq_eq_false_iff_ne, Bool.not_eq_true', Bool.not_eq_false', ne_eq, Int.not_lt, Int.not_le, Decidable.not_not] at hc) <;> simp only [List.set_cons_succ, List.set_cons_zero]) | (first | ((with_reducible refine AX_if_t ?_ ?_); focus (simp (disch := omega) only [go_sem , flatR_s, flatR_k, flatR_n, flatR_r]; done)) | ((with_reducible refine AX_if_f ?_ ?_); focus (simp (disch := omega) only [go_sem , flatR_s, flatR_k, flatR_n, flatR_r]; done)) | (refine AX_cond _ (by rfl) (fun hc => ?_) (fun hc => ?_) <;> (try simp only [eqRes, List.cons_beq_cons, Bool.and_eq_true, Bool.not_eq_true, Bool.and_eq_false_iff, decide_eq_true_eq, decide_eq_false_iff_not, bne_iff_ne, beq_iff_eq, bne_eq_false_iff_eq, beq_eq_false_iff_ne, Bool.not_eq_true', Bool.not_eq_false', ne_eq, Int.not_lt, Int.not_le, Decidable.not_not] at hc)))))
    (simp only [bodyX]; refine ⟨_, by simp only [aresults, aresult, XS.as, Try.results10, aload, go_sem, Option.bind_some]; rfl, ?_⟩)
    exact ⟨ids_idB rfl, rfl, trivial⟩
  · rw [if_neg hm, if_neg hm, decide_eq_false hm]
    (refine SF_of_bodyX (aload tt) (aload_ok tyOK) Try.func10 rfl (by kernel_rfl) ?_; simp only [Try.ntmps10, List.length_cons, List.length_nil, Nat.reduceAdd, Nat.reduceSub, List.replicate_succ, List.replicate_zero, List.cons_append, List.nil_append])
    (repeat' (first | (first | (with_reducible first | refine AX_block ?_ | refine AX_skip ?_ | refine AX_exit ?_ | refine AX_ret ?_ | refine AX_ift ?_ | refine AX_iff ?_ | refine AX_seq_k (fun K hK => ?_) | refine ContX.use (by assumption) ?_) | simp only [thenX, inBlockX, if_true, if_false, reduceCtorEq]) | (first | ((with_reducible first | refine XOP tyOK ?_ | refine AOP tyOK ?_); simp (disch := omega) only [go_sem , flatR_s, flatR_k, flatR_n, flatR_r]; (with_reducible first | refine XRes_id ?_ | refine ADF_id ?_)) | (with_reducible first | refine XSK ?_ | refine ASK ?_)) | ((first | (with_reducible refine XRes_nil ?_) | (with_reducible refine ADF_nil ?_)); (first | refine hK _ ?_ | refine hK _ _ ?_); clear hK K) | ((first | (with_reducible refine AX_reg0 fun K hK => ?_) | (refine AX_drawG1 tyOK (by kernel_rfl) (by rfl) (by kernel_rfl) fun K hK => ?_)); simp only [go_sem]) | ((refine XRes_fn (by rfl) (sf_indexRow o.R hr (fun x => decide (x.s = st ∧ x.k = kd)) _ _ _ (sf_move1 o st kd) (mvI o st kd) rfl) ?_); rintro r H' ⟨rfl, rfl⟩; (simp only [putL, List.set_cons_succ, List.set_cons_zero])) | ((first | (refine XRes_splitG (by rfl) (fun hc => ?_) (fun hc => ?_)) | (refine ADF_splitG (by rfl) (fun hc => ?_) (fun hc => ?_))) <;> (try simp only [eqRes, List.cons_beq_cons, Bool.and_eq_true, Bool.not_eq_true, Bool.and_eq_false_iff, decide_eq_true_eq, decide_eq_false_iff_not, bne_iff_ne, beq_iff_eq, bne_eq_false_iff_eq, beq_eq_false_iff_ne, Bool.not_eq_true', Bool.not_eq_false', ne_eq, Int.not_lt, Int.not_le, Decidable.not_not] at hc) <;> simp only [List.set_cons_succ, List.set_cons_zero]) | (first | ((with_reducible refine AX_if_t ?_ ?_); focus (simp (disch := omega) only [go_sem , flatR_s, flatR_k, flatR_n, flatR_r]; done)) | ((with_reducible refine AX_if_f ?_ ?_); focus (simp (disch := omega) only [go_sem , flatR_s, flatR_k, flatR_n, flatR_r]; done)) | (refine AX_cond _ (by rfl) (fun hc => ?_) (fun hc => ?_) <;> (try simp only [eqRes, List.cons_beq_cons, Bool.and_eq_true, Bool.not_eq_true, Bool.and_eq_false_iff, decide_eq_true_eq, decide_eq_false_iff_not, bne_iff_ne, beq_iff_eq, bne_eq_false_iff_eq, beq_eq_false_iff_ne, Bool.not_eq_true', Bool.not_eq_false', ne_eq, Int.not_lt, Int.not_le, Decidable.not_not] at hc)))))
    (simp only [bodyX]; refine ⟨_, by simp only [aresults, aresult, XS.as, Try.results10, aload, go_sem, Option.bind_some]; rfl, ?_⟩)
    exact ⟨ids_idB rfl, rfl, trivial⟩
end Go.Proofs.Ytpfbcjlgbdbcpaa
namespace Go.Proofs.Ytpfbcjlgbdbcpaa
def lb (b : Bool) : AV := lt (.bool b)
theorem rnL_lb (r : Nat → Nat) (xs : List Bool) : rnL r (xs.map lb) = xs.map lb := by rw [rnL_map, List.map_map]; rfl
theorem idL_lb (p : Nat → Bool) (xs : List Bool) : idL p (xs.map lb) = true := by rw [idL_all, List.all_map, List.all_eq_true]; exact fun _ _ => rfl
theorem lb_at {xs : List Bool} {k : Nat} (h : k < xs.length) : (xs.map lb)[k]? = some (lt (.bool (xs.getD k false))) := by
  rw [List.getElem?_map, List.getElem?_eq_getElem h, List.getD_eq_getElem?_getD, List.getElem?_eq_getElem h]; rfl
theorem lb_set (xs : List Bool) (k : Nat) (v : Bool) : (xs.map lb).set k (lt (.bool v)) = (xs.set k v).map lb := by rw [List.map_set]; rfl
theorem lb_snoc (xs : List Bool) (v : Bool) : xs.map lb ++ [lt (.bool v)] = (xs ++ [v]).map lb := by rw [List.map_append]; rfl
theorem lb_one (xs : List Bool) : (xs.map lb).all AV.one = true := by rw [List.all_map, List.all_eq_true]; exact fun _ _ => rfl
theorem take_lb {xs : List Bool} {n : Nat} (h : xs.length ≤ n) : (xs.map lb).take n = xs.map lb := List.take_of_length_le (by simpa using h)
theorem rep_lb (n : Nat) : List.replicate n (AV.iv (IV.lit (Value.bool false))) = (List.replicate n false).map lb := by rw [List.map_replicate]; rfl
attribute [go_sem] rnL_lb idL_lb lb_at lb_set lb_snoc lb_one take_lb
end Go.Proofs.Ytpfbcjlgbdbcpaa
namespace Go.Proofs.Ytpfbcjlgbdbcpaa
open Go.RowKit
set_option linter.unusedVariables false
end Go.Proofs.Ytpfbcjlgbdbcpaa
