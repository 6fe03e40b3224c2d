import Derived.Test.YtdaenbgjafalcaaDoorMgBM
import Derived.Test.YtdaenbgjafalcaaDoorMgBL
import Derived.Test.YtdaenbgjafalcaaDoorMgBN
import Derived.Test.YtdaenbgjafalcaaDoorMgAV
namespace Go.Proofs.YtdaenbgjafalcaaDoor
open Go.RowKit
set_option linter.unusedVariables false
set_option linter.unusedSimpArgs false
def eOpn (xs : List Ev3) : Nat → Int → Option Int
  | 0 => fun _ => none
  | k + 1 => updF (eOpn xs k) (evAt xs k).p (evAt xs k).w
theorem eOpn_get (xs : List Ev3) (p : Int) : ∀ k, (eOpn xs k p).getD 0 = eLast xs k p
  | 0 => rfl
  | k + 1 => by
    unfold eOpn eLast updF
    by_cases h : (evAt xs k).p = p
    · rw [if_pos h.symm, if_pos h]; rfl
    · rw [if_neg (Ne.symm h), if_neg h]; exact eOpn_get xs p k
set_option maxRecDepth 100000 in
set_option maxHeartbeats 1000000 in
theorem pf_eCheck (xs : List Ev3) (hx : xs.length ≤ 100000) : PF Tryd.prog 33 [.iv (iFlat (flatE xs) xs.length 3)] fun r H' => (∃ a c, EChk xs a c ∧ r = .tup [lt (.int .i64 a), lt (.int .i64 c)]) ∧ H' = [] := by
  refine SF.forgetAll ?_
  (refine SF_of_bodyX (aload tt) (aload_ok tyOK) Tryd.func33 rfl (by kernel_rfl) ?_; simp only [Tryd.ntmps33, List.length_cons, List.length_nil, Nat.reduceAdd, Nat.reduceSub, List.replicate_succ, List.replicate_zero, List.cons_append, List.nil_append])
  unfold iFlat
  by_cases hb : xs.length ≤ 10000
  · (repeat (first | (first | (with_reducible first | refine AX_block ?_ | refine AX_skip ?_ | refine AX_exit ?_ | refine AX_ret ?_ | refine AX_ift ?_ | refine AX_iff ?_ | refine AX_seq_k (fun K hK => ?_) | refine ContX.use (by assumption) ?_) | simp only [thenX, inBlockX, if_true, if_false, reduceCtorEq]) | (first | ((with_reducible refine XOP tyOK ?_); simp (disch := omega) only [go_sem , flatE_w, flatE_p, flatE_n]; (with_reducible refine XRes_id ?_)) | (with_reducible refine XSK ?_)) | ((with_reducible refine XRes_nil ?_); refine hK _ ?_; clear hK K) | ((with_reducible refine AX_reg0 fun K hK => ?_); simp only [go_sem]) | (first | (first | refine XTL (by rfl) (pf_eMay _) ?_) | ((refine XRes_makeMap rfl (fun b => ?_)); (simp only [putL, List.set_cons_succ, List.set_cons_zero, mInt_upd, mInt_del, mInt_get, mInt_is, mSet_upd, mSet_get, mSet_is, List.nil_append, List.cons_append])) | (first | (refine XRes_mput (i := 0) rfl Tryd.underlying99 rfl rfl rfl (by omega) rfl (int_plain (by omega)) (by unfold maxLen; omega) ?_; (simp only [putL, List.set_cons_succ, List.set_cons_zero, mInt_upd, mInt_del, mInt_get, mInt_is, mSet_upd, mSet_get, mSet_is, List.nil_append, List.cons_append])) | (refine XRes_mget (i := 0) rfl Tryd.underlying99 int_zero (by decide) rfl rfl rfl (by omega) ?_; (simp only [putL, List.set_cons_succ, List.set_cons_zero, mInt_upd, mInt_del, mInt_get, mInt_is, mSet_upd, mSet_get, mSet_is, List.nil_append, List.cons_append])) | (refine XRes_mlook (i := 0) rfl Tryd.underlying99 int_zero (by decide) rfl rfl rfl (by omega) ?_; (simp only [putL, List.set_cons_succ, List.set_cons_zero, mInt_upd, mInt_del, mInt_get, mInt_is, mSet_upd, mSet_get, mSet_is, List.nil_append, List.cons_append])) | (refine XRes_mdel (i := 0) rfl Tryd.underlying99 rfl rfl rfl (by omega) ?_; (simp only [putL, List.set_cons_succ, List.set_cons_zero, mInt_upd, mInt_del, mInt_get, mInt_is, mSet_upd, mSet_get, mSet_is, List.nil_append, List.cons_append])) | (refine XRes_mput (i := 1) rfl Tryd.underlying99 rfl rfl rfl (by omega) rfl (int_plain (by omega)) (by unfold maxLen; omega) ?_; (simp only [putL, List.set_cons_succ, List.set_cons_zero, mInt_upd, mInt_del, mInt_get, mInt_is, mSet_upd, mSet_get, mSet_is, List.nil_append, List.cons_append])) | (refine XRes_mget (i := 1) rfl Tryd.underlying99 int_zero (by decide) rfl rfl rfl (by omega) ?_; (simp only [putL, List.set_cons_succ, List.set_cons_zero, mInt_upd, mInt_del, mInt_get, mInt_is, mSet_upd, mSet_get, mSet_is, List.nil_append, List.cons_append])) | (refine XRes_mlook (i := 1) rfl Tryd.underlying99 int_zero (by decide) rfl rfl rfl (by omega) ?_; (simp only [putL, List.set_cons_succ, List.set_cons_zero, mInt_upd, mInt_del, mInt_get, mInt_is, mSet_upd, mSet_get, mSet_is, List.nil_append, List.cons_append])) | (refine XRes_mdel (i := 1) rfl Tryd.underlying99 rfl rfl rfl (by omega) ?_; (simp only [putL, List.set_cons_succ, List.set_cons_zero, mInt_upd, mInt_del, mInt_get, mInt_is, mSet_upd, mSet_get, mSet_is, List.nil_append, List.cons_append]))))))
    (refine AWH (σ := Nat) [15, 16, 17, 18, 6, 5, 19, 20, 7, 21, 22, 23, 24, 2, 3, 25, 26, 27, 28, 29, 30, 31, 32, 33, 34, 35, 36, 37, 38, 39, 40] (fun k => [(14, lint k)]) (fun k => []) (fun k => [(b, k, mInt (eOpn xs k))]) (fun k => k ≤ xs.length ∧ ∀ j, j < k → eErr xs j = 0) (fun k => xs.length - k) 0 (by first | exact ⟨Nat.zero_le _, fun j h => absurd h (by omega)⟩) ?_; rintro k d fr hfr ⟨hk, hp⟩; simp only [updS, deadS, List.set_cons_succ, List.set_cons_zero, lint] at hfr; subst hfr; (try dsimp only))
    by_cases hm : eMay (evAt xs k) = 0
    · have hz := eMay_zero hm
      (repeat' (first | (first | (with_reducible first | refine AX_block ?_ | refine AX_skip ?_ | refine AX_exit ?_ | refine AX_ret ?_ | refine AX_ift ?_ | refine AX_iff ?_ | refine AX_seq_k (fun K hK => ?_) | refine ContX.use (by assumption) ?_) | simp only [thenX, inBlockX, if_true, if_false, reduceCtorEq]) | (first | ((with_reducible refine XOP tyOK ?_); simp (disch := omega) only [go_sem , flatE_w, flatE_p, flatE_n]; (with_reducible refine XRes_id ?_)) | (with_reducible refine XSK ?_)) | ((with_reducible refine XRes_nil ?_); refine hK _ ?_; clear hK K) | ((with_reducible refine AX_reg0 fun K hK => ?_); simp only [go_sem]) | (first | (first | refine XTL (by rfl) (pf_eMay _) ?_) | ((refine XRes_makeMap rfl (fun b => ?_)); (simp only [putL, List.set_cons_succ, List.set_cons_zero, mInt_upd, mInt_del, mInt_get, mInt_is, mSet_upd, mSet_get, mSet_is, List.nil_append, List.cons_append])) | (first | (refine XRes_mput (i := 0) rfl Tryd.underlying99 rfl rfl rfl (by omega) rfl (int_plain (by omega)) (by unfold maxLen; omega) ?_; (simp only [putL, List.set_cons_succ, List.set_cons_zero, mInt_upd, mInt_del, mInt_get, mInt_is, mSet_upd, mSet_get, mSet_is, List.nil_append, List.cons_append])) | (refine XRes_mget (i := 0) rfl Tryd.underlying99 int_zero (by decide) rfl rfl rfl (by omega) ?_; (simp only [putL, List.set_cons_succ, List.set_cons_zero, mInt_upd, mInt_del, mInt_get, mInt_is, mSet_upd, mSet_get, mSet_is, List.nil_append, List.cons_append])) | (refine XRes_mlook (i := 0) rfl Tryd.underlying99 int_zero (by decide) rfl rfl rfl (by omega) ?_; (simp only [putL, List.set_cons_succ, List.set_cons_zero, mInt_upd, mInt_del, mInt_get, mInt_is, mSet_upd, mSet_get, mSet_is, List.nil_append, List.cons_append])) | (refine XRes_mdel (i := 0) rfl Tryd.underlying99 rfl rfl rfl (by omega) ?_; (simp only [putL, List.set_cons_succ, List.set_cons_zero, mInt_upd, mInt_del, mInt_get, mInt_is, mSet_upd, mSet_get, mSet_is, List.nil_append, List.cons_append])) | (refine XRes_mput (i := 1) rfl Tryd.underlying99 rfl rfl rfl (by omega) rfl (int_plain (by omega)) (by unfold maxLen; omega) ?_; (simp only [putL, List.set_cons_succ, List.set_cons_zero, mInt_upd, mInt_del, mInt_get, mInt_is, mSet_upd, mSet_get, mSet_is, List.nil_append, List.cons_append])) | (refine XRes_mget (i := 1) rfl Tryd.underlying99 int_zero (by decide) rfl rfl rfl (by omega) ?_; (simp only [putL, List.set_cons_succ, List.set_cons_zero, mInt_upd, mInt_del, mInt_get, mInt_is, mSet_upd, mSet_get, mSet_is, List.nil_append, List.cons_append])) | (refine XRes_mlook (i := 1) rfl Tryd.underlying99 int_zero (by decide) rfl rfl rfl (by omega) ?_; (simp only [putL, List.set_cons_succ, List.set_cons_zero, mInt_upd, mInt_del, mInt_get, mInt_is, mSet_upd, mSet_get, mSet_is, List.nil_append, List.cons_append])) | (refine XRes_mdel (i := 1) rfl Tryd.underlying99 rfl rfl rfl (by omega) ?_; (simp only [putL, List.set_cons_succ, List.set_cons_zero, mInt_upd, mInt_del, mInt_get, mInt_is, mSet_upd, mSet_get, mSet_is, List.nil_append, List.cons_append])))) | ((refine XRes_splitG (by rfl) (fun hc => ?_) (fun hc => ?_)) <;> (try simp only [eqRes, List.cons_beq_cons, Bool.and_eq_true, Bool.not_eq_true, Bool.and_eq_false_iff, decide_eq_true_eq, decide_eq_false_iff_not, bne_iff_ne, beq_iff_eq, bne_eq_false_iff_eq, beq_eq_false_iff_ne, Bool.not_eq_true', Bool.not_eq_false', ne_eq, Int.not_lt, Int.not_le, Decidable.not_not] at hc) <;> simp only [List.set_cons_succ, List.set_cons_zero]) | (first | ((with_reducible refine AX_if_t ?_ ?_); focus (simp (disch := omega) only [go_sem , flatE_w, flatE_p, flatE_n]; done)) | ((with_reducible refine AX_if_f ?_ ?_); focus (simp (disch := omega) only [go_sem , flatE_w, flatE_p, flatE_n]; done)) | (refine AX_cond _ (by rfl) (fun hc => ?_) (fun hc => ?_) <;> (try simp only [eqRes, List.cons_beq_cons, Bool.and_eq_true, Bool.not_eq_true, Bool.and_eq_false_iff, decide_eq_true_eq, decide_eq_false_iff_not, bne_iff_ne, beq_iff_eq, bne_eq_false_iff_eq, beq_eq_false_iff_ne, Bool.not_eq_true', Bool.not_eq_false', ne_eq, Int.not_lt, Int.not_le, Decidable.not_not] at hc)))))
      · rw [eOpn_get] at hc
        (simp only [bodyX]; refine ⟨_, by simp only [aresults, aresult, XS.as, Tryd.results33, aload, go_sem, Option.bind_some]; rfl, ?_⟩)
        exact ⟨ids_idB rfl, ⟨_, _, FChk.at hb (by omega) hp (eErr_open hm (fun h => hc (by rw [Bool.eq_iff_iff]; simpa using h))) (by decide), rfl⟩, trivial⟩
      · rw [eOpn_get] at hc
        exact WRN [] (k + 1) ⟨by omega, below_succ hp (eErr_none hm (by rw [Bool.eq_iff_iff] at hc; simpa using hc))⟩ (by (first | omega | (dsimp only; omega) | (simp only; omega)))
      · (simp only [bodyX]; refine ⟨_, by simp only [aresults, aresult, XS.as, Tryd.results33, aload, go_sem, Option.bind_some]; rfl, ?_⟩)
        exact ⟨ids_idB rfl, ⟨_, _, FChk.all hb (fun j hj => hp j (by omega)), rfl⟩, trivial⟩
    · (repeat' (first | (first | (with_reducible first | refine AX_block ?_ | refine AX_skip ?_ | refine AX_exit ?_ | refine AX_ret ?_ | refine AX_ift ?_ | refine AX_iff ?_ | refine AX_seq_k (fun K hK => ?_) | refine ContX.use (by assumption) ?_) | simp only [thenX, inBlockX, if_true, if_false, reduceCtorEq]) | (first | ((with_reducible refine XOP tyOK ?_); simp (disch := omega) only [go_sem , flatE_w, flatE_p, flatE_n]; (with_reducible refine XRes_id ?_)) | (with_reducible refine XSK ?_)) | ((with_reducible refine XRes_nil ?_); refine hK _ ?_; clear hK K) | ((with_reducible refine AX_reg0 fun K hK => ?_); simp only [go_sem]) | (first | (first | refine XTL (by rfl) (pf_eMay _) ?_) | ((refine XRes_makeMap rfl (fun b => ?_)); (simp only [putL, List.set_cons_succ, List.set_cons_zero, mInt_upd, mInt_del, mInt_get, mInt_is, mSet_upd, mSet_get, mSet_is, List.nil_append, List.cons_append])) | (first | (refine XRes_mput (i := 0) rfl Tryd.underlying99 rfl rfl rfl (by omega) rfl (int_plain (by omega)) (by unfold maxLen; omega) ?_; (simp only [putL, List.set_cons_succ, List.set_cons_zero, mInt_upd, mInt_del, mInt_get, mInt_is, mSet_upd, mSet_get, mSet_is, List.nil_append, List.cons_append])) | (refine XRes_mget (i := 0) rfl Tryd.underlying99 int_zero (by decide) rfl rfl rfl (by omega) ?_; (simp only [putL, List.set_cons_succ, List.set_cons_zero, mInt_upd, mInt_del, mInt_get, mInt_is, mSet_upd, mSet_get, mSet_is, List.nil_append, List.cons_append])) | (refine XRes_mlook (i := 0) rfl Tryd.underlying99 int_zero (by decide) rfl rfl rfl (by omega) ?_; (simp only [putL, List.set_cons_succ, List.set_cons_zero, mInt_upd, mInt_del, mInt_get, mInt_is, mSet_upd, mSet_get, mSet_is, List.nil_append, List.cons_append])) | (refine XRes_mdel (i := 0) rfl Tryd.underlying99 rfl rfl rfl (by omega) ?_; (simp only [putL, List.set_cons_succ, List.set_cons_zero, mInt_upd, mInt_del, mInt_get, mInt_is, mSet_upd, mSet_get, mSet_is, List.nil_append, List.cons_append])) | (refine XRes_mput (i := 1) rfl Tryd.underlying99 rfl rfl rfl (by omega) rfl (int_plain (by omega)) (by unfold maxLen; omega) ?_; (simp only [putL, List.set_cons_succ, List.set_cons_zero, mInt_upd, mInt_del, mInt_get, mInt_is, mSet_upd, mSet_get, mSet_is, List.nil_append, List.cons_append])) | (refine XRes_mget (i := 1) rfl Tryd.underlying99 int_zero (by decide) rfl rfl rfl (by omega) ?_; (simp only [putL, List.set_cons_succ, List.set_cons_zero, mInt_upd, mInt_del, mInt_get, mInt_is, mSet_upd, mSet_get, mSet_is, List.nil_append, List.cons_append])) | (refine XRes_mlook (i := 1) rfl Tryd.underlying99 int_zero (by decide) rfl rfl rfl (by omega) ?_; (simp only [putL, List.set_cons_succ, List.set_cons_zero, mInt_upd, mInt_del, mInt_get, mInt_is, mSet_upd, mSet_get, mSet_is, List.nil_append, List.cons_append])) | (refine XRes_mdel (i := 1) rfl Tryd.underlying99 rfl rfl rfl (by omega) ?_; (simp only [putL, List.set_cons_succ, List.set_cons_zero, mInt_upd, mInt_del, mInt_get, mInt_is, mSet_upd, mSet_get, mSet_is, List.nil_append, List.cons_append])))) | ((refine XRes_splitG (by rfl) (fun hc => ?_) (fun hc => ?_)) <;> (try simp only [eqRes, List.cons_beq_cons, Bool.and_eq_true, Bool.not_eq_true, Bool.and_eq_false_iff, decide_eq_true_eq, decide_eq_false_iff_not, bne_iff_ne, beq_iff_eq, bne_eq_false_iff_eq, beq_eq_false_iff_ne, Bool.not_eq_true', Bool.not_eq_false', ne_eq, Int.not_lt, Int.not_le, Decidable.not_not] at hc) <;> simp only [List.set_cons_succ, List.set_cons_zero]) | (first | ((with_reducible refine AX_if_t ?_ ?_); focus (simp (disch := omega) only [go_sem , flatE_w, flatE_p, flatE_n]; done)) | ((with_reducible refine AX_if_f ?_ ?_); focus (simp (disch := omega) only [go_sem , flatE_w, flatE_p, flatE_n]; done)) | (refine AX_cond _ (by rfl) (fun hc => ?_) (fun hc => ?_) <;> (try simp only [eqRes, List.cons_beq_cons, Bool.and_eq_true, Bool.not_eq_true, Bool.and_eq_false_iff, decide_eq_true_eq, decide_eq_false_iff_not, bne_iff_ne, beq_iff_eq, bne_eq_false_iff_eq, beq_eq_false_iff_ne, Bool.not_eq_true', Bool.not_eq_false', ne_eq, Int.not_lt, Int.not_le, Decidable.not_not] at hc)))))
      · (simp only [bodyX]; refine ⟨_, by simp only [aresults, aresult, XS.as, Tryd.results33, aload, go_sem, Option.bind_some]; rfl, ?_⟩)
        exact ⟨ids_idB rfl, ⟨_, _, FChk.at hb (by omega) hp (eErr_may hm) hm, rfl⟩, trivial⟩
      · (simp only [bodyX]; refine ⟨_, by simp only [aresults, aresult, XS.as, Tryd.results33, aload, go_sem, Option.bind_some]; rfl, ?_⟩)
        exact ⟨ids_idB rfl, ⟨_, _, FChk.all hb (fun j hj => hp j (by omega)), rfl⟩, trivial⟩
  · (repeat' (first | (first | (with_reducible first | refine AX_block ?_ | refine AX_skip ?_ | refine AX_exit ?_ | refine AX_ret ?_ | refine AX_ift ?_ | refine AX_iff ?_ | refine AX_seq_k (fun K hK => ?_) | refine ContX.use (by assumption) ?_) | simp only [thenX, inBlockX, if_true, if_false, reduceCtorEq]) | (first | ((with_reducible refine XOP tyOK ?_); simp (disch := omega) only [go_sem , flatE_w, flatE_p, flatE_n]; (with_reducible refine XRes_id ?_)) | (with_reducible refine XSK ?_)) | ((with_reducible refine XRes_nil ?_); refine hK _ ?_; clear hK K) | ((with_reducible refine AX_reg0 fun K hK => ?_); simp only [go_sem]) | (first | (first | refine XTL (by rfl) (pf_eMay _) ?_) | ((refine XRes_makeMap rfl (fun b => ?_)); (simp only [putL, List.set_cons_succ, List.set_cons_zero, mInt_upd, mInt_del, mInt_get, mInt_is, mSet_upd, mSet_get, mSet_is, List.nil_append, List.cons_append])) | (first | (refine XRes_mput (i := 0) rfl Tryd.underlying99 rfl rfl rfl (by omega) rfl (int_plain (by omega)) (by unfold maxLen; omega) ?_; (simp only [putL, List.set_cons_succ, List.set_cons_zero, mInt_upd, mInt_del, mInt_get, mInt_is, mSet_upd, mSet_get, mSet_is, List.nil_append, List.cons_append])) | (refine XRes_mget (i := 0) rfl Tryd.underlying99 int_zero (by decide) rfl rfl rfl (by omega) ?_; (simp only [putL, List.set_cons_succ, List.set_cons_zero, mInt_upd, mInt_del, mInt_get, mInt_is, mSet_upd, mSet_get, mSet_is, List.nil_append, List.cons_append])) | (refine XRes_mlook (i := 0) rfl Tryd.underlying99 int_zero (by decide) rfl rfl rfl (by omega) ?_; (simp only [putL, List.set_cons_succ, List.set_cons_zero, mInt_upd, mInt_del, mInt_get, mInt_is, mSet_upd, mSet_get, mSet_is, List.nil_append, List.cons_append])) | (refine XRes_mdel (i := 0) rfl Tryd.underlying99 rfl rfl rfl (by omega) ?_; (simp only [putL, List.set_cons_succ, List.set_cons_zero, mInt_upd, mInt_del, mInt_get, mInt_is, mSet_upd, mSet_get, mSet_is, List.nil_append, List.cons_append])) | (refine XRes_mput (i := 1) rfl Tryd.underlying99 rfl rfl rfl (by omega) rfl (int_plain (by omega)) (by unfold maxLen; omega) ?_; (simp only [putL, List.set_cons_succ, List.set_cons_zero, mInt_upd, mInt_del, mInt_get, mInt_is, mSet_upd, mSet_get, mSet_is, List.nil_append, List.cons_append])) | (refine XRes_mget (i := 1) rfl Tryd.underlying99 int_zero (by decide) rfl rfl rfl (by omega) ?_; (simp only [putL, List.set_cons_succ, List.set_cons_zero, mInt_upd, mInt_del, mInt_get, mInt_is, mSet_upd, mSet_get, mSet_is, List.nil_append, List.cons_append])) | (refine XRes_mlook (i := 1) rfl Tryd.underlying99 int_zero (by decide) rfl rfl rfl (by omega) ?_; (simp only [putL, List.set_cons_succ, List.set_cons_zero, mInt_upd, mInt_del, mInt_get, mInt_is, mSet_upd, mSet_get, mSet_is, List.nil_append, List.cons_append])) | (refine XRes_mdel (i := 1) rfl Tryd.underlying99 rfl rfl rfl (by omega) ?_; (simp only [putL, List.set_cons_succ, List.set_cons_zero, mInt_upd, mInt_del, mInt_get, mInt_is, mSet_upd, mSet_get, mSet_is, List.nil_append, List.cons_append])))) | ((refine XRes_splitG (by rfl) (fun hc => ?_) (fun hc => ?_)) <;> (try simp only [eqRes, List.cons_beq_cons, Bool.and_eq_true, Bool.not_eq_true, Bool.and_eq_false_iff, decide_eq_true_eq, decide_eq_false_iff_not, bne_iff_ne, beq_iff_eq, bne_eq_false_iff_eq, beq_eq_false_iff_ne, Bool.not_eq_true', Bool.not_eq_false', ne_eq, Int.not_lt, Int.not_le, Decidable.not_not] at hc) <;> simp only [List.set_cons_succ, List.set_cons_zero]) | (first | ((with_reducible refine AX_if_t ?_ ?_); focus (simp (disch := omega) only [go_sem , flatE_w, flatE_p, flatE_n]; done)) | ((with_reducible refine AX_if_f ?_ ?_); focus (simp (disch := omega) only [go_sem , flatE_w, flatE_p, flatE_n]; done)) | (refine AX_cond _ (by rfl) (fun hc => ?_) (fun hc => ?_) <;> (try simp only [eqRes, List.cons_beq_cons, Bool.and_eq_true, Bool.not_eq_true, Bool.and_eq_false_iff, decide_eq_true_eq, decide_eq_false_iff_not, bne_iff_ne, beq_iff_eq, bne_eq_false_iff_eq, beq_eq_false_iff_ne, Bool.not_eq_true', Bool.not_eq_false', ne_eq, Int.not_lt, Int.not_le, Decidable.not_not] at hc)))))
    (simp only [bodyX]; refine ⟨_, by simp only [aresults, aresult, XS.as, Tryd.results33, aload, go_sem, Option.bind_some]; rfl, ?_⟩)
    exact ⟨ids_idB rfl, ⟨_, _, FChk.big' (by omega), rfl⟩, trivial⟩
end Go.Proofs.YtdaenbgjafalcaaDoor
namespace Go.Proofs.YtdaenbgjafalcaaDoor
open Go.RowKit Go.Lib
def wCall : List UInt8 := [99, 97, 108, 108]
def wRet : List UInt8 := [114, 101, 116]
def evHi (K : Int) (T : List Tok3) : Int := if (T.getD 0 tok0).2.2 = wCall then K - 1 else 1000000
def evW (T : List Tok3) : Int := if (T.getD 0 tok0).2.2 = wCall then 1 else 2
def ev0 : Ev3 := ⟨0, 0, 0⟩
def evN (K z : Int) (T : List Tok3) : List Int × Int × Int := nums T (T.getD 0 tok0).2.2 [1, 0] [1000, evHi K T] z
def evOne (K z : Int) (es : List Ev3) (T : List Tok3) : Ev3 × Int × Int :=
  if (T.getD 0 tok0).2.2 ≠ wCall ∧ (T.getD 0 tok0).2.2 ≠ wRet then (ev0, (T.getD 0 tok0).2.1, 8) else
  if (evN K z T).2.2 ≠ 0 then (ev0, (evN K z T).2.1, (evN K z T).2.2) else
  if (eLast es es.length ((evN K z T).1.getD 0 0) = 1) ↔ evW T = 1 then (ev0, (T.getD 0 tok0).2.1, 33) else
  if es.length = 10000 then (ev0, (T.getD 0 tok0).2.1, 3) else (⟨evW T, (evN K z T).1.getD 0 0, (evN K z T).1.getD 1 0⟩, z, 0)
theorem evOne_ok {K z : Int} {es : List Ev3} {T : List Tok3} (h : (evOne K z es T).2.2 = 0) : ((T.getD 0 tok0).2.2 = wCall ∨ (T.getD 0 tok0).2.2 = wRet) ∧ (evN K z T).2.2 = 0 ∧ ¬ ((eLast es es.length ((evN K z T).1.getD 0 0) = 1) ↔ evW T = 1) ∧ es.length ≠ 10000 ∧ evOne K z es T = (⟨evW T, (evN K z T).1.getD 0 0, (evN K z T).1.getD 1 0⟩, z, 0) := by
  unfold evOne at h ⊢
  by_cases h1 : (T.getD 0 tok0).2.2 ≠ wCall ∧ (T.getD 0 tok0).2.2 ≠ wRet
  · rw [if_pos h1] at h; cases h
  · rw [if_neg h1] at h ⊢
    by_cases h2 : (evN K z T).2.2 ≠ 0
    · rw [if_pos h2] at h; exact absurd h h2
    · rw [if_neg h2] at h ⊢
      by_cases h3 : (eLast es es.length ((evN K z T).1.getD 0 0) = 1) ↔ evW T = 1
      · rw [if_pos h3] at h; cases h
      · rw [if_neg h3] at h ⊢
        by_cases h4 : es.length = 10000
        · rw [if_pos h4] at h; cases h
        · rw [if_neg h4]
          refine ⟨?_, by simpa using h2, h3, h4, rfl⟩
          by_cases h5 : (T.getD 0 tok0).2.2 = wCall
          · exact .inl h5
          · exact .inr (Classical.not_not.1 fun h6 => h1 ⟨h5, h6⟩)
def evsGo (K z : Int) : List (List Tok3) → List Ev3 → List Ev3 × Int × Int
  | [], es => (es, z, 0)
  | T :: L, es => if T.length = 0 then evsGo K z L es else if (evOne K z es T).2.2 ≠ 0 then ([], (evOne K z es T).2.1, (evOne K z es T).2.2) else evsGo K z L (es ++ [(evOne K z es T).1])
theorem evsGo_nil {K z : Int} {T : List Tok3} {L : List (List Tok3)} {es : List Ev3} (h : T.length = 0) : evsGo K z (T :: L) es = evsGo K z L es := if_pos h
theorem evsGo_bad {K z : Int} {T : List Tok3} {L : List (List Tok3)} {es : List Ev3} (h : T.length ≠ 0) (h2 : (evOne K z es T).2.2 ≠ 0) : evsGo K z (T :: L) es = ([], (evOne K z es T).2.1, (evOne K z es T).2.2) := by
  rw [evsGo, if_neg h, if_pos h2]
theorem evsGo_ok {K z : Int} {T : List Tok3} {L : List (List Tok3)} {es : List Ev3} (h : T.length ≠ 0) (h2 : (evOne K z es T).2.2 = 0) : evsGo K z (T :: L) es = evsGo K z L (es ++ [(evOne K z es T).1]) := by
  rw [evsGo, if_neg h, if_neg (by rw [h2]; simp)]
theorem evsGo_said {K z : Int} : ∀ (L : List (List Tok3)) (es : List Ev3), evsGo K z (said L) es = evsGo K z L es
  | [], es => rfl
  | T :: L, es => by
    by_cases h : T.length = 0
    · have e : said (T :: L) = said L := by unfold said; rw [List.filter_cons, if_neg (by simp [h])]
      rw [e, evsGo_nil h, evsGo_said L es]
    · have e : said (T :: L) = T :: said L := by unfold said; rw [List.filter_cons, if_pos (by simp [h])]
      rw [e]
      by_cases h2 : (evOne K z es T).2.2 = 0
      · rw [evsGo_ok h h2, evsGo_ok h h2, evsGo_said L]
      · rw [evsGo_bad h h2, evsGo_bad h h2]
def hps (L : List (List Tok3)) (z : Int) : Ob × List Ev3 × Int × Int :=
  if (takeP L z).2.2.2 ≠ 0 then (ob0, [], (takeP L z).2.2.1, (takeP L z).2.2.2) else
  if (evsGo (takeP L z).1.K z (takeP L z).2.1 []).2.2 ≠ 0 then (ob0, [], (evsGo (takeP L z).1.K z (takeP L z).2.1 []).2.1, (evsGo (takeP L z).1.K z (takeP L z).2.1 []).2.2) else ((takeP L z).1, (evsGo (takeP L z).1.K z (takeP L z).2.1 []).1, z, 0)
def hpr (l : List UInt8) : Ob × List Ev3 × Int × Int := hps (lnsT l) l.length
theorem hps_t {L : List (List Tok3)} {z : Int} (h : (takeP L z).2.2.2 ≠ 0) : hps L z = (ob0, [], (takeP L z).2.2.1, (takeP L z).2.2.2) := if_pos h
theorem hps_e {L : List (List Tok3)} {z : Int} (h : (takeP L z).2.2.2 = 0) (h2 : (evsGo (takeP L z).1.K z (takeP L z).2.1 []).2.2 ≠ 0) : hps L z = (ob0, [], (evsGo (takeP L z).1.K z (takeP L z).2.1 []).2.1, (evsGo (takeP L z).1.K z (takeP L z).2.1 []).2.2) := by
  unfold hps; rw [if_neg (by rw [h]; simp), if_pos h2]
theorem hps_o {L : List (List Tok3)} {z : Int} (h : (takeP L z).2.2.2 = 0) (h2 : (evsGo (takeP L z).1.K z (takeP L z).2.1 []).2.2 = 0) : hps L z = ((takeP L z).1, (evsGo (takeP L z).1.K z (takeP L z).2.1 []).1, z, 0) := by
  unfold hps; rw [if_neg (by rw [h]; simp), if_neg (by rw [h2]; simp)]
theorem evAt_app {es : List Ev3} {x : Ev3} {i : Nat} (h : i < es.length) : evAt (es ++ [x]) i = evAt es i := by
  unfold evAt; rw [List.getD_eq_getElem?_getD, List.getD_eq_getElem?_getD, List.getElem?_append_left h]
theorem evAt_new {es : List Ev3} {x : Ev3} : evAt (es ++ [x]) es.length = x := by
  unfold evAt; rw [List.getD_eq_getElem?_getD, List.getElem?_append_right (Nat.le_refl _)]; simp
theorem eLast_app {es : List Ev3} {x : Ev3} {p : Int} : ∀ {k : Nat}, k ≤ es.length → eLast (es ++ [x]) k p = eLast es k p
  | 0, _ => rfl
  | k + 1, h => by rw [eLast, eLast, evAt_app (by omega), eLast_app (by omega)]
theorem eOpn_app {es : List Ev3} {x : Ev3} : ∀ {k : Nat}, k ≤ es.length → eOpn (es ++ [x]) k = eOpn es k
  | 0, _ => rfl
  | k + 1, h => by rw [eOpn, eOpn, evAt_app (by omega), eOpn_app (by omega)]
theorem eOpn_new (es : List Ev3) (x : Ev3) : eOpn (es ++ [x]) (es ++ [x]).length = updF (eOpn es es.length) x.p x.w := by
  rw [List.length_append, List.length_singleton, eOpn, evAt_new, eOpn_app (Nat.le_refl _)]
theorem eMay_app {es : List Ev3} {x : Ev3} {k : Nat} (h : k < es.length) : eErr (es ++ [x]) k = eErr es k := by
  unfold eErr; rw [evAt_app h, eLast_app (by omega)]
theorem eKin_app {es : List Ev3} {x : Ev3} : ∀ {k : Nat}, k ≤ es.length → eKin (es ++ [x]) k = eKin es k
  | 0, _ => rfl
  | k + 1, h => by rw [eKin, eKin, evAt_app (by omega), eKin_app (by omega)]
theorem eKin_new (es : List Ev3) (x : Ev3) : eKin (es ++ [x]) (es ++ [x]).length = if x.w = 1 then max (eKin es es.length) (min x.n 63 + 1) else eKin es es.length := by
  rw [List.length_append, List.length_singleton, eKin, evAt_new, eKin_app (Nat.le_refl _)]
theorem nums2_ok {T : List Tok3} {w : List UInt8} {a b c d z : Int} (h : (nums T w [a, b] [c, d] z).2.2 = 0) : T.length ≠ 0 ∧ (nums T w [a, b] [c, d] z).1.length = 2 ∧ (a ≤ (nums T w [a, b] [c, d] z).1.getD 0 0 ∧ (nums T w [a, b] [c, d] z).1.getD 0 0 ≤ c) ∧ (b ≤ (nums T w [a, b] [c, d] z).1.getD 1 0 ∧ (nums T w [a, b] [c, d] z).1.getD 1 0 ≤ d) := by
  have hin : ∀ {l : List UInt8} {lo hi : Int}, (numR l lo hi).2 = 0 → lo ≤ (numR l lo hi).1 ∧ (numR l lo hi).1 ≤ hi := fun {l lo hi} h => by
    unfold numR at h ⊢
    split at h
    · cases h
    · rename_i h1
      rw [if_neg h1]
      split at h
      · rename_i h2; rw [if_pos h2]; exact ⟨h2.2.2.1, h2.2.2.2⟩
      · cases h
  unfold nums at h ⊢
  by_cases h0 : T.length = 0
  · rw [if_pos h0] at h; cases h
  · rw [if_neg h0] at h ⊢
    by_cases h1 : (T.getD 0 tok0).2.2 ≠ w
    · rw [if_pos h1] at h; cases h
    · rw [if_neg h1] at h ⊢
      refine ⟨h0, ?_⟩
      have hz : ([a, b] : List Int).zip [c, d] = [(a, c), (b, d)] := rfl
      rw [hz] at h ⊢
      generalize T.drop 1 = U at *
      match U with
      | [] => simp [nGo] at h
      | [t] =>
        by_cases g1 : (numR t.2.2 a c).2 = 0
        · simp [nGo, g1] at h
        · simp [nGo, g1] at h
      | [t, u] =>
        by_cases g1 : (numR t.2.2 a c).2 = 0
        · by_cases g2 : (numR u.2.2 b d).2 = 0
          · have e : nGo (lastEnd T) z [t, u] [(a, c), (b, d)] [] = ([(numR t.2.2 a c).1, (numR u.2.2 b d).1], z, 0) := by simp [nGo, g1, g2]
            rw [e]
            exact ⟨rfl, hin g1, hin g2⟩
          · simp [nGo, g1, g2] at h
        · simp [nGo, g1] at h
      | t :: u :: v :: V =>
        by_cases g1 : (numR t.2.2 a c).2 = 0
        · by_cases g2 : (numR u.2.2 b d).2 = 0
          · simp [nGo, g1, g2] at h
          · simp [nGo, g1, g2] at h
        · simp [nGo, g1] at h
structure EvsOK (K : Int) (es : List Ev3) : Prop where
  len : es.length ≤ 10000
  err : ∀ k, k < es.length → eErr es k = 0
  kin : eKin es es.length ≤ K
theorem EvsOK.nil {K : Int} (hK : 0 ≤ K) : EvsOK K [] := ⟨by simp, fun k h => absurd h (by simp), hK⟩
theorem evW_is (T : List Tok3) : evW T = 1 ∨ evW T = 2 := by unfold evW; split <;> simp
theorem EvsOK.step {K z : Int} {es : List Ev3} {T : List Tok3} (h : EvsOK K es) (hK : 1 ≤ K ∧ K ≤ 64) (h0 : (evOne K z es T).2.2 = 0) : EvsOK K (es ++ [(evOne K z es T).1]) := by
  obtain ⟨h1, h2, h3, h4, h5⟩ := evOne_ok h0
  obtain ⟨_, _, g1, g2⟩ := nums2_ok (T := T) h2
  have g1 : 1 ≤ (evN K z T).1.getD 0 0 ∧ (evN K z T).1.getD 0 0 ≤ 1000 := g1
  have g2 : 0 ≤ (evN K z T).1.getD 1 0 ∧ (evN K z T).1.getD 1 0 ≤ evHi K T := g2
  rw [h5]
  generalize (evN K z T).1.getD 0 0 = p at *
  generalize (evN K z T).1.getD 1 0 = n at *
  have hw := evW_is T
  have hhi : (evW T = 1 → evHi K T = K - 1) ∧ (evW T = 2 → evHi K T = 1000000) := by
    unfold evW evHi
    by_cases h6 : (T.getD 0 tok0).2.2 = wCall
    · rw [if_pos h6, if_pos h6]; exact ⟨fun _ => rfl, fun h => by omega⟩
    · rw [if_neg h6, if_neg h6]; exact ⟨fun h => by omega, fun _ => rfl⟩
  generalize evHi K T = hi at *
  generalize evW T = w at *
  have hlen := h.len
  refine ⟨by rw [List.length_append, List.length_singleton]; omega, fun k hk => ?_, ?_⟩
  · rw [List.length_append, List.length_singleton] at hk
    rcases Nat.lt_or_ge k es.length with h6 | h6
    · rw [eMay_app h6]; exact h.err k h6
    · obtain rfl : k = es.length := by omega
      refine eErr_none ?_ ?_
      · rw [evAt_new]
        unfold eMay
        dsimp only
        rcases hw with rfl | rfl
        · have := hhi.1 rfl
          rw [if_neg (by omega), if_neg (by omega), if_neg (by omega), if_neg (by omega)]
        · have := hhi.2 rfl
          rw [if_neg (by omega), if_neg (by omega), if_neg (by omega), if_neg (by omega)]
      · rw [evAt_new, eLast_app (Nat.le_refl _)]
        dsimp only
        constructor
        · intro h7
          rcases hw with rfl | rfl
          · exact absurd ⟨fun _ => rfl, fun _ => h7⟩ h3
          · rfl
        · rintro rfl
          exact Classical.not_not.1 fun h7 => h3 ⟨fun h8 => absurd h8 h7, fun h8 => by omega⟩
  · rw [eKin_new]
    have := h.kin
    dsimp only
    split
    · rename_i h6
      have := hhi.1 h6
      omega
    · exact h.kin
end Go.Proofs.YtdaenbgjafalcaaDoor
namespace Go.Proofs.YtdaenbgjafalcaaDoor
open Go.RowKit
set_option linter.unusedVariables false
set_option linter.unusedSimpArgs false
end Go.Proofs.YtdaenbgjafalcaaDoor
