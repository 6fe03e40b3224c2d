import Derived.Test.YtpamcgpdmphfhaaDoorMgBK
import Derived.Test.YtpamcgpdmphfhaaDoorMgBD
import Derived.Test.YtpamcgpdmphfhaaDoorMgAW
import Derived.Test.YtpamcgpdmphfhaaDoorMgBA
namespace Go.Proofs.YtpamcgpdmphfhaaDoor
open Go.RowKit Go.Lib
set_option linter.unusedVariables false
set_option linter.unusedSimpArgs false
deriving instance DecidableEq for Rw
theorem Rw.ext' {x y : Rw} (h1 : x.s = y.s) (h2 : x.k = y.k) (h3 : x.n = y.n) (h4 : x.r = y.r) : x = y := by
  cases x; cases y; cases h1; cases h2; cases h3; cases h4; rfl
theorem rwAt_get {xs : List Rw} {i : Nat} (h : i < xs.length) : rwAt xs i = xs[i] := by
  unfold rwAt; rw [List.getD_eq_getElem?_getD, List.getElem?_eq_getElem h]; rfl
theorem rws_ext {xs ys : List Rw} (hl : xs.length = ys.length) (h : ∀ i, i < xs.length → rwFl (rwAt xs i) = rwFl (rwAt ys i)) : xs = ys := by
  apply List.ext_getElem hl
  intro i h1 h2
  have := h i h1
  rw [rwAt_get h1, rwAt_get h2] at this
  simp only [rwFl, List.cons.injEq] at this
  exact Rw.ext' this.1 this.2.1 this.2.2.1 this.2.2.2.1
theorem rws_no {xs ys : List Rw} {i : Nat} (h : ¬ rwFl (rwAt xs i) = rwFl (rwAt ys i)) : xs ≠ ys := fun e => h (by rw [e])
theorem W01e3a {A B : Prop} (h9 : B) (w : B → A := by (intro h9; (repeat intro K hK); refine ⟨?_⟩; (repeat (first | (first | (with_reducible first | refine AX_block ?_ | refine AX_skip ?_ | refine AX_exit ?_ | refine AX_ret ?_ | refine AX_ift ?_ | refine AX_iff ?_ | refine AX_seq_k (fun K hK => ?_) | refine ContX.use (by assumption) ?_) | simp only [thenX, inBlockX, if_true, if_false, reduceCtorEq]) | (first | ((first | (with_reducible refine XRes_op tyOK ?_ ?_) | ((with_reducible first | refine ADF_op tyOK ?_ ?_ ?_ | refine ADX_op tyOK ?_ ?_ ?_); (focus rfl)) | (with_reducible refine ADR_alloc1 tyOK ?_ ?_) | ((with_reducible refine ADR_free1 tyOK ?_ ?_ ?_); (focus rfl)) | ((with_reducible refine ADR_free0 tyOK ?_ ?_ ?_); (focus rfl)) | ((with_reducible refine ADR_read1 tyOK ?_ ?_ ?_); (focus rfl)) | (with_reducible refine ADR_chg1 tyOK ?_ ?_)); (focus (first | (with_reducible rfl) | ((simp (disch := omega) only [go_sem]); done))); simp (disch := omega) only [go_sem , flatR_s, flatR_k, flatR_n, flatR_r, hs1, hs2, hs3, hs4]; (first | (with_reducible refine XRes_id ?_) | (with_reducible refine ADF_id ?_) | (with_reducible refine ADR_id1 ?_) | (with_reducible refine ADX_id ?_))) | ((first | (with_reducible refine XRes_skip ?_ ?_) | (with_reducible refine ADF_skip (b := true) ?_ ?_) | (with_reducible refine ADX_skip ?_ ?_) | ((with_reducible refine ADR_skip1 ?_ ?_ ?_); (focus rfl))); (focus (first | rfl | ((simp (disch := omega) only [go_sem]); done))); (simp only [putL, List.set_cons_succ, List.set_cons_zero]))) | ((first | (with_reducible refine XRes_nil ?_) | (with_reducible refine ADF_nil ?_) | (with_reducible refine ADR_nil ?_) | (with_reducible refine ADX_nil ?_)); (first | refine hK _ ?_ | refine hK _ _ ?_); clear hK K) | ((first | (with_reducible refine AX_reg0 fun K hK => ?_) | (refine AX_drawG1 tyOK (by kernel_rfl) (by rfl) (by kernel_rfl) fun K hK => ?_) | (refine AX_drawT tyOK (by kernel_rfl) (by decide +kernel) fun K hK => ?_) | (refine AX_drawM1 (by kernel_rfl) (by rfl) (by decide +kernel) fun K hK => ?_) | (refine AX_drawA tyOK (by kernel_rfl) (by decide +kernel) fun K hK => ?_)); (first | simp only [go_sem, preN, effOp, runF, alM, mapOp, alD2, kdOf2, Bool.not_false, Bool.not_true, reduceCtorEq] | simp only [go_sem, preN, effOp, runF, alM, mapOp, Bool.not_false, Bool.not_true, reduceCtorEq] | simp only [go_sem, preN, effOp, runF, alD2, kdOf2, Bool.not_false, Bool.not_true, reduceCtorEq] | simp only [go_sem, alD2, kdOf2, Bool.not_false, Bool.not_true, reduceCtorEq] | simp only [go_sem, preN, effOp, runF, Bool.not_false, Bool.not_true, reduceCtorEq] | simp only [go_sem])) | (first | ((first | (refine XRes_eqA (us := [_, _, _, _]) (vs2 := [_, _, _, _]) rfl (by first | exact .inl rfl | exact .inr rfl) rfl rfl rfl rfl (by kernel_rfl) ?_) | (refine ADF_eqA (us := [_, _, _, _]) (vs2 := [_, _, _, _]) rfl (by first | exact .inl rfl | exact .inr rfl) rfl rfl rfl rfl (by kernel_rfl) ?_)); (simp only [putL, List.set_cons_succ, List.set_cons_zero])) | (first | refine XTL (by rfl) hR ?_ | refine ATL tyOK (by rfl) hR ?_ | refine XTL (by rfl) h1 ?_ | refine ATL tyOK (by rfl) h1 ?_)))); refine Wk.o ?_; (repeat revert hK K); exact h9)) : A := w h9
set_option maxRecDepth 100000 in
set_option maxHeartbeats 1000000 in
theorem pf_sameRows (xs ys : List Rw) (hx : xs.length ≤ 100000) (hy : ys.length ≤ 100000) : PF Tryd.prog 27 [.iv (iRws xs), .iv (iRws ys)] fun r H' => r = lt (.bool (decide (xs = ys))) ∧ H' = [] := by
  refine SF.forgetAll ?_
  have hs1 := trivial; have hs2 := trivial; have hs3 := trivial; have hs4 := trivial; have hR := trivial; have h1 := trivial
  (refine SF_of_bodyX (aload tt) (aload_ok tyOK) Tryd.func27 rfl (by kernel_rfl) ?_; simp only [Tryd.ntmps27, List.length_cons, List.length_nil, Nat.reduceAdd, Nat.reduceSub, List.replicate_succ, List.replicate_zero, List.cons_append, List.nil_append])
  unfold iRws
  by_cases hl : xs.length = ys.length
  · (refine Wk.o ?_; (repeat revert hK K); refine W01e3a ?_; (repeat intro K hK); refine ⟨?_⟩)
    (refine AWH (σ := Nat) [11, 12, 13, 14, 17, 18, 19, 20, 21, 22, 23, 24, 25, 4, 15, 16] (fun k => [(5, lint k)]) (fun k => []) (fun k => []) (fun k => k ≤ xs.length ∧ ∀ i, i < k → rwFl (rwAt xs i) = rwFl (rwAt ys i)) (fun k => xs.length - k) 0 (by first | exact ⟨Nat.zero_le _, fun i h => absurd h (by omega)⟩) ?_; rintro k d fr hfr ⟨hk, hp⟩; simp only [updS, deadS, List.set_cons_succ, List.set_cons_zero, lint] at hfr; subst hfr; (try dsimp only))
    (repeat' (first | (first | (with_reducible first | refine AX_block ?_ | refine AX_skip ?_ | refine AX_exit ?_ | refine AX_ret ?_ | refine AX_ift ?_ | refine AX_iff ?_ | refine AX_seq_k (fun K hK => ?_) | refine ContX.use (by assumption) ?_) | simp only [thenX, inBlockX, if_true, if_false, reduceCtorEq]) | (first | ((first | (with_reducible refine XRes_op tyOK ?_ ?_) | ((with_reducible first | refine ADF_op tyOK ?_ ?_ ?_ | refine ADX_op tyOK ?_ ?_ ?_); (focus rfl)) | (with_reducible refine ADR_alloc1 tyOK ?_ ?_) | ((with_reducible refine ADR_free1 tyOK ?_ ?_ ?_); (focus rfl)) | ((with_reducible refine ADR_free0 tyOK ?_ ?_ ?_); (focus rfl)) | ((with_reducible refine ADR_read1 tyOK ?_ ?_ ?_); (focus rfl)) | (with_reducible refine ADR_chg1 tyOK ?_ ?_)); (focus (first | (with_reducible rfl) | ((simp (disch := omega) only [go_sem]); done))); simp (disch := omega) only [go_sem , flatR_s, flatR_k, flatR_n, flatR_r, hs1, hs2, hs3, hs4]; (first | (with_reducible refine XRes_id ?_) | (with_reducible refine ADF_id ?_) | (with_reducible refine ADR_id1 ?_) | (with_reducible refine ADX_id ?_))) | ((first | (with_reducible refine XRes_skip ?_ ?_) | (with_reducible refine ADF_skip (b := true) ?_ ?_) | (with_reducible refine ADX_skip ?_ ?_) | ((with_reducible refine ADR_skip1 ?_ ?_ ?_); (focus rfl))); (focus (first | rfl | ((simp (disch := omega) only [go_sem]); done))); (simp only [putL, List.set_cons_succ, List.set_cons_zero]))) | ((first | (with_reducible refine XRes_nil ?_) | (with_reducible refine ADF_nil ?_) | (with_reducible refine ADR_nil ?_) | (with_reducible refine ADX_nil ?_)); (first | refine hK _ ?_ | refine hK _ _ ?_); clear hK K) | ((first | (with_reducible refine AX_reg0 fun K hK => ?_) | (refine AX_drawG1 tyOK (by kernel_rfl) (by rfl) (by kernel_rfl) fun K hK => ?_) | (refine AX_drawT tyOK (by kernel_rfl) (by decide +kernel) fun K hK => ?_) | (refine AX_drawM1 (by kernel_rfl) (by rfl) (by decide +kernel) fun K hK => ?_) | (refine AX_drawA tyOK (by kernel_rfl) (by decide +kernel) fun K hK => ?_)); (first | simp only [go_sem, preN, effOp, runF, alM, mapOp, alD2, kdOf2, Bool.not_false, Bool.not_true, reduceCtorEq] | simp only [go_sem, preN, effOp, runF, alM, mapOp, Bool.not_false, Bool.not_true, reduceCtorEq] | simp only [go_sem, preN, effOp, runF, alD2, kdOf2, Bool.not_false, Bool.not_true, reduceCtorEq] | simp only [go_sem, alD2, kdOf2, Bool.not_false, Bool.not_true, reduceCtorEq] | simp only [go_sem, preN, effOp, runF, Bool.not_false, Bool.not_true, reduceCtorEq] | simp only [go_sem])) | (first | ((first | (refine XRes_eqA (us := [_, _, _, _]) (vs2 := [_, _, _, _]) rfl (by first | exact .inl rfl | exact .inr rfl) rfl rfl rfl rfl (by kernel_rfl) ?_) | (refine ADF_eqA (us := [_, _, _, _]) (vs2 := [_, _, _, _]) rfl (by first | exact .inl rfl | exact .inr rfl) rfl rfl rfl rfl (by kernel_rfl) ?_)); (simp only [putL, List.set_cons_succ, List.set_cons_zero])) | (first | refine XTL (by rfl) hR ?_ | refine ATL tyOK (by rfl) hR ?_ | refine XTL (by rfl) h1 ?_ | refine ATL tyOK (by rfl) h1 ?_)) | ((first | (refine XRes_splitG (by rfl) (fun hc => ?_) (fun hc => ?_)) | (refine ADF_splitG (by rfl) (fun hc => ?_) (fun hc => ?_))) <;> (try simp only [eqRes, List.cons_beq_cons, Bool.and_eq_true, Bool.not_eq_true, Bool.and_eq_false_iff, decide_eq_true_eq, decide_eq_false_iff_not, bne_iff_ne, beq_iff_eq, bne_eq_false_iff_eq, beq_eq_false_iff_ne, Bool.not_eq_true', Bool.not_eq_false', ne_eq, Int.not_lt, Int.not_le, Decidable.not_not] at hc) <;> simp only [List.set_cons_succ, List.set_cons_zero]) | (first | ((with_reducible refine AX_if_t ?_ ?_); focus (simp (disch := omega) only [go_sem , flatR_s, flatR_k, flatR_n, flatR_r, hs1, hs2, hs3, hs4]; done)) | ((with_reducible refine AX_if_f ?_ ?_); focus (simp (disch := omega) only [go_sem , flatR_s, flatR_k, flatR_n, flatR_r, hs1, hs2, hs3, hs4]; done)) | (refine AX_cond _ (by rfl) (fun hc => ?_) (fun hc => ?_) <;> (try simp only [eqRes, List.cons_beq_cons, Bool.and_eq_true, Bool.not_eq_true, Bool.and_eq_false_iff, decide_eq_true_eq, decide_eq_false_iff_not, bne_iff_ne, beq_iff_eq, bne_eq_false_iff_eq, beq_eq_false_iff_ne, Bool.not_eq_true', Bool.not_eq_false', ne_eq, Int.not_lt, Int.not_le, Decidable.not_not] at hc)))))
    · (simp only [bodyX]; refine ⟨_, by simp only [aresults, aresult, XS.as, Tryd.results27, aload, go_sem, Option.bind_some]; rfl, ?_⟩)
      have hne : rwFl (rwAt xs k) ≠ rwFl (rwAt ys k) := fun h => by
        simp only [rwFl, List.cons.injEq] at h
        obtain ⟨h1, h2, h3, h4, _⟩ := h
        simp [h1, h2, h3, h4] at hc
      exact ⟨.iv _, (by rw [decide_eq_false (rws_no hne)]), trivial⟩
    · refine WEND (k + 1) ⟨by omega, fun i hi => ?_⟩ (by (first | omega | (dsimp only; omega) | (simp only; omega)))
      rcases Nat.lt_or_ge i k with h | h
      · exact hp i h
      · rw [show i = k by omega]; simp only [rwFl]; simp [hc]
    · (simp only [bodyX]; refine ⟨_, by simp only [aresults, aresult, XS.as, Tryd.results27, aload, go_sem, Option.bind_some]; rfl, ?_⟩)
      exact ⟨.iv _, (by rw [decide_eq_true (rws_ext hl fun i hi => hp i (by omega))]), trivial⟩
  · (repeat' (first | (first | (with_reducible first | refine AX_block ?_ | refine AX_skip ?_ | refine AX_exit ?_ | refine AX_ret ?_ | refine AX_ift ?_ | refine AX_iff ?_ | refine AX_seq_k (fun K hK => ?_) | refine ContX.use (by assumption) ?_) | simp only [thenX, inBlockX, if_true, if_false, reduceCtorEq]) | (first | ((first | (with_reducible refine XRes_op tyOK ?_ ?_) | ((with_reducible first | refine ADF_op tyOK ?_ ?_ ?_ | refine ADX_op tyOK ?_ ?_ ?_); (focus rfl)) | (with_reducible refine ADR_alloc1 tyOK ?_ ?_) | ((with_reducible refine ADR_free1 tyOK ?_ ?_ ?_); (focus rfl)) | ((with_reducible refine ADR_free0 tyOK ?_ ?_ ?_); (focus rfl)) | ((with_reducible refine ADR_read1 tyOK ?_ ?_ ?_); (focus rfl)) | (with_reducible refine ADR_chg1 tyOK ?_ ?_)); (focus (first | (with_reducible rfl) | ((simp (disch := omega) only [go_sem]); done))); simp (disch := omega) only [go_sem , flatR_s, flatR_k, flatR_n, flatR_r, hs1, hs2, hs3, hs4]; (first | (with_reducible refine XRes_id ?_) | (with_reducible refine ADF_id ?_) | (with_reducible refine ADR_id1 ?_) | (with_reducible refine ADX_id ?_))) | ((first | (with_reducible refine XRes_skip ?_ ?_) | (with_reducible refine ADF_skip (b := true) ?_ ?_) | (with_reducible refine ADX_skip ?_ ?_) | ((with_reducible refine ADR_skip1 ?_ ?_ ?_); (focus rfl))); (focus (first | rfl | ((simp (disch := omega) only [go_sem]); done))); (simp only [putL, List.set_cons_succ, List.set_cons_zero]))) | ((first | (with_reducible refine XRes_nil ?_) | (with_reducible refine ADF_nil ?_) | (with_reducible refine ADR_nil ?_) | (with_reducible refine ADX_nil ?_)); (first | refine hK _ ?_ | refine hK _ _ ?_); clear hK K) | ((first | (with_reducible refine AX_reg0 fun K hK => ?_) | (refine AX_drawG1 tyOK (by kernel_rfl) (by rfl) (by kernel_rfl) fun K hK => ?_) | (refine AX_drawT tyOK (by kernel_rfl) (by decide +kernel) fun K hK => ?_) | (refine AX_drawM1 (by kernel_rfl) (by rfl) (by decide +kernel) fun K hK => ?_) | (refine AX_drawA tyOK (by kernel_rfl) (by decide +kernel) fun K hK => ?_)); (first | simp only [go_sem, preN, effOp, runF, alM, mapOp, alD2, kdOf2, Bool.not_false, Bool.not_true, reduceCtorEq] | simp only [go_sem, preN, effOp, runF, alM, mapOp, Bool.not_false, Bool.not_true, reduceCtorEq] | simp only [go_sem, preN, effOp, runF, alD2, kdOf2, Bool.not_false, Bool.not_true, reduceCtorEq] | simp only [go_sem, alD2, kdOf2, Bool.not_false, Bool.not_true, reduceCtorEq] | simp only [go_sem, preN, effOp, runF, Bool.not_false, Bool.not_true, reduceCtorEq] | simp only [go_sem])) | (first | ((first | (refine XRes_eqA (us := [_, _, _, _]) (vs2 := [_, _, _, _]) rfl (by first | exact .inl rfl | exact .inr rfl) rfl rfl rfl rfl (by kernel_rfl) ?_) | (refine ADF_eqA (us := [_, _, _, _]) (vs2 := [_, _, _, _]) rfl (by first | exact .inl rfl | exact .inr rfl) rfl rfl rfl rfl (by kernel_rfl) ?_)); (simp only [putL, List.set_cons_succ, List.set_cons_zero])) | (first | refine XTL (by rfl) hR ?_ | refine ATL tyOK (by rfl) hR ?_ | refine XTL (by rfl) h1 ?_ | refine ATL tyOK (by rfl) h1 ?_)) | ((first | (refine XRes_splitG (by rfl) (fun hc => ?_) (fun hc => ?_)) | (refine ADF_splitG (by rfl) (fun hc => ?_) (fun hc => ?_))) <;> (try simp only [eqRes, List.cons_beq_cons, Bool.and_eq_true, Bool.not_eq_true, Bool.and_eq_false_iff, decide_eq_true_eq, decide_eq_false_iff_not, bne_iff_ne, beq_iff_eq, bne_eq_false_iff_eq, beq_eq_false_iff_ne, Bool.not_eq_true', Bool.not_eq_false', ne_eq, Int.not_lt, Int.not_le, Decidable.not_not] at hc) <;> simp only [List.set_cons_succ, List.set_cons_zero]) | (first | ((with_reducible refine AX_if_t ?_ ?_); focus (simp (disch := omega) only [go_sem , flatR_s, flatR_k, flatR_n, flatR_r, hs1, hs2, hs3, hs4]; done)) | ((with_reducible refine AX_if_f ?_ ?_); focus (simp (disch := omega) only [go_sem , flatR_s, flatR_k, flatR_n, flatR_r, hs1, hs2, hs3, hs4]; done)) | (refine AX_cond _ (by rfl) (fun hc => ?_) (fun hc => ?_) <;> (try simp only [eqRes, List.cons_beq_cons, Bool.and_eq_true, Bool.not_eq_true, Bool.and_eq_false_iff, decide_eq_true_eq, decide_eq_false_iff_not, bne_iff_ne, beq_iff_eq, bne_eq_false_iff_eq, beq_eq_false_iff_ne, Bool.not_eq_true', Bool.not_eq_false', ne_eq, Int.not_lt, Int.not_le, Decidable.not_not] at hc)))))
    (simp only [bodyX]; refine ⟨_, by simp only [aresults, aresult, XS.as, Tryd.results27, aload, go_sem, Option.bind_some]; rfl, ?_⟩)
    exact ⟨.iv _, (by rw [decide_eq_false (fun e => hl (by rw [e]))]), trivial⟩
set_option maxRecDepth 100000 in
set_option maxHeartbeats 1000000 in
theorem pf_obSameE (S Kd I : Int) (xs ys : List Rw) (hx : xs.length ≤ 100000) (hy : ys.length ≤ 100000) (hl : xs.length = ys.length) : PF Tryd.prog 25 [obA ⟨S, Kd, I, xs⟩, obA ⟨S, Kd, I, ys⟩] fun r H' => r = lt (.bool (decide (xs = ys))) ∧ H' = [] := by
  refine SF.forgetAll ?_
  unfold obA
  dsimp only
  have hs1 := trivial; have hs2 := trivial; have hs3 := trivial; have hs4 := trivial; have hR := trivial; have h1 := trivial
  (refine SF_of_bodyX (aload tt) (aload_ok tyOK) Tryd.func25 rfl (by kernel_rfl) ?_; simp only [Tryd.ntmps25, List.length_cons, List.length_nil, Nat.reduceAdd, Nat.reduceSub, List.replicate_succ, List.replicate_zero, List.cons_append, List.nil_append])
  (refine Wk.o ?_; (repeat revert hK K); refine W01e3a ?_; (repeat intro K hK); refine ⟨?_⟩)
  refine AX_wh (σ := Nat) [39, 40, 41, 42, 6, 5, 43, 44, 45, 46, 47, 48, 49, 4, 50] (fun k => [(38, lint k)]) (fun _ => [some ⟨25, [lt (.int .i64 S), lt (.int .i64 Kd), lt (.int .i64 I), .iv (iRws xs)]⟩, some ⟨25, [lt (.int .i64 S), lt (.int .i64 Kd), lt (.int .i64 I), .iv (iRws ys)]⟩]) (fun _ => []) (fun k => k ≤ xs.length ∧ ∀ i, i < k → rwFl (rwAt xs i) = rwFl (rwAt ys i)) (fun k => xs.length - k) 0 (fun d => by first | ((simp only [deadS, updS, List.set_cons_succ, List.set_cons_zero, lint, List.length_nil, List.length_cons]); done) | ((simp only [deadS, updS, List.set_cons_succ, List.set_cons_zero, lint, List.length_nil, List.length_cons]); rfl) | rfl) rfl rfl ⟨Nat.zero_le _, fun i h => absurd h (by omega)⟩ ?_
  rintro k d fr hfr ⟨hk, hp⟩
  simp only [updS, deadS, List.set_cons_succ, List.set_cons_zero, lint] at hfr
  subst hfr
  (try dsimp only)
  (repeat' (first | (first | (with_reducible first | refine AX_block ?_ | refine AX_skip ?_ | refine AX_exit ?_ | refine AX_ret ?_ | refine AX_ift ?_ | refine AX_iff ?_ | refine AX_seq_k (fun K hK => ?_) | refine ContX.use (by assumption) ?_) | simp only [thenX, inBlockX, if_true, if_false, reduceCtorEq]) | (first | ((first | (with_reducible refine XRes_op tyOK ?_ ?_) | ((with_reducible first | refine ADF_op tyOK ?_ ?_ ?_ | refine ADX_op tyOK ?_ ?_ ?_); (focus rfl)) | (with_reducible refine ADR_alloc1 tyOK ?_ ?_) | ((with_reducible refine ADR_free1 tyOK ?_ ?_ ?_); (focus rfl)) | ((with_reducible refine ADR_free0 tyOK ?_ ?_ ?_); (focus rfl)) | ((with_reducible refine ADR_read1 tyOK ?_ ?_ ?_); (focus rfl)) | (with_reducible refine ADR_chg1 tyOK ?_ ?_)); (focus (first | (with_reducible rfl) | ((simp (disch := omega) only [go_sem]); done))); simp (disch := omega) only [go_sem , flatR_s, flatR_k, flatR_n, flatR_r, hs1, hs2, hs3, hs4]; (first | (with_reducible refine XRes_id ?_) | (with_reducible refine ADF_id ?_) | (with_reducible refine ADR_id1 ?_) | (with_reducible refine ADX_id ?_))) | ((first | (with_reducible refine XRes_skip ?_ ?_) | (with_reducible refine ADF_skip (b := true) ?_ ?_) | (with_reducible refine ADX_skip ?_ ?_) | ((with_reducible refine ADR_skip1 ?_ ?_ ?_); (focus rfl))); (focus (first | rfl | ((simp (disch := omega) only [go_sem]); done))); (simp only [putL, List.set_cons_succ, List.set_cons_zero]))) | ((first | (with_reducible refine XRes_nil ?_) | (with_reducible refine ADF_nil ?_) | (with_reducible refine ADR_nil ?_) | (with_reducible refine ADX_nil ?_)); (first | refine hK _ ?_ | refine hK _ _ ?_); clear hK K) | ((first | (with_reducible refine AX_reg0 fun K hK => ?_) | (refine AX_drawG1 tyOK (by kernel_rfl) (by rfl) (by kernel_rfl) fun K hK => ?_) | (refine AX_drawT tyOK (by kernel_rfl) (by decide +kernel) fun K hK => ?_) | (refine AX_drawM1 (by kernel_rfl) (by rfl) (by decide +kernel) fun K hK => ?_) | (refine AX_drawA tyOK (by kernel_rfl) (by decide +kernel) fun K hK => ?_)); (first | simp only [go_sem, preN, effOp, runF, alM, mapOp, alD2, kdOf2, Bool.not_false, Bool.not_true, reduceCtorEq] | simp only [go_sem, preN, effOp, runF, alM, mapOp, Bool.not_false, Bool.not_true, reduceCtorEq] | simp only [go_sem, preN, effOp, runF, alD2, kdOf2, Bool.not_false, Bool.not_true, reduceCtorEq] | simp only [go_sem, alD2, kdOf2, Bool.not_false, Bool.not_true, reduceCtorEq] | simp only [go_sem, preN, effOp, runF, Bool.not_false, Bool.not_true, reduceCtorEq] | simp only [go_sem])) | (first | ((first | (refine XRes_eqA (us := [_, _, _, _]) (vs2 := [_, _, _, _]) rfl (by first | exact .inl rfl | exact .inr rfl) rfl rfl rfl rfl (by kernel_rfl) ?_) | (refine ADF_eqA (us := [_, _, _, _]) (vs2 := [_, _, _, _]) rfl (by first | exact .inl rfl | exact .inr rfl) rfl rfl rfl rfl (by kernel_rfl) ?_)); (simp only [putL, List.set_cons_succ, List.set_cons_zero])) | (first | refine XTL (by rfl) hR ?_ | refine ATL tyOK (by rfl) hR ?_ | refine XTL (by rfl) h1 ?_ | refine ATL tyOK (by rfl) h1 ?_)) | ((first | (refine XRes_splitG (by rfl) (fun hc => ?_) (fun hc => ?_)) | (refine ADF_splitG (by rfl) (fun hc => ?_) (fun hc => ?_))) <;> (try simp only [eqRes, List.cons_beq_cons, Bool.and_eq_true, Bool.not_eq_true, Bool.and_eq_false_iff, decide_eq_true_eq, decide_eq_false_iff_not, bne_iff_ne, beq_iff_eq, bne_eq_false_iff_eq, beq_eq_false_iff_ne, Bool.not_eq_true', Bool.not_eq_false', ne_eq, Int.not_lt, Int.not_le, Decidable.not_not] at hc) <;> simp only [List.set_cons_succ, List.set_cons_zero]) | (first | ((with_reducible refine AX_if_t ?_ ?_); focus (simp (disch := omega) only [go_sem , flatR_s, flatR_k, flatR_n, flatR_r, hs1, hs2, hs3, hs4]; done)) | ((with_reducible refine AX_if_f ?_ ?_); focus (simp (disch := omega) only [go_sem , flatR_s, flatR_k, flatR_n, flatR_r, hs1, hs2, hs3, hs4]; done)) | (refine AX_cond _ (by rfl) (fun hc => ?_) (fun hc => ?_) <;> (try simp only [eqRes, List.cons_beq_cons, Bool.and_eq_true, Bool.not_eq_true, Bool.and_eq_false_iff, decide_eq_true_eq, decide_eq_false_iff_not, bne_iff_ne, beq_iff_eq, bne_eq_false_iff_eq, beq_eq_false_iff_ne, Bool.not_eq_true', Bool.not_eq_false', ne_eq, Int.not_lt, Int.not_le, Decidable.not_not] at hc)))))
  · (simp only [bodyX]; refine ⟨_, by simp only [aresults, aresult, XS.as, Tryd.results25, aload, go_sem, Option.bind_some]; rfl, ?_⟩)
    have hne : rwFl (rwAt xs k) ≠ rwFl (rwAt ys k) := fun h => by
      simp only [rwFl, List.cons.injEq] at h
      obtain ⟨h1, h2, h3, h4, _⟩ := h
      simp [h1, h2, h3, h4] at hc
    exact ⟨.iv _, (by rw [decide_eq_false (rws_no hne)]), trivial⟩
  · refine WRN [0, 1] (k + 1) ⟨by omega, fun i hi => ?_⟩ (by (first | omega | (dsimp only; omega) | (simp only; omega)))
    rcases Nat.lt_or_ge i k with h | h
    · exact hp i h
    · rw [show i = k by omega]; simp only [rwFl]; simp [hc]
  · (simp only [bodyX]; refine ⟨_, by simp only [aresults, aresult, XS.as, Tryd.results25, aload, go_sem, Option.bind_some]; rfl, ?_⟩)
    exact ⟨.iv _, (by rw [decide_eq_true (rws_ext hl fun i hi => hp i (by omega))]), trivial⟩
def obSm (a b : Ob) : Bool := decide (a.S = b.S ∧ a.K = b.K ∧ a.I = b.I ∧ a.R = b.R)
set_option maxRecDepth 100000 in
set_option maxHeartbeats 1000000 in
theorem pf_obSame (a b : Ob) (ha : a.R.length ≤ 100000) (hb : b.R.length ≤ 100000) : PF Tryd.prog 25 [obA a, obA b] fun r H' => r = lt (.bool (obSm a b)) ∧ H' = [] := by
  obtain ⟨S, Kd, I, xs⟩ := a
  obtain ⟨T, L, J, ys⟩ := b
  dsimp only at ha hb
  unfold obSm
  dsimp only
  have hs1 := trivial; have hs2 := trivial; have hs3 := trivial; have hs4 := trivial; have hR := trivial; have h1 := trivial
  by_cases h1 : S = T
  · by_cases h2 : Kd = L
    · by_cases h3 : I = J
      · by_cases h4 : xs.length = ys.length
        · subst h1 h2 h3
          have h := pf_obSameE S Kd I xs ys ha hb h4
          simpa using h
        · rw [decide_eq_false (fun h => h4 (by rw [h.2.2.2]))]
          refine SF.forgetAll ?_
          unfold obA
          dsimp only
          (refine SF_of_bodyX (aload tt) (aload_ok tyOK) Tryd.func25 rfl (by kernel_rfl) ?_; simp only [Tryd.ntmps25, List.length_cons, List.length_nil, Nat.reduceAdd, Nat.reduceSub, List.replicate_succ, List.replicate_zero, List.cons_append, List.nil_append])
          (refine Wk.o ?_; (repeat revert hK K); refine W01e3a ?_; (repeat intro K hK); refine ⟨?_⟩)
          (simp only [bodyX]; refine ⟨_, by simp only [aresults, aresult, XS.as, Tryd.results25, aload, go_sem, Option.bind_some]; rfl, ?_⟩)
          exact ⟨.iv _, rfl, trivial⟩
      · rw [decide_eq_false (fun h => h3 h.2.2.1)]
        refine SF.forgetAll ?_
        unfold obA
        dsimp only
        (refine SF_of_bodyX (aload tt) (aload_ok tyOK) Tryd.func25 rfl (by kernel_rfl) ?_; simp only [Tryd.ntmps25, List.length_cons, List.length_nil, Nat.reduceAdd, Nat.reduceSub, List.replicate_succ, List.replicate_zero, List.cons_append, List.nil_append])
        (refine Wk.o ?_; (repeat revert hK K); refine W01e3a ?_; (repeat intro K hK); refine ⟨?_⟩)
        (simp only [bodyX]; refine ⟨_, by simp only [aresults, aresult, XS.as, Tryd.results25, aload, go_sem, Option.bind_some]; rfl, ?_⟩)
        exact ⟨.iv _, rfl, trivial⟩
    · rw [decide_eq_false (fun h => h2 h.2.1)]
      refine SF.forgetAll ?_
      unfold obA
      dsimp only
      (refine SF_of_bodyX (aload tt) (aload_ok tyOK) Tryd.func25 rfl (by kernel_rfl) ?_; simp only [Tryd.ntmps25, List.length_cons, List.length_nil, Nat.reduceAdd, Nat.reduceSub, List.replicate_succ, List.replicate_zero, List.cons_append, List.nil_append])
      (refine Wk.o ?_; (repeat revert hK K); refine W01e3a ?_; (repeat intro K hK); refine ⟨?_⟩)
      (simp only [bodyX]; refine ⟨_, by simp only [aresults, aresult, XS.as, Tryd.results25, aload, go_sem, Option.bind_some]; rfl, ?_⟩)
      exact ⟨.iv _, rfl, trivial⟩
  · rw [decide_eq_false (fun h => h1 h.1)]
    refine SF.forgetAll ?_
    unfold obA
    dsimp only
    (refine SF_of_bodyX (aload tt) (aload_ok tyOK) Tryd.func25 rfl (by kernel_rfl) ?_; simp only [Tryd.ntmps25, List.length_cons, List.length_nil, Nat.reduceAdd, Nat.reduceSub, List.replicate_succ, List.replicate_zero, List.cons_append, List.nil_append])
    (refine Wk.o ?_; (repeat revert hK K); refine W01e3a ?_; (repeat intro K hK); refine ⟨?_⟩)
    (simp only [bodyX]; refine ⟨_, by simp only [aresults, aresult, XS.as, Tryd.results25, aload, go_sem, Option.bind_some]; rfl, ?_⟩)
    exact ⟨.iv _, rfl, trivial⟩
set_option maxRecDepth 100000 in
set_option maxHeartbeats 1000000 in
theorem pf_rObSame (a b : Ob) (ha : a.R.length ≤ 100000) (hb : b.R.length ≤ 100000) : PF Tryd.prog 10 [obA a, obA b] fun r H' => r = lt (.bool (obSm a b)) ∧ H' = [] := by
  refine SF.forgetAll ?_
  have hs1 := trivial; have hs2 := trivial; have hs3 := trivial; have hs4 := trivial; have hR := trivial; have h1 := trivial
  have h1 := pf_sameRows a.R b.R ha hb
  unfold obSm
  by_cases k1 : a.S = b.S
  · by_cases k2 : a.K = b.K
    · by_cases k3 : a.I = b.I
      · rw [show decide (a.S = b.S ∧ a.K = b.K ∧ a.I = b.I ∧ a.R = b.R) = decide (a.R = b.R) by rw [decide_eq_decide]; exact ⟨fun h => h.2.2.2, fun h => ⟨k1, k2, k3, h⟩⟩]
        generalize decide (a.R = b.R) = yes at *
        (refine SF_of_bodyX (aload tt) (aload_ok tyOK) Tryd.func10 rfl (by kernel_rfl) ?_; simp only [Tryd.ntmps10, List.length_cons, List.length_nil, Nat.reduceAdd, Nat.reduceSub, List.replicate_succ, List.replicate_zero, List.cons_append, List.nil_append])
        (refine Wk.o ?_; (repeat revert hK K); refine W01e3a ?_; (repeat intro K hK); refine ⟨?_⟩)
        (simp only [bodyX]; refine ⟨_, by simp only [aresults, aresult, XS.as, Tryd.results10, aload, go_sem, Option.bind_some]; rfl, ?_⟩)
        exact ⟨.iv _, rfl, trivial⟩
      · rw [decide_eq_false (fun h => k3 h.2.2.1)]
        (refine SF_of_bodyX (aload tt) (aload_ok tyOK) Tryd.func10 rfl (by kernel_rfl) ?_; simp only [Tryd.ntmps10, List.length_cons, List.length_nil, Nat.reduceAdd, Nat.reduceSub, List.replicate_succ, List.replicate_zero, List.cons_append, List.nil_append])
        (refine Wk.o ?_; (repeat revert hK K); refine W01e3a ?_; (repeat intro K hK); refine ⟨?_⟩)
        (simp only [bodyX]; refine ⟨_, by simp only [aresults, aresult, XS.as, Tryd.results10, aload, go_sem, Option.bind_some]; rfl, ?_⟩)
        exact ⟨.iv _, rfl, trivial⟩
    · rw [decide_eq_false (fun h => k2 h.2.1)]
      (refine SF_of_bodyX (aload tt) (aload_ok tyOK) Tryd.func10 rfl (by kernel_rfl) ?_; simp only [Tryd.ntmps10, List.length_cons, List.length_nil, Nat.reduceAdd, Nat.reduceSub, List.replicate_succ, List.replicate_zero, List.cons_append, List.nil_append])
      (refine Wk.o ?_; (repeat revert hK K); refine W01e3a ?_; (repeat intro K hK); refine ⟨?_⟩)
      (simp only [bodyX]; refine ⟨_, by simp only [aresults, aresult, XS.as, Tryd.results10, aload, go_sem, Option.bind_some]; rfl, ?_⟩)
      exact ⟨.iv _, rfl, trivial⟩
  · rw [decide_eq_false (fun h => k1 h.1)]
    (refine SF_of_bodyX (aload tt) (aload_ok tyOK) Tryd.func10 rfl (by kernel_rfl) ?_; simp only [Tryd.ntmps10, List.length_cons, List.length_nil, Nat.reduceAdd, Nat.reduceSub, List.replicate_succ, List.replicate_zero, List.cons_append, List.nil_append])
    (refine Wk.o ?_; (repeat revert hK K); refine W01e3a ?_; (repeat intro K hK); refine ⟨?_⟩)
    (simp only [bodyX]; refine ⟨_, by simp only [aresults, aresult, XS.as, Tryd.results10, aload, go_sem, Option.bind_some]; rfl, ?_⟩)
    exact ⟨.iv _, rfl, trivial⟩
set_option maxRecDepth 100000 in
set_option maxHeartbeats 1000000 in
theorem pf_few23 (o : Ob) (hr : o.R.length ≤ 9223372036854775807) : PF Tryd.prog 18 [obA o] fun r H' => r = lt (.bool (decide (o.R.length ≤ 300))) ∧ H' = [] := by
  refine SF.forgetAll ?_
  have hs1 := trivial; have hs2 := trivial; have hs3 := trivial; have hs4 := trivial; have hR := trivial; have h1 := trivial
  by_cases h : o.R.length ≤ 300
  · rw [decide_eq_true h]
    (refine SF_of_bodyX (aload tt) (aload_ok tyOK) Tryd.func18 rfl (by kernel_rfl) ?_; simp only [Tryd.ntmps18, List.length_cons, List.length_nil, Nat.reduceAdd, Nat.reduceSub, List.replicate_succ, List.replicate_zero, List.cons_append, List.nil_append])
    (refine Wk.o ?_; (repeat revert hK K); refine W01e3a ?_; (repeat intro K hK); refine ⟨?_⟩)
    (simp only [bodyX]; refine ⟨_, by simp only [aresults, aresult, XS.as, Tryd.results18, aload, go_sem, Option.bind_some]; rfl, ?_⟩)
    exact ⟨.iv _, rfl, trivial⟩
  · rw [decide_eq_false h]
    (refine SF_of_bodyX (aload tt) (aload_ok tyOK) Tryd.func18 rfl (by kernel_rfl) ?_; simp only [Tryd.ntmps18, List.length_cons, List.length_nil, Nat.reduceAdd, Nat.reduceSub, List.replicate_succ, List.replicate_zero, List.cons_append, List.nil_append])
    (refine Wk.o ?_; (repeat revert hK K); refine W01e3a ?_; (repeat intro K hK); refine ⟨?_⟩)
    (simp only [bodyX]; refine ⟨_, by simp only [aresults, aresult, XS.as, Tryd.results18, aload, go_sem, Option.bind_some]; rfl, ?_⟩)
    exact ⟨.iv _, rfl, trivial⟩
end Go.Proofs.YtpamcgpdmphfhaaDoor
namespace Go.Proofs.YtpamcgpdmphfhaaDoor
open Go.RowKit
set_option linter.unusedVariables false
set_option linter.unusedSimpArgs false
def plainV (P : Program) (t : TypeId) (v : Value) : Bool := P.plainKey t && match P.underlying t, v with
  | some (.int .i64), .int .i64 _ => true
  | some .string, .string _ => true
  | some .bool, .bool _ => true
  | _, _ => false
def eqV : Value → Value → Bool
  | .int .i64 a, .int .i64 b => a == b
  | .string a, .string b => a.toList == b.toList
  | .bool a, .bool b => a == b
  | _, _ => false
def eqL : List Value → List Value → Bool
  | u :: us, v :: vs => eqV u v && eqL us vs
  | _, _ => true
def mixF (P : Program) : Nat → List Field → List Value → List Value → Bool
  | _, [], [], [] => true
  | k, f :: fs, u :: us, v :: vs => f.name != "_" && f.offset == k && plainV P f.type u && plainV P f.type v && mixF P (k + 1) fs us vs
  | _, _, _, _ => false
def eqMix (P : Program) (t : Nat) (us vs : List Value) : Bool := !P.eqGuardType P.depth t && match P.underlying t with
  | some (.struct fs) => mixF P 0 fs.toList us vs && !P.stoodInHeld t
  | _ => false
section
variable {P : Program}
theorem plain_part {t : TypeId} {v : Value} (h : plainV P t v = true) {xs : Array Value} {i : Nat} (hx : xs[i]? = some v) (w : World) : (part t xs i).run P w = .ok v w := by
  unfold plainV at h; rw [Bool.and_eq_true] at h
  exact run_part_plain w h.1 hx
theorem plain_eq {t : TypeId} {u v : Value} (h : plainV P t u = true) (h' : plainV P t v = true) (d : Nat) (w : World) : (Op.equalIn (d + 1) t u v).run P w = .ok (eqV u v) w := by
  unfold plainV at h h'; rw [Bool.and_eq_true] at h h'
  have h1 := h.2
  have h2 := h'.2
  split at h1
  · rename_i hu; rw [hu] at h2
    cases v with
    | int k b => cases k <;> first | exact run_equalIn_int w d t .i64 .i64 _ b hu | (simp at h2)
    | _ => simp at h2
  · rename_i hu; rw [hu] at h2
    cases v with
    | string b => exact run_equalIn_string w d t _ b hu
    | _ => simp at h2
  · rename_i hu; rw [hu] at h2
    cases v with
    | bool b => exact run_equalIn_bool w d t _ b hu
    | _ => simp at h2
  · cases h1
theorem eqFields_mix (d : Nat) (xs ys : Array Value) (w : World) : ∀ (fs : List Field) (k : Nat) (us vs : List Value), mixF P k fs us vs = true → xs.toList.drop k = us → ys.toList.drop k = vs →
    (Op.eqFields (d + 1) xs ys fs).run P w = .ok (eqL us vs) w
  | [], k, [], [], _, _, _ => by simp [Op.eqFields, eqL]
  | [], k, [], v :: vs, h, _, _ => by simp [mixF] at h
  | [], k, u :: us, vs, h, _, _ => by simp [mixF] at h
  | f :: fs, k, [], vs, h, _, _ => by simp [mixF] at h
  | f :: fs, k, u :: us, [], h, _, _ => by simp [mixF] at h
  | f :: fs, k, u :: us, v :: vs, h, hx, hy => by
    unfold mixF at h
    simp only [Bool.and_eq_true, bne_iff_ne, beq_iff_eq] at h
    obtain ⟨⟨⟨⟨n1, n2⟩, n3⟩, n4⟩, n5⟩ := h
    obtain ⟨x1, x2⟩ := drop_cons hx
    obtain ⟨y1, y2⟩ := drop_cons hy
    rw [Array.getElem?_toList] at x1 y1
    have ih := eqFields_mix d xs ys w fs (k + 1) us vs n5 x2 y2
    simp only [Op.eqFields, n1, ne_eq, not_false_eq_true, if_true, Sem.run_bind, n2, plain_part n3 x1, plain_part n4 y1, plain_eq n3 n4, Result.andThen_ok]
    by_cases hab : eqV u v = true
    · simp [hab, eqL, ih]
    · have hab' : eqV u v = false := by simpa using hab
      simp [hab', eqL]
theorem eq_mix {t : Nat} {us vs : List Value} (h : eqMix P t us vs = true) (w : World) : (Op.equalIn 10000 t (.agg us.toArray) (.agg vs.toArray)).run P w = .ok (eqL us vs) w := by
  unfold eqMix at h
  rw [Bool.and_eq_true] at h
  have h := h.2
  split at h
  · rename_i fs hu
    simp only [Bool.and_eq_true, beq_iff_eq, Bool.not_eq_true'] at h
    obtain ⟨f1, f3⟩ := h
    have hf : P.fieldsOf t = fs := by unfold Program.fieldsOf; rw [hu]
    rw [show (10000 : Nat) = 9998 + 1 + 1 from rfl, run_equalIn_struct w _ t _ _ (by rw [hf]; exact hu) f3, hf]
    exact eqFields_mix 9998 _ _ w fs.toList 0 us vs f1 (by simp) (by simp)
  · cases h
theorem mix_guard {t : Nat} {us vs : List Value} (h : eqMix P t us vs = true) (op : BinOp) (x y : Operand) (xs ys : Array Value) (w : World) : (eqGuard op t x y (.agg xs) (.agg ys)).run P w = .ok () w := by
  unfold eqMix at h
  simp only [Bool.and_eq_true, Bool.not_eq_true'] at h
  exact run_eqGuard_agg w op t x y xs ys h.1
theorem eqM_run {t : Nat} {us vs : List Value} (h : eqMix P t us vs = true) {op : BinOp} (hop : op = .eql ∨ op = .neq) {x y : Operand} {d : Option Tmp} {t2 ty : TypeId} {pos : String} {after : Array Edge} {g : Option (Nat × Bool)} {ρ : Operand → Value} (hx : ρ x = .agg us.toArray) (hy : ρ y = .agg vs.toArray) (w : World) :
    (execOp ρ ⟨d, .binOp op t x y t2, ty, pos, after, g⟩).run P w = .ok (.value (.bool (eqRes op (eqL us vs)))) w := by
  rcases hop with rfl | rfl
  · simp [execOp, hx, hy, mix_guard h, run_eql_struct, eq_mix h, Result.andThen, eqRes]
  · simp [execOp, hx, hy, mix_guard h, run_neq_struct, eq_mix h, Result.andThen, eqRes]
variable {m : Nat} {Q : Exit → XS → Prop} {fr : List AV} {H : AHeap} {M : MS} {l : List Oper} {d : Option Tmp} {t2 ty : TypeId} {pos : String} {after : Array Edge} {g : Option (Nat × Bool)}
theorem XRes_eqM {t : Nat} {op : BinOp} {x y : Operand} (us vs : List Value) (hw : wantedS fr ⟨d, .binOp op t x y t2, ty, pos, after, g⟩ = some true) (hop : op = .eql ∨ op = .neq) (hx : AS.ev ⟨fr, H⟩ x = .agg (us.map lt)) (hy : AS.ev ⟨fr, H⟩ y = .agg (vs.map lt)) (h : eqMix P t us vs = true)
    (k : XRes P m Q (l, ⟨putL fr d (lt (.bool (eqRes op (eqL us vs)))), H, M⟩)) : XRes P m Q (⟨d, .binOp op t x y t2, ty, pos, after, g⟩ :: l, ⟨fr, H, M⟩) :=
  XRes_gives hw (fun G a w hr => ⟨G, _, w, .inl (eqM_run h hop (ra_lits (hx ▸ hr.ev x)) (ra_lits (hy ▸ hr.ev y)) w), Gh.le.refl _ _, Nat.le_refl _, hr.inv, .iv _ _ (.lit _)⟩) k
theorem ADF_eqM {H0 : AHeap} {K : List AV → AHeap → Prop} {t : Nat} {op : BinOp} {x y : Operand} (us vs : List Value) (hw : wantedS fr ⟨d, .binOp op t x y t2, ty, pos, after, g⟩ = some true) (hop : op = .eql ∨ op = .neq) (hx : AS.ev ⟨fr, H0⟩ x = .agg (us.map lt)) (hy : AS.ev ⟨fr, H0⟩ y = .agg (vs.map lt)) (h : eqMix P t us vs = true)
    (k : ADF P H0 K (l, putL fr d (lt (.bool (eqRes op (eqL us vs)))))) : ADF P H0 K (⟨d, .binOp op t x y t2, ty, pos, after, g⟩ :: l, fr) := fun N hn =>
  ⟨_, H0, none, .free _ (wanted_iff hn hw) fun H => (by
    intro Q' G a w K' hi hl hk
    have ex : AS.ev ⟨fr, H⟩ x = AS.ev ⟨fr, H0⟩ x := by cases x <;> rfl
    have ey : AS.ev ⟨fr, H⟩ y = AS.ev ⟨fr, H0⟩ y := by cases y <;> rfl
    have rx := hl.ev (H := H) (x := x) (by simp [Op.operands])
    have ry := hl.ev (H := H) (x := y) (by simp [Op.operands])
    rw [ex, hx] at rx
    rw [ey, hy] at ry
    unfold Oper.wp
    rw [eqM_run h hop (ra_lits rx) (ra_lits ry) w]
    exact hk G _ w (Gh.le.refl _ _) (Nat.le_refl _) hi (.iv _ _ (.lit _))), k N (by show (putL _ _ _).length ≤ N; rw [putL_len]; exact hn)⟩
end
end Go.Proofs.YtpamcgpdmphfhaaDoor
namespace Go.Proofs.YtpamcgpdmphfhaaDoor
open Go.RowKit Go.Lib
set_option linter.unusedVariables false
set_option linter.unusedSimpArgs false
theorem eqL_self (a b : Int) (s : ByteArray) : eqRes .neq (eqL [.int .i64 a, .int .i64 b, .string s] [.int .i64 a, .int .i64 b, .string s]) = false := by simp [eqRes, eqL, eqV]
theorem Wa5a4a {A B : Prop} (h9 : B) (w : B → A := by (intro h9; (repeat intro K hK); refine ⟨?_⟩; (repeat (first | (first | (with_reducible first | refine AX_block ?_ | refine AX_skip ?_ | refine AX_exit ?_ | refine AX_ret ?_ | refine AX_ift ?_ | refine AX_iff ?_ | refine AX_seq_k (fun K hK => ?_) | refine ContX.use (by assumption) ?_) | simp only [thenX, inBlockX, if_true, if_false, reduceCtorEq]) | (first | ((with_reducible first | refine XOP tyOK ?_ | refine AOP tyOK ?_); simp (disch := omega) only [go_sem , hs1, hs2, hs3, hs4, hs5, hs6, hs7, hs8, eqL_self, bne_self_eq_false, Int.toNat_natCast]; (with_reducible first | refine XRes_id ?_ | refine ADF_id ?_)) | (with_reducible first | refine XSK ?_ | refine ASK ?_)) | ((first | (with_reducible refine XRes_nil ?_) | (with_reducible refine ADF_nil ?_)); (first | refine hK _ ?_ | refine hK _ _ ?_); clear hK K) | ((first | (with_reducible refine AX_reg0 fun K hK => ?_) | (refine AX_drawG1 tyOK (by kernel_rfl) (by rfl) (by kernel_rfl) fun K hK => ?_)); simp only [go_sem]) | ((first | (refine XRes_eqM [_, _, _] [_, _, _] rfl (by first | exact .inl rfl | exact .inr rfl) rfl rfl (by kernel_rfl) ?_) | (refine ADF_eqM [_, _, _] [_, _, _] rfl (by first | exact .inl rfl | exact .inr rfl) rfl rfl (by kernel_rfl) ?_)); (simp only [putL, List.set_cons_succ, List.set_cons_zero]); rw [eqL_self]))); refine Wk.o ?_; (repeat revert hK K); exact h9)) : A := w h9
set_option maxRecDepth 100000 in
set_option maxHeartbeats 4000000 in
theorem pf_rSame5 (rs : List (Nat × Nat × List (Nat × List UInt8))) (hR : rs.length ≤ 1000000) (hT : ∀ r ∈ rs, r.2.2.length ≤ 1000000) : PF Tryd.prog 16 [.iv (iLn rs), .iv (iLn rs)] fun r H' => r = lt (.bool true) ∧ H' = [] := by
  refine SF.forgetAll ?_
  have hs1 := trivial; have hs2 := trivial; have hs3 := trivial; have hs4 := trivial; have hs5 := trivial; have hs6 := trivial; have hs7 := trivial; have hs8 := trivial
  unfold iLn
  (refine SF_of_bodyX (aload tt) (aload_ok tyOK) Tryd.func16 rfl (by kernel_rfl) ?_; simp only [Tryd.ntmps16, List.length_cons, List.length_nil, Nat.reduceAdd, Nat.reduceSub, List.replicate_succ, List.replicate_zero, List.cons_append, List.nil_append])
  (refine Wk.o ?_; (repeat revert hK K); refine Wa5a4a ?_; (repeat intro K hK); refine ⟨?_⟩)
  (refine AWH (σ := Nat) [12, 13, 14, 15, 18, 19, 20, 21, 22, 23, 24, 25, 26, 27, 28, 4, 6, 29, 30, 31, 32, 33, 34, 35, 38, 39, 40, 41, 42, 43, 44, 45, 46, 47, 48, 49, 50, 51, 52, 36, 37, 16, 17] (fun k => [(5, lint k)]) (fun k => []) (fun k => []) (fun k => k ≤ rs.length) (fun k => rs.length - k) 0 (by first | exact Nat.zero_le _) ?_; rintro k d fr hfr hk; simp only [updS, deadS, List.set_cons_succ, List.set_cons_zero, lint] at hfr; subst hfr; (try dsimp only))
  by_cases hlt : k < rs.length
  · rcases hr : rs.getD k (0, 0, []) with ⟨a, c, ts⟩
    have hs1 : rowIV (rs.getD k (0, 0, [])) = .sl (fun j => .lit ((tkL a c ts).getD j undef)) ts.length 3 := by rw [hr]; rfl
    have hs2 : decide ((k : Int) < (rs.length : Int)) = true := decide_eq_true (by omega)
    have hTl : ts.length ≤ 1000000 := by
      have := hT (rs.getD k (0, 0, [])) (by rw [List.getD_eq_getElem?_getD, List.getElem?_eq_getElem hlt]; exact List.getElem_mem hlt)
      rw [hr] at this; exact this
    have hI2 : k + 1 ≤ rs.length := by omega
    (refine Wk.o ?_; (repeat revert hK K); refine Wa5a4a ?_; (repeat intro K hK); refine ⟨?_⟩)
    (refine AWH (σ := Nat) [29, 30, 31, 32, 33, 34, 35, 38, 39, 40, 41, 42, 43, 44, 45, 46, 47, 48, 49, 50, 51, 52, 4, 36, 37] (fun j => [(6, lint j)]) (fun j => []) (fun j => []) (fun j => j ≤ ts.length) (fun j => ts.length - j) 0 (by first | exact Nat.zero_le _) ?_; rintro j d fr hfr hj; simp only [updS, deadS, List.set_cons_succ, List.set_cons_zero, lint] at hfr; subst hfr; (try dsimp only))
    by_cases hj2 : j < ts.length
    · obtain ⟨e1, e2, e3⟩ := tkL_at (a := a) (b := c) hj2
      have hs3 : decide ((j : Int) < (ts.length : Int)) = true := decide_eq_true (by omega)
      generalize (ts.getD j (0, [])).2 = tx at *
      generalize (ts.getD j (0, [])).1 = ta at *
      have hs5 := e1
      have hs6 := e2
      have hs7 := e3
      have hI3 : j + 1 ≤ ts.length := by omega
      (refine Wk.o ?_; (repeat revert hK K); refine Wa5a4a ?_; (repeat intro K hK); refine ⟨?_⟩)
      exact WEND (j + 1) hI3 (by (first | omega | (dsimp only; omega) | (simp only; omega)))
    · have hs3 : decide ((j : Int) < (ts.length : Int)) = false := decide_eq_false (by omega)
      (refine Wk.o ?_; (repeat revert hK K); refine Wa5a4a ?_; (repeat intro K hK); refine ⟨?_⟩)
      exact WEND (k + 1) hI2 (by (first | omega | (dsimp only; omega) | (simp only; omega)))
  · have hs1 : decide ((k : Int) < (rs.length : Int)) = false := decide_eq_false (by omega)
    (refine Wk.o ?_; (repeat revert hK K); refine Wa5a4a ?_; (repeat intro K hK); refine ⟨?_⟩)
    (simp only [bodyX]; refine ⟨_, by simp only [aresults, aresult, XS.as, Tryd.results16, aload, go_sem, Option.bind_some]; rfl, ?_⟩)
    exact ⟨ids_idB rfl, rfl, trivial⟩
end Go.Proofs.YtpamcgpdmphfhaaDoor
