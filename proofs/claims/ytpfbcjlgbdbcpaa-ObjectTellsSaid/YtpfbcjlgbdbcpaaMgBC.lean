import Derived.Test.YtpfbcjlgbdbcpaaMgBB
import Derived.Test.YtpfbcjlgbdbcpaaMgAU
import Derived.Test.YtpfbcjlgbdbcpaaMgAX
import Derived.Test.YtpfbcjlgbdbcpaaMgAQ
namespace Go.Proofs.Ytpfbcjlgbdbcpaa
open Go.RowKit
set_option linter.unusedVariables false
theorem ra_arr2 (G : Gh) (x y : Int) : RA 0 G (.agg [lt (.int .i64 x), lt (.int .i64 y)]) (.agg #[.int .i64 x, .int .i64 y]) := .agg [lt (.int .i64 x), lt (.int .i64 y)] [.int .i64 x, .int .i64 y] rfl (RL.two (.iv _ _ (.lit _)) (.iv _ _ (.lit _))).2 rfl
end Go.Proofs.Ytpfbcjlgbdbcpaa
namespace Go.Proofs.Ytpfbcjlgbdbcpaa
open Go.RowKit
set_option linter.unusedVariables false
set_option linter.unusedSimpArgs false
set_option maxRecDepth 100000 in
set_option maxHeartbeats 4000000 in
theorem pf_rObCheck (o : Ob) (hr : o.R.length ≤ 100000) (ho : o.Ok) : PF Try.prog 9 [obA o] fun r H' => r = .tup [lt (.int .i64 (obAt o)), lt (.int .i64 (obE o))] ∧ H' = [] := by
  refine SF.forgetAll ?_
  have b1 := ho.S; have b2 := ho.K; have b3 := ho.I
  by_cases hh : obHead o
  · have hh1 := hh
    unfold obHead at hh1
    (refine SF_of_bodyX (aload tt) (aload_ok tyOK) Try.func9 rfl (by kernel_rfl) ?_; simp only [Try.ntmps9, List.length_cons, List.length_nil, Nat.reduceAdd, Nat.reduceSub, List.replicate_succ, List.replicate_zero, List.cons_append, List.nil_append])
    (repeat (first | (first | (with_reducible first | refine AX_block ?_ | refine AX_skip ?_ | refine AX_exit ?_ | refine AX_ret ?_ | refine AX_ift ?_ | refine AX_iff ?_ | refine AX_seq_k (fun K hK => ?_) | refine ContX.use (by assumption) ?_) | simp only [thenX, inBlockX, if_true, if_false, reduceCtorEq]) | (first | ((with_reducible first | refine XOP tyOK ?_ | refine AOP tyOK ?_); simp (disch := omega) only [go_sem , flatR_s, flatR_k, flatR_n, flatR_r]; (with_reducible first | refine XRes_id ?_ | refine ADF_id ?_)) | (with_reducible first | refine XSK ?_ | refine ASK ?_)) | ((first | (with_reducible refine XRes_nil ?_) | (with_reducible refine ADF_nil ?_)); (first | refine hK _ ?_ | refine hK _ _ ?_); clear hK K) | ((first | (with_reducible refine AX_reg0 fun K hK => ?_) | (refine AX_drawG1 tyOK (by kernel_rfl) (by rfl) (by kernel_rfl) fun K hK => ?_)); simp only [go_sem]) | fail))
    (refine AWH (σ := Nat) [36, 37, 38, 39, 40, 43, 44, 45, 46, 47, 5, 48, 49, 50, 51, 52, 53, 54, 55, 56, 57, 58, 59, 60, 61, 62, 63, 64, 65, 66, 67, 68, 69, 70, 2, 3, 71, 72, 73, 74, 75, 76, 77, 78, 79, 80, 81, 82, 83, 84, 85, 86, 87, 88, 89, 90, 91, 92, 93, 94, 95, 96, 97, 98, 99, 100, 101, 102, 103, 104, 105, 106, 107, 108, 109, 110, 111, 112, 113, 114, 115, 116, 117, 118, 119, 120, 121, 122, 123, 124, 125, 126, 127, 128, 129, 41, 42] (fun i => [(4, lint i)]) (fun i => [some ⟨24, [lt (.int .i64 o.S), lt (.int .i64 o.K), lt (.int .i64 o.I), .iv (iRws o.R)]⟩]) (fun i => []) (fun i => i ≤ o.R.length ∧ ∀ j, j < i → obErr o j = 0) (fun i => o.R.length - i) 0 (by first | exact ⟨Nat.zero_le _, fun j h => absurd h (by omega)⟩) ?_; rintro i d fr hfr ⟨hi, hp⟩; simp only [updS, deadS, List.set_cons_succ, List.set_cons_zero, lint] at hfr; subst hfr; (try dsimp only))
    by_cases hlt : i < o.R.length
    · have hti : ((i : Int) - 1).toNat = i - 1 := by omega
      (repeat' (first | (first | (with_reducible first | refine AX_block ?_ | refine AX_skip ?_ | refine AX_exit ?_ | refine AX_ret ?_ | refine AX_ift ?_ | refine AX_iff ?_ | refine AX_seq_k (fun K hK => ?_) | refine ContX.use (by assumption) ?_) | simp only [thenX, inBlockX, if_true, if_false, reduceCtorEq]) | (first | ((with_reducible first | refine XOP tyOK ?_ | refine AOP tyOK ?_); simp (disch := omega) only [go_sem , flatR_s, flatR_k, flatR_n, flatR_r]; (with_reducible first | refine XRes_id ?_ | refine ADF_id ?_)) | (with_reducible first | refine XSK ?_ | refine ASK ?_)) | ((first | (with_reducible refine XRes_nil ?_) | (with_reducible refine ADF_nil ?_)); (first | refine hK _ ?_ | refine hK _ _ ?_); clear hK K) | ((first | (with_reducible refine AX_reg0 fun K hK => ?_) | (refine AX_drawG1 tyOK (by kernel_rfl) (by rfl) (by kernel_rfl) fun K hK => ?_)); simp only [go_sem]) | fail | ((first | (refine XRes_splitG (by rfl) (fun hc => ?_) (fun hc => ?_)) | (refine ADF_splitG (by rfl) (fun hc => ?_) (fun hc => ?_))) <;> (try simp only [eqRes, List.cons_beq_cons, Bool.and_eq_true, Bool.not_eq_true, Bool.and_eq_false_iff, decide_eq_true_eq, decide_eq_false_iff_not, bne_iff_ne, beq_iff_eq, bne_eq_false_iff_eq, beq_eq_false_iff_ne, Bool.not_eq_true', Bool.not_eq_false', ne_eq, Int.not_lt, Int.not_le, Decidable.not_not] at hc) <;> simp only [List.set_cons_succ, List.set_cons_zero]) | (first | ((with_reducible refine AX_if_t ?_ ?_); focus (simp (disch := omega) only [go_sem , flatR_s, flatR_k, flatR_n, flatR_r]; done)) | ((with_reducible refine AX_if_f ?_ ?_); focus (simp (disch := omega) only [go_sem , flatR_s, flatR_k, flatR_n, flatR_r]; done)) | (refine AX_cond _ (by rfl) (fun hc => ?_) (fun hc => ?_) <;> (try simp only [eqRes, List.cons_beq_cons, Bool.and_eq_true, Bool.not_eq_true, Bool.and_eq_false_iff, decide_eq_true_eq, decide_eq_false_iff_not, bne_iff_ne, beq_iff_eq, bne_eq_false_iff_eq, beq_eq_false_iff_ne, Bool.not_eq_true', Bool.not_eq_false', ne_eq, Int.not_lt, Int.not_le, Decidable.not_not] at hc)))))
      all_goals first
        | ((simp only [bodyX]; refine ⟨_, by simp only [aresults, aresult, XS.as, Try.results9, aload, go_sem, Option.bind_some]; rfl, ?_⟩); (obtain ⟨e1, e2⟩ := obAt_of hh hp hlt (by ((try simp only [hti, rises] at *); unfold obErr; (try simp only [rises]); (repeat' split) <;> first | rfl | omega)); rw [e1, e2]; refine ⟨ids_idB rfl, congrArg (fun z : Int => AV.tup [lt (.int .i64 (i : Int)), lt (.int .i64 z)]) (?_ : _ = obErr o i), trivial⟩; ((try simp only [hti, rises] at *); unfold obErr; (try simp only [rises]); (repeat' split) <;> first | rfl | omega)))
        | (refine WRN [0] (i + 1) ⟨by omega, fun j h => ?_⟩ (by (first | omega | (dsimp only; omega) | (simp only; omega)))
           rcases Nat.lt_or_ge j i with h1 | h1
           · exact hp j h1
           · rw [show j = i by omega]; ((try simp only [hti, rises] at *); unfold obErr; (try simp only [rises]); (repeat' split) <;> first | rfl | omega))
    · have hii : i = o.R.length := by omega
      subst hii
      (repeat' (first | (first | (with_reducible first | refine AX_block ?_ | refine AX_skip ?_ | refine AX_exit ?_ | refine AX_ret ?_ | refine AX_ift ?_ | refine AX_iff ?_ | refine AX_seq_k (fun K hK => ?_) | refine ContX.use (by assumption) ?_) | simp only [thenX, inBlockX, if_true, if_false, reduceCtorEq]) | (first | ((with_reducible first | refine XOP tyOK ?_ | refine AOP tyOK ?_); simp (disch := omega) only [go_sem , flatR_s, flatR_k, flatR_n, flatR_r]; (with_reducible first | refine XRes_id ?_ | refine ADF_id ?_)) | (with_reducible first | refine XSK ?_ | refine ASK ?_)) | ((first | (with_reducible refine XRes_nil ?_) | (with_reducible refine ADF_nil ?_)); (first | refine hK _ ?_ | refine hK _ _ ?_); clear hK K) | ((first | (with_reducible refine AX_reg0 fun K hK => ?_) | (refine AX_drawG1 tyOK (by kernel_rfl) (by rfl) (by kernel_rfl) fun K hK => ?_)); simp only [go_sem]) | fail | ((first | (refine XRes_splitG (by rfl) (fun hc => ?_) (fun hc => ?_)) | (refine ADF_splitG (by rfl) (fun hc => ?_) (fun hc => ?_))) <;> (try simp only [eqRes, List.cons_beq_cons, Bool.and_eq_true, Bool.not_eq_true, Bool.and_eq_false_iff, decide_eq_true_eq, decide_eq_false_iff_not, bne_iff_ne, beq_iff_eq, bne_eq_false_iff_eq, beq_eq_false_iff_ne, Bool.not_eq_true', Bool.not_eq_false', ne_eq, Int.not_lt, Int.not_le, Decidable.not_not] at hc) <;> simp only [List.set_cons_succ, List.set_cons_zero]) | (first | ((with_reducible refine AX_if_t ?_ ?_); focus (simp (disch := omega) only [go_sem , flatR_s, flatR_k, flatR_n, flatR_r]; done)) | ((with_reducible refine AX_if_f ?_ ?_); focus (simp (disch := omega) only [go_sem , flatR_s, flatR_k, flatR_n, flatR_r]; done)) | (refine AX_cond _ (by rfl) (fun hc => ?_) (fun hc => ?_) <;> (try simp only [eqRes, List.cons_beq_cons, Bool.and_eq_true, Bool.not_eq_true, Bool.and_eq_false_iff, decide_eq_true_eq, decide_eq_false_iff_not, bne_iff_ne, beq_iff_eq, bne_eq_false_iff_eq, beq_eq_false_iff_ne, Bool.not_eq_true', Bool.not_eq_false', ne_eq, Int.not_lt, Int.not_le, Decidable.not_not] at hc)))))
      (simp only [bodyX]; refine ⟨_, by simp only [aresults, aresult, XS.as, Try.results9, aload, go_sem, Option.bind_some]; rfl, ?_⟩)
      obtain ⟨e1, e2⟩ := obAt_end hh hp
      rw [e1, e2]
      exact ⟨ids_idB rfl, rfl, trivial⟩
  · have hh1 := hh
    unfold obHead at hh1
    obtain ⟨e1, e2⟩ := obAt_head hh
    (refine SF_of_bodyX (aload tt) (aload_ok tyOK) Try.func9 rfl (by kernel_rfl) ?_; simp only [Try.ntmps9, List.length_cons, List.length_nil, Nat.reduceAdd, Nat.reduceSub, List.replicate_succ, List.replicate_zero, List.cons_append, List.nil_append])
    (repeat' (first | (first | (with_reducible first | refine AX_block ?_ | refine AX_skip ?_ | refine AX_exit ?_ | refine AX_ret ?_ | refine AX_ift ?_ | refine AX_iff ?_ | refine AX_seq_k (fun K hK => ?_) | refine ContX.use (by assumption) ?_) | simp only [thenX, inBlockX, if_true, if_false, reduceCtorEq]) | (first | ((with_reducible first | refine XOP tyOK ?_ | refine AOP tyOK ?_); simp (disch := omega) only [go_sem , flatR_s, flatR_k, flatR_n, flatR_r]; (with_reducible first | refine XRes_id ?_ | refine ADF_id ?_)) | (with_reducible first | refine XSK ?_ | refine ASK ?_)) | ((first | (with_reducible refine XRes_nil ?_) | (with_reducible refine ADF_nil ?_)); (first | refine hK _ ?_ | refine hK _ _ ?_); clear hK K) | ((first | (with_reducible refine AX_reg0 fun K hK => ?_) | (refine AX_drawG1 tyOK (by kernel_rfl) (by rfl) (by kernel_rfl) fun K hK => ?_)); simp only [go_sem]) | fail | ((first | (refine XRes_splitG (by rfl) (fun hc => ?_) (fun hc => ?_)) | (refine ADF_splitG (by rfl) (fun hc => ?_) (fun hc => ?_))) <;> (try simp only [eqRes, List.cons_beq_cons, Bool.and_eq_true, Bool.not_eq_true, Bool.and_eq_false_iff, decide_eq_true_eq, decide_eq_false_iff_not, bne_iff_ne, beq_iff_eq, bne_eq_false_iff_eq, beq_eq_false_iff_ne, Bool.not_eq_true', Bool.not_eq_false', ne_eq, Int.not_lt, Int.not_le, Decidable.not_not] at hc) <;> simp only [List.set_cons_succ, List.set_cons_zero]) | (first | ((with_reducible refine AX_if_t ?_ ?_); focus (simp (disch := omega) only [go_sem , flatR_s, flatR_k, flatR_n, flatR_r]; done)) | ((with_reducible refine AX_if_f ?_ ?_); focus (simp (disch := omega) only [go_sem , flatR_s, flatR_k, flatR_n, flatR_r]; done)) | (refine AX_cond _ (by rfl) (fun hc => ?_) (fun hc => ?_) <;> (try simp only [eqRes, List.cons_beq_cons, Bool.and_eq_true, Bool.not_eq_true, Bool.and_eq_false_iff, decide_eq_true_eq, decide_eq_false_iff_not, bne_iff_ne, beq_iff_eq, bne_eq_false_iff_eq, beq_eq_false_iff_ne, Bool.not_eq_true', Bool.not_eq_false', ne_eq, Int.not_lt, Int.not_le, Decidable.not_not] at hc)))))
    all_goals (first | (exfalso; omega) | ((simp only [bodyX]; refine ⟨_, by simp only [aresults, aresult, XS.as, Try.results9, aload, go_sem, Option.bind_some]; rfl, ?_⟩); rw [e1, e2]; exact ⟨ids_idB rfl, rfl, trivial⟩))
end Go.Proofs.Ytpfbcjlgbdbcpaa
namespace Go.Proofs.Ytpfbcjlgbdbcpaa
open Go.RowKit
set_option linter.unusedVariables false
set_option linter.unusedSimpArgs false
theorem Wc0dfa {A B : Prop} (h9 : B) (w : B → A := by (intro h9; (repeat intro K hK); refine ⟨?_⟩; (repeat (first | (first | (with_reducible first | refine AX_block ?_ | refine AX_skip ?_ | refine AX_exit ?_ | refine AX_ret ?_ | refine AX_ift ?_ | refine AX_iff ?_ | refine AX_seq_k (fun K hK => ?_) | refine ContX.use (by assumption) ?_) | simp only [thenX, inBlockX, if_true, if_false, reduceCtorEq]) | (first | ((first | (with_reducible refine XRes_op tyOK ?_ ?_) | ((with_reducible first | refine ADF_op tyOK ?_ ?_ ?_ | refine ADX_op tyOK ?_ ?_ ?_); (focus rfl)) | (with_reducible refine ADR_alloc1 tyOK ?_ ?_) | ((with_reducible refine ADR_free1 tyOK ?_ ?_ ?_); (focus rfl)) | ((with_reducible refine ADR_free0 tyOK ?_ ?_ ?_); (focus rfl)) | ((with_reducible refine ADR_read1 tyOK ?_ ?_ ?_); (focus rfl)) | (with_reducible refine ADR_chg1 tyOK ?_ ?_)); (focus (first | (with_reducible rfl) | ((simp (disch := omega) only [go_sem]); done))); simp (disch := omega) only [go_sem , flatR_s, flatR_k, flatR_n, flatR_r, hs1, hs2, hs3, hs4, hs5, hs6, rep_lb, List.length_set, List.length_nil, Nat.reduceLeDiff, Int.toNat_zero]; (first | (with_reducible refine XRes_id ?_) | (with_reducible refine ADF_id ?_) | (with_reducible refine ADR_id1 ?_) | (with_reducible refine ADX_id ?_))) | ((first | (with_reducible refine XRes_skip ?_ ?_) | (with_reducible refine ADF_skip (b := true) ?_ ?_) | (with_reducible refine ADX_skip ?_ ?_) | ((with_reducible refine ADR_skip1 ?_ ?_ ?_); (focus rfl))); (focus (first | rfl | ((simp (disch := omega) only [go_sem]); done))); (simp only [putL, List.set_cons_succ, List.set_cons_zero]))) | ((first | (with_reducible refine XRes_nil ?_) | (with_reducible refine ADF_nil ?_) | (with_reducible refine ADR_nil ?_) | (with_reducible refine ADX_nil ?_)); (first | refine hK _ ?_ | refine hK _ _ ?_); clear hK K) | ((first | (with_reducible refine AX_reg0 fun K hK => ?_) | (refine AX_drawG1 tyOK (by kernel_rfl) (by rfl) (by kernel_rfl) fun K hK => ?_) | (refine AX_drawT tyOK (by kernel_rfl) (by decide +kernel) fun K hK => ?_) | (refine AX_drawM1 (by kernel_rfl) (by rfl) (by decide +kernel) fun K hK => ?_) | (refine AX_drawA tyOK (by kernel_rfl) (by decide +kernel) fun K hK => ?_)); (first | simp only [go_sem, preN, effOp, runF, alM, mapOp, alD2, kdOf2, Bool.not_false, Bool.not_true, reduceCtorEq] | simp only [go_sem, preN, effOp, runF, alM, mapOp, Bool.not_false, Bool.not_true, reduceCtorEq] | simp only [go_sem, preN, effOp, runF, alD2, kdOf2, Bool.not_false, Bool.not_true, reduceCtorEq] | simp only [go_sem, alD2, kdOf2, Bool.not_false, Bool.not_true, reduceCtorEq] | simp only [go_sem, preN, effOp, runF, Bool.not_false, Bool.not_true, reduceCtorEq] | simp only [go_sem])) | (first | (first | refine XTL (by rfl) hC ?_ | refine ATL tyOK (by rfl) hC ?_)))); refine Wk.o ?_; (repeat revert hK K); exact h9)) : A := w h9
set_option maxRecDepth 100000 in
set_option maxHeartbeats 4000000 in
theorem pf_rReach (o : Ob) (hr : o.R.length ≤ 100000) (ho : o.Ok) : PF Try.prog 14 [obA o] fun r H' => r = .iv (iInts (reL o)) ∧ H' = [] := by
  refine SF.frozen ?_
  have hs1 := trivial; have hs2 := trivial; have hs3 := trivial; have hs4 := trivial; have hs5 := trivial; have hs6 := trivial; have hC := trivial
  have hC := pf_rObCheck o hr ho
  by_cases h0 : obE o = 0
  · obtain ⟨hh, herr⟩ := obE_zero.1 h0
    unfold obHead at hh
    obtain ⟨n, hn⟩ : ∃ n : Nat, o.S = n := ⟨o.S.toNat, by omega⟩
    have hnS : o.S.toNat = n := by omega
    have hn32 : n ≤ 32 := by omega
    obtain ⟨q, hq⟩ : ∃ q : Nat, o.I = q := ⟨o.I.toNat, by omega⟩
    have hqn : q < n := by omega
    rw [h0] at hC
    unfold obA at hC
    rw [hn, hq] at hC
    have hs1 : o.S = (n : Int) := hn
    have hs2 : o.I = (q : Int) := hq
    have hqI : o.I.toNat = q := by omega
    (refine SF_of_bodyX (aload tt) (aload_ok tyOK) Try.func14 rfl (by kernel_rfl) ?_; simp only [Try.ntmps14, List.length_cons, List.length_nil, Nat.reduceAdd, Nat.reduceSub, List.replicate_succ, List.replicate_zero, List.cons_append, List.nil_append])
    (refine Wk.o ?_; (repeat revert hK K); refine Wc0dfa ?_; (repeat intro K hK); refine ⟨?_⟩)
    have i1 : ((List.replicate 32 false).set q true).length = 32 := by simp
    have i2 : ((List.replicate 32 false).set q true).getD q false = true := getD_setT.2 (.inl ⟨rfl, by simp; omega⟩)
    have i3 : ∀ s, s < ((List.replicate 32 false).set q true).length → ((List.replicate 32 false).set q true).getD s false = true → obRe o (s : Int) := fun s _ hs => by
      rcases getD_setT.1 hs with h | h
      · rw [h.1, ← hq]; exact .init
      · rw [List.getD_eq_getElem?_getD, List.getElem?_replicate] at h
        split at h <;> simp at h
    have i4 : rndO o ((List.replicate 32 false).set q true) n 0 := .inr (by have := cF_lt i2 n hqn; omega)
    refine AX_wh (σ := Nat × List Bool) [20, 21, 7, 24, 25, 26, 27, 28, 31, 32, 33, 34, 35, 36, 37, 38, 39, 40, 41, 42, 43, 44, 45, 29, 30, 22, 23] (fun (a, _) => [(6, lint a)]) (fun (_, D) => [some ⟨24, [lt (.int .i64 n), lt (.int .i64 o.K), lt (.int .i64 q), .iv (iRws o.R)]⟩, some ⟨53, D.map lb⟩]) (fun _ => []) (fun (a, D) => a ≤ 32 ∧ D.length = 32 ∧ D.getD q false = true ∧ (∀ s, s < D.length → D.getD s false = true → obRe o (s : Int)) ∧ rndO o D n a) (fun (a, _) => 32 - a) (0, (List.replicate 32 false).set q true) (fun d => by first | ((simp only [deadS, updS, List.set_cons_succ, List.set_cons_zero, lint, List.length_nil, List.length_cons]); done) | ((simp only [deadS, updS, List.set_cons_succ, List.set_cons_zero, lint, List.length_nil, List.length_cons]); rfl) | rfl) (by dsimp only; rw [List.map_set]; rfl) rfl ⟨Nat.zero_le _, i1, i2, i3, i4⟩ ?_
    clear i1 i2 i3 i4
    rintro ⟨a, D⟩ d fr hfr ⟨i0, i1, i2, i3, i4⟩
    simp only [updS, deadS, List.set_cons_succ, List.set_cons_zero, lint] at hfr
    subst hfr
    (try dsimp only)
    by_cases hlt : a < 32
    · (refine Wk.o ?_; (repeat revert hK K); refine Wc0dfa ?_; (repeat intro K hK); refine ⟨?_⟩)
      refine AX_wh (σ := Nat × List Bool) [24, 25, 26, 27, 28, 31, 32, 33, 34, 35, 36, 37, 38, 39, 40, 41, 42, 43, 44, 45, 29, 30] (fun (j, _) => [(7, lint j)]) (fun (_, E) => [some ⟨24, [lt (.int .i64 n), lt (.int .i64 o.K), lt (.int .i64 q), .iv (iRws o.R)]⟩, some ⟨53, E.map lb⟩]) (fun _ => []) (fun (j, E) => j ≤ o.R.length ∧ E.length = 32 ∧ E.getD q false = true ∧ (∀ s, s < E.length → E.getD s false = true → obRe o (s : Int)) ∧ rndI o D E n j) (fun (j, _) => o.R.length - j) (0, D) (fun d => by first | ((simp only [deadS, updS, List.set_cons_succ, List.set_cons_zero, lint, List.length_nil, List.length_cons]); done) | ((simp only [deadS, updS, List.set_cons_succ, List.set_cons_zero, lint, List.length_nil, List.length_cons]); rfl) | rfl) rfl rfl ⟨Nat.zero_le _, i1, i2, i3, .inl ⟨rfl, fun j h => by omega⟩⟩ ?_
      rintro ⟨j, E⟩ d2 fr hfr ⟨k0, k1, k2, k3, k4⟩
      simp only [updS, deadS, List.set_cons_succ, List.set_cons_zero, lint] at hfr
      subst hfr
      (try dsimp only)
      by_cases hlt2 : j < o.R.length
      · obtain ⟨e1, e2, _⟩ := obErr_zero (herr j hlt2)
        by_cases c1 : E.getD (rwAt o.R j).s.toNat false = true
        · have hsr : obRe o (rwAt o.R j).s := by
            have := k3 _ (by omega) c1
            rwa [Int.toNat_of_nonneg (by omega)] at this
          have j3 : ∀ s, s < (E.set (rwAt o.R j).n.toNat true).length → (E.set (rwAt o.R j).n.toNat true).getD s false = true → obRe o (s : Int) := fun s hs h => by
            rcases getD_setT.1 h with ⟨h1, _⟩ | h1
            · have := obRe.step j hlt2 hsr
              rw [h1, Int.toNat_of_nonneg (by omega)]; exact this
            · exact k3 s (by simpa using hs) h1
          have j4 : rndI o D (E.set (rwAt o.R j).n.toNat true) n (j + 1) := by
            by_cases c2 : E.getD (rwAt o.R j).n.toNat false = true
            · rw [setT_same c2]; exact rnd_skip k4 fun h => by rw [c2] at h; cases h.2
            · exact rnd_set k4 hlt2 (by omega) (by omega) c1 (by simpa using c2)
          have hs4 := c1
          (refine Wk.o ?_; (repeat revert hK K); refine Wc0dfa ?_; (repeat intro K hK); refine ⟨?_⟩)
          exact WRN [0, 1] (j + 1, E.set (rwAt o.R j).n.toNat true) ⟨by (first | omega | (dsimp only; omega) | (simp only; omega)), by simp [k1], getD_setT.2 (.inr k2), j3, j4⟩ (by (first | omega | (dsimp only; omega) | (simp only; omega)))
        · have hs4 : E.getD (rwAt o.R j).s.toNat false = false := by simpa using c1
          have j4 : rndI o D E n (j + 1) := rnd_skip k4 fun h => c1 h.1
          (refine Wk.o ?_; (repeat revert hK K); refine Wc0dfa ?_; (repeat intro K hK); refine ⟨?_⟩)
          exact WRN [0, 1] (j + 1, E) ⟨by (first | omega | (dsimp only; omega) | (simp only; omega)), k1, k2, k3, j4⟩ (by (first | omega | (dsimp only; omega) | (simp only; omega)))
      · obtain rfl : j = o.R.length := by omega
        have j4 := rnd_end i4 k4
        (refine Wk.o ?_; (repeat revert hK K); refine Wc0dfa ?_; (repeat intro K hK); refine ⟨?_⟩)
        exact WEND (a + 1, E) ⟨by omega, k1, k2, k3, j4⟩ (by (first | omega | (dsimp only; omega) | (simp only; omega)))
    · obtain rfl : a = 32 := by omega
      have hcl : clsd o D := by
        rcases i4 with h | h
        · exact h
        · exact absurd h (by omega)
      have hre : nbL D n = reL o := rnd_reL h0 hnS (by omega) (by rw [hqI]; exact i2) i3 hcl
      (refine Wk.o ?_; (repeat revert hK K); refine Wc0dfa ?_; (repeat intro K hK); refine ⟨?_⟩)
      refine AX_nil 8 3 1 rfl ?_
      simp only [List.set_cons_succ, List.set_cons_zero, List.length_cons, List.length_nil, List.cons_append, List.nil_append, Nat.zero_add, Nat.reduceAdd]
      refine AX_wh (σ := Nat × List Int) [46, 47, 48, 49, 52, 53, 54, 55, 56, 57, 58, 50, 51] (fun (s, O) => [(9, lint s), (8, .osl 2 0 O.length 1)]) (fun (_, O) => [some ⟨24, [lt (.int .i64 n), lt (.int .i64 o.K), lt (.int .i64 q), .iv (iRws o.R)]⟩, some ⟨53, D.map lb⟩, some ⟨3, O.map lint⟩]) (fun _ => []) (fun (s, O) => s ≤ n ∧ O = nbL D s) (fun (s, _) => n - s) (0, []) (fun d => by first | ((simp only [deadS, updS, List.set_cons_succ, List.set_cons_zero, lint, List.length_nil, List.length_cons]); done) | ((simp only [deadS, updS, List.set_cons_succ, List.set_cons_zero, lint, List.length_nil, List.length_cons]); rfl) | rfl) rfl rfl ⟨Nat.zero_le _, rfl⟩ ?_
      rintro ⟨s, O⟩ d2 fr hfr ⟨k0, k1⟩
      simp only [updS, deadS, List.set_cons_succ, List.set_cons_zero, lint] at hfr
      subst hfr
      (try dsimp only)
      have hOl : O.length ≤ s := by rw [k1]; exact nbL_len _ _
      by_cases hlt2 : s < n
      · by_cases c1 : D.getD s false = true
        · have hs4 := c1
          (refine Wk.o ?_; (repeat revert hK K); refine Wc0dfa ?_; (repeat intro K hK); refine ⟨?_⟩)
          exact WRN [0, 1, 4] (s + 1, O ++ [(s : Int)]) ⟨by omega, by rw [k1]; show _ = if _ then _ else _; rw [if_pos c1]⟩ (by (first | omega | (dsimp only; omega) | (simp only; omega)))
        · have hs4 : D.getD s false = false := by simpa using c1
          (refine Wk.o ?_; (repeat revert hK K); refine Wc0dfa ?_; (repeat intro K hK); refine ⟨?_⟩)
          exact WRN [0, 1, 2] (s + 1, O) ⟨by omega, by rw [k1]; show _ = if _ then _ else _; rw [if_neg c1]⟩ (by (first | omega | (dsimp only; omega) | (simp only; omega)))
      · obtain rfl : s = n := by omega
        (refine Wk.o ?_; (repeat revert hK K); refine Wc0dfa ?_; (repeat intro K hK); refine ⟨?_⟩)
        (simp only [bodyX]; refine ⟨_, by simp only [aresults, aresult, XS.as, Try.results14, aload, go_sem, Option.bind_some]; rfl, ?_⟩)
        exact ⟨_, snap_ints rfl rfl, by rw [← hre, k1], trivial⟩
  · have hres : reL o = [] := by unfold reL; rw [if_neg h0]
    generalize obE o = e at *
    (refine SF_of_bodyX (aload tt) (aload_ok tyOK) Try.func14 rfl (by kernel_rfl) ?_; simp only [Try.ntmps14, List.length_cons, List.length_nil, Nat.reduceAdd, Nat.reduceSub, List.replicate_succ, List.replicate_zero, List.cons_append, List.nil_append])
    (refine Wk.o ?_; (repeat revert hK K); refine Wc0dfa ?_; (repeat intro K hK); refine ⟨?_⟩)
    (simp only [bodyX]; refine ⟨_, by simp only [aresults, aresult, XS.as, Try.results14, aload, go_sem, Option.bind_some]; rfl, ?_⟩)
    exact ⟨_, snap_nil, by rw [hres], trivial⟩
end Go.Proofs.Ytpfbcjlgbdbcpaa
