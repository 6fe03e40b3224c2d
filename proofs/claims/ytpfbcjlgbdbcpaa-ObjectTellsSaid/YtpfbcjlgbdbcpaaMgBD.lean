import Derived.Test.YtpfbcjlgbdbcpaaMgBC
import Derived.Test.YtpfbcjlgbdbcpaaMgAZ
import Derived.Test.YtpfbcjlgbdbcpaaMgBA
import Derived.Test.YtpfbcjlgbdbcpaaMgAQ
import Derived.Test.YtpfbcjlgbdbcpaaMgAV
import Derived.Test.YtpfbcjlgbdbcpaaMgAW
namespace Go.Proofs.Ytpfbcjlgbdbcpaa
open Go.RowKit
set_option linter.unusedVariables false
set_option linter.unusedSimpArgs false
theorem lex_dec (a b : Rw) : decide (lexR a b) = if a.s = b.s then (if a.k = b.k then (if a.n = b.n then decide (a.r < b.r) else decide (a.n < b.n)) else decide (a.k < b.k)) else decide (a.s < b.s) := by
  rw [Bool.eq_iff_iff, decide_eq_true_iff]
  unfold lexR
  repeat' split
  all_goals rw [decide_eq_true_iff]; omega
theorem W2e86a {A B : Prop} (h9 : B) (w : B → A := by (intro h9; (repeat intro K hK); refine ⟨?_⟩; (repeat (first | (first | (with_reducible first | refine AX_block ?_ | refine AX_skip ?_ | refine AX_exit ?_ | refine AX_ret ?_ | refine AX_ift ?_ | refine AX_iff ?_ | refine AX_seq_k (fun K hK => ?_) | refine ContX.use (by assumption) ?_) | simp only [thenX, inBlockX, if_true, if_false, reduceCtorEq]) | (first | ((first | (with_reducible refine XRes_op tyOK ?_ ?_) | ((with_reducible first | refine ADF_op tyOK ?_ ?_ ?_ | refine ADX_op tyOK ?_ ?_ ?_); (focus rfl)) | (with_reducible refine ADR_alloc1 tyOK ?_ ?_) | ((with_reducible refine ADR_free1 tyOK ?_ ?_ ?_); (focus rfl)) | ((with_reducible refine ADR_free0 tyOK ?_ ?_ ?_); (focus rfl)) | ((with_reducible refine ADR_read1 tyOK ?_ ?_ ?_); (focus rfl)) | (with_reducible refine ADR_chg1 tyOK ?_ ?_)); (focus (first | (with_reducible rfl) | ((simp (disch := omega) only [go_sem]); done))); simp (disch := omega) only [go_sem , flatR_s, flatR_k, flatR_n, flatR_r, hs1, hs2, hs3, hs4, List.length_nil, Nat.reduceLeDiff, Int.toNat_zero]; (first | (with_reducible refine XRes_id ?_) | (with_reducible refine ADF_id ?_) | (with_reducible refine ADR_id1 ?_) | (with_reducible refine ADX_id ?_))) | ((first | (with_reducible refine XRes_skip ?_ ?_) | (with_reducible refine ADF_skip (b := true) ?_ ?_) | (with_reducible refine ADX_skip ?_ ?_) | ((with_reducible refine ADR_skip1 ?_ ?_ ?_); (focus rfl))); (focus (first | rfl | ((simp (disch := omega) only [go_sem]); done))); (simp only [putL, List.set_cons_succ, List.set_cons_zero]))) | ((first | (with_reducible refine XRes_nil ?_) | (with_reducible refine ADF_nil ?_) | (with_reducible refine ADR_nil ?_) | (with_reducible refine ADX_nil ?_)); (first | refine hK _ ?_ | refine hK _ _ ?_); clear hK K) | ((first | (with_reducible refine AX_reg0 fun K hK => ?_) | (refine AX_drawG1 tyOK (by kernel_rfl) (by rfl) (by kernel_rfl) fun K hK => ?_) | (refine AX_drawT tyOK (by kernel_rfl) (by decide +kernel) fun K hK => ?_) | (refine AX_drawM1 (by kernel_rfl) (by rfl) (by decide +kernel) fun K hK => ?_) | (refine AX_drawA tyOK (by kernel_rfl) (by decide +kernel) fun K hK => ?_)); (first | simp only [go_sem, preN, effOp, runF, alM, mapOp, alD2, kdOf2, Bool.not_false, Bool.not_true, reduceCtorEq] | simp only [go_sem, preN, effOp, runF, alM, mapOp, Bool.not_false, Bool.not_true, reduceCtorEq] | simp only [go_sem, preN, effOp, runF, alD2, kdOf2, Bool.not_false, Bool.not_true, reduceCtorEq] | simp only [go_sem, alD2, kdOf2, Bool.not_false, Bool.not_true, reduceCtorEq] | simp only [go_sem, preN, effOp, runF, Bool.not_false, Bool.not_true, reduceCtorEq] | simp only [go_sem])) | (first | (first | refine XTL (by rfl) hC ?_ | refine ATL tyOK (by rfl) hC ?_ | refine XTL (by rfl) h1 ?_ | refine ATL tyOK (by rfl) h1 ?_)))); refine Wk.o ?_; (repeat revert hK K); exact h9)) : A := w h9
set_option maxRecDepth 100000 in
set_option maxHeartbeats 1000000 in
theorem pf_less (a b : Rw) : PF Try.prog 37 [rwA a, rwA b] fun r H' => r = lt (.bool (decide (lexR a b))) ∧ H' = [] := by
  refine SF.forgetAll ?_
  have hs1 := trivial; have hs2 := trivial; have hs3 := trivial; have hs4 := trivial; have hC := trivial; have h1 := trivial
  rw [lex_dec]
  by_cases k1 : a.s = b.s
  · rw [if_pos k1]
    by_cases k2 : a.k = b.k
    · rw [if_pos k2]
      by_cases k3 : a.n = b.n
      · rw [if_pos k3]
        (refine SF_of_bodyX (aload tt) (aload_ok tyOK) Try.func37 rfl (by kernel_rfl) ?_; simp only [Try.ntmps37, List.length_cons, List.length_nil, Nat.reduceAdd, Nat.reduceSub, List.replicate_succ, List.replicate_zero, List.cons_append, List.nil_append])
        (refine Wk.o ?_; (repeat revert hK K); refine W2e86a ?_; (repeat intro K hK); refine ⟨?_⟩)
        (simp only [bodyX]; refine ⟨_, by simp only [aresults, aresult, XS.as, Try.results37, aload, go_sem, Option.bind_some]; rfl, ?_⟩)
        exact ⟨.iv _, rfl, trivial⟩
      · rw [if_neg k3]
        (refine SF_of_bodyX (aload tt) (aload_ok tyOK) Try.func37 rfl (by kernel_rfl) ?_; simp only [Try.ntmps37, List.length_cons, List.length_nil, Nat.reduceAdd, Nat.reduceSub, List.replicate_succ, List.replicate_zero, List.cons_append, List.nil_append])
        (refine Wk.o ?_; (repeat revert hK K); refine W2e86a ?_; (repeat intro K hK); refine ⟨?_⟩)
        (simp only [bodyX]; refine ⟨_, by simp only [aresults, aresult, XS.as, Try.results37, aload, go_sem, Option.bind_some]; rfl, ?_⟩)
        exact ⟨.iv _, rfl, trivial⟩
    · rw [if_neg k2]
      (refine SF_of_bodyX (aload tt) (aload_ok tyOK) Try.func37 rfl (by kernel_rfl) ?_; simp only [Try.ntmps37, List.length_cons, List.length_nil, Nat.reduceAdd, Nat.reduceSub, List.replicate_succ, List.replicate_zero, List.cons_append, List.nil_append])
      (refine Wk.o ?_; (repeat revert hK K); refine W2e86a ?_; (repeat intro K hK); refine ⟨?_⟩)
      (simp only [bodyX]; refine ⟨_, by simp only [aresults, aresult, XS.as, Try.results37, aload, go_sem, Option.bind_some]; rfl, ?_⟩)
      exact ⟨.iv _, rfl, trivial⟩
  · rw [if_neg k1]
    (refine SF_of_bodyX (aload tt) (aload_ok tyOK) Try.func37 rfl (by kernel_rfl) ?_; simp only [Try.ntmps37, List.length_cons, List.length_nil, Nat.reduceAdd, Nat.reduceSub, List.replicate_succ, List.replicate_zero, List.cons_append, List.nil_append])
    (refine Wk.o ?_; (repeat revert hK K); refine W2e86a ?_; (repeat intro K hK); refine ⟨?_⟩)
    (simp only [bodyX]; refine ⟨_, by simp only [aresults, aresult, XS.as, Try.results37, aload, go_sem, Option.bind_some]; rfl, ?_⟩)
    exact ⟨.iv _, rfl, trivial⟩
set_option maxRecDepth 100000 in
set_option maxHeartbeats 1000000 in
theorem pf_rObSame (a b : Ob) (ha : a.R.length ≤ 100000) (hb : b.R.length ≤ 100000) : PF Try.prog 18 [obA a, obA b] fun r H' => r = lt (.bool (obSm a b)) ∧ H' = [] := by
  refine SF.forgetAll ?_
  have hs1 := trivial; have hs2 := trivial; have hs3 := trivial; have hs4 := trivial; have hC := trivial; have h1 := trivial
  have h1 := pf_sameRows a.R b.R ha hb
  unfold obSm
  by_cases k1 : a.S = b.S
  · by_cases k2 : a.K = b.K
    · by_cases k3 : a.I = b.I
      · rw [show decide (a.S = b.S ∧ a.K = b.K ∧ a.I = b.I ∧ a.R = b.R) = decide (a.R = b.R) by rw [decide_eq_decide]; exact ⟨fun h => h.2.2.2, fun h => ⟨k1, k2, k3, h⟩⟩]
        generalize decide (a.R = b.R) = yes at *
        (refine SF_of_bodyX (aload tt) (aload_ok tyOK) Try.func18 rfl (by kernel_rfl) ?_; simp only [Try.ntmps18, List.length_cons, List.length_nil, Nat.reduceAdd, Nat.reduceSub, List.replicate_succ, List.replicate_zero, List.cons_append, List.nil_append])
        (refine Wk.o ?_; (repeat revert hK K); refine W2e86a ?_; (repeat intro K hK); refine ⟨?_⟩)
        (simp only [bodyX]; refine ⟨_, by simp only [aresults, aresult, XS.as, Try.results18, aload, go_sem, Option.bind_some]; rfl, ?_⟩)
        exact ⟨.iv _, rfl, trivial⟩
      · rw [decide_eq_false (fun h => k3 h.2.2.1)]
        (refine SF_of_bodyX (aload tt) (aload_ok tyOK) Try.func18 rfl (by kernel_rfl) ?_; simp only [Try.ntmps18, List.length_cons, List.length_nil, Nat.reduceAdd, Nat.reduceSub, List.replicate_succ, List.replicate_zero, List.cons_append, List.nil_append])
        (refine Wk.o ?_; (repeat revert hK K); refine W2e86a ?_; (repeat intro K hK); refine ⟨?_⟩)
        (simp only [bodyX]; refine ⟨_, by simp only [aresults, aresult, XS.as, Try.results18, aload, go_sem, Option.bind_some]; rfl, ?_⟩)
        exact ⟨.iv _, rfl, trivial⟩
    · rw [decide_eq_false (fun h => k2 h.2.1)]
      (refine SF_of_bodyX (aload tt) (aload_ok tyOK) Try.func18 rfl (by kernel_rfl) ?_; simp only [Try.ntmps18, List.length_cons, List.length_nil, Nat.reduceAdd, Nat.reduceSub, List.replicate_succ, List.replicate_zero, List.cons_append, List.nil_append])
      (refine Wk.o ?_; (repeat revert hK K); refine W2e86a ?_; (repeat intro K hK); refine ⟨?_⟩)
      (simp only [bodyX]; refine ⟨_, by simp only [aresults, aresult, XS.as, Try.results18, aload, go_sem, Option.bind_some]; rfl, ?_⟩)
      exact ⟨.iv _, rfl, trivial⟩
  · rw [decide_eq_false (fun h => k1 h.1)]
    (refine SF_of_bodyX (aload tt) (aload_ok tyOK) Try.func18 rfl (by kernel_rfl) ?_; simp only [Try.ntmps18, List.length_cons, List.length_nil, Nat.reduceAdd, Nat.reduceSub, List.replicate_succ, List.replicate_zero, List.cons_append, List.nil_append])
    (refine Wk.o ?_; (repeat revert hK K); refine W2e86a ?_; (repeat intro K hK); refine ⟨?_⟩)
    (simp only [bodyX]; refine ⟨_, by simp only [aresults, aresult, XS.as, Try.results18, aload, go_sem, Option.bind_some]; rfl, ?_⟩)
    exact ⟨.iv _, rfl, trivial⟩
end Go.Proofs.Ytpfbcjlgbdbcpaa
namespace Go.Proofs.Ytpfbcjlgbdbcpaa
open Go.RowKit
set_option linter.unusedVariables false
set_option linter.unusedSimpArgs false
def mvd (xs : List Rw) (L : List Int) (k : Int) : Nat → Bool
  | 0 => false
  | i + 1 => mvd xs L k i || decide ((rwAt xs i).k = k ∧ (rwAt xs i).s ∈ L)
theorem mvd_true {xs : List Rw} {L : List Int} {k : Int} : ∀ {i : Nat}, mvd xs L k i = true ↔ ∃ j, j < i ∧ (rwAt xs j).k = k ∧ (rwAt xs j).s ∈ L
  | 0 => ⟨(fun h => by cases h), fun ⟨j, h, _⟩ => by omega⟩
  | i + 1 => by
    unfold mvd
    rw [Bool.or_eq_true, mvd_true (i := i), decide_eq_true_iff]
    constructor
    · rintro (⟨j, h1, h2⟩ | h)
      · exact ⟨j, by omega, h2⟩
      · exact ⟨i, by omega, h⟩
    · rintro ⟨j, h1, h2⟩
      rcases Nat.lt_or_ge j i with h3 | h3
      · exact .inl ⟨j, h3, h2⟩
      · rw [show j = i by omega] at h2; exact .inr h2
theorem mvd_all (o : Ob) (L : List Int) (k : Int) : mvd o.R L k o.R.length = !decide (obDd o L k) := by
  rw [Bool.eq_iff_iff, mvd_true, Bool.not_eq_true', decide_eq_false_iff_not]
  unfold obDd
  constructor
  · rintro ⟨j, h1, h2⟩ h; exact h j h1 h2
  · intro h
    exact Classical.byContradiction fun hh => h fun i hi hp => hh ⟨i, hi, hp⟩
theorem W4801a {A B : Prop} (h9 : B) (w : B → A := by (intro h9; (repeat intro K hK); refine ⟨?_⟩; (repeat (first | (first | (with_reducible first | refine AX_block ?_ | refine AX_skip ?_ | refine AX_exit ?_ | refine AX_ret ?_ | refine AX_ift ?_ | refine AX_iff ?_ | refine AX_seq_k (fun K hK => ?_) | refine ContX.use (by assumption) ?_) | simp only [thenX, inBlockX, if_true, if_false, reduceCtorEq]) | (first | ((first | (with_reducible refine XRes_op tyOK ?_ ?_) | ((with_reducible first | refine ADF_op tyOK ?_ ?_ ?_ | refine ADX_op tyOK ?_ ?_ ?_); (focus rfl)) | (with_reducible refine ADR_alloc1 tyOK ?_ ?_) | ((with_reducible refine ADR_free1 tyOK ?_ ?_ ?_); (focus rfl)) | ((with_reducible refine ADR_free0 tyOK ?_ ?_ ?_); (focus rfl)) | ((with_reducible refine ADR_read1 tyOK ?_ ?_ ?_); (focus rfl)) | (with_reducible refine ADR_chg1 tyOK ?_ ?_)); (focus (first | (with_reducible rfl) | ((simp (disch := omega) only [go_sem]); done))); simp (disch := omega) only [go_sem , flatR_s, flatR_k, flatR_n, flatR_r, hs1, hs2, hs3, hs4, List.length_nil, Nat.reduceLeDiff, Int.toNat_zero]; (first | (with_reducible refine XRes_id ?_) | (with_reducible refine ADF_id ?_) | (with_reducible refine ADR_id1 ?_) | (with_reducible refine ADX_id ?_))) | ((first | (with_reducible refine XRes_skip ?_ ?_) | (with_reducible refine ADF_skip (b := true) ?_ ?_) | (with_reducible refine ADX_skip ?_ ?_) | ((with_reducible refine ADR_skip1 ?_ ?_ ?_); (focus rfl))); (focus (first | rfl | ((simp (disch := omega) only [go_sem]); done))); (simp only [putL, List.set_cons_succ, List.set_cons_zero]))) | ((first | (with_reducible refine XRes_nil ?_) | (with_reducible refine ADF_nil ?_) | (with_reducible refine ADR_nil ?_) | (with_reducible refine ADX_nil ?_)); (first | refine hK _ ?_ | refine hK _ _ ?_); clear hK K) | ((first | (with_reducible refine AX_reg0 fun K hK => ?_) | (refine AX_drawG1 tyOK (by kernel_rfl) (by rfl) (by kernel_rfl) fun K hK => ?_) | (refine AX_drawT tyOK (by kernel_rfl) (by decide +kernel) fun K hK => ?_) | (refine AX_drawM1 (by kernel_rfl) (by rfl) (by decide +kernel) fun K hK => ?_) | (refine AX_drawA tyOK (by kernel_rfl) (by decide +kernel) fun K hK => ?_)); (first | simp only [go_sem, preN, effOp, runF, alM, mapOp, alD2, kdOf2, Bool.not_false, Bool.not_true, reduceCtorEq] | simp only [go_sem, preN, effOp, runF, alM, mapOp, Bool.not_false, Bool.not_true, reduceCtorEq] | simp only [go_sem, preN, effOp, runF, alD2, kdOf2, Bool.not_false, Bool.not_true, reduceCtorEq] | simp only [go_sem, alD2, kdOf2, Bool.not_false, Bool.not_true, reduceCtorEq] | simp only [go_sem, preN, effOp, runF, Bool.not_false, Bool.not_true, reduceCtorEq] | simp only [go_sem])) | (first | (first | refine XTL (by rfl) hC ?_ | refine ATL tyOK (by rfl) hC ?_ | refine XTL (by rfl) h1 ?_ | refine ATL tyOK (by rfl) h1 ?_)))); refine Wk.o ?_; (repeat revert hK K); exact h9)) : A := w h9
set_option maxRecDepth 100000 in
set_option maxHeartbeats 8000000 in
theorem pf_rDead (o : Ob) (hr : o.R.length ≤ 100000) (ho : o.Ok) : PF Try.prog 16 [obA o] fun r H' => r = .iv (iInts (deL o)) ∧ H' = [] := by
  refine SF.frozen ?_
  have hs1 := trivial; have hs2 := trivial; have hs3 := trivial; have hs4 := trivial; have hC := trivial; have h1 := trivial
  have hC := pf_rReach o hr ho
  by_cases h0 : obE o = 0
  · obtain ⟨hh, herr⟩ := obE_zero.1 h0
    unfold obHead at hh
    obtain ⟨n, hn⟩ : ∃ n : Nat, o.K = n := ⟨o.K.toNat, by omega⟩
    have hnK : o.K.toNat = n := by omega
    have hn64 : n ≤ 64 := by omega
    have hres : deL o = nbL (deD o (reL o)) n := by unfold deL; rw [if_pos h0, hnK]
    have hpos := reL_ne h0
    have hda := fun k (h : k < n) => deD_at o (reL o) (k := k) (by omega)
    have hLl : (reL o).length ≤ 32 := reL_len h0
    have hH := fun v => pf_has (reL o) v (by omega)
    have hmv := mvd_all o (reL o)
    have hs1 : o.K = (n : Int) := hn
    unfold iInts obA at hC
    unfold iInts at hH
    rw [hn] at hC
    generalize reL o = L at *
    generalize deD o L = DD at *
    (refine SF_of_bodyX (aload tt) (aload_ok tyOK) Try.func16 rfl (by kernel_rfl) ?_; simp only [Try.ntmps16, List.length_cons, List.length_nil, Nat.reduceAdd, Nat.reduceSub, List.replicate_succ, List.replicate_zero, List.cons_append, List.nil_append])
    (refine Wk.o ?_; (repeat revert hK K); refine W4801a ?_; (repeat intro K hK); refine ⟨?_⟩)
    refine AX_nil 4 3 1 rfl ?_
    simp only [List.set_cons_succ, List.set_cons_zero, List.length_cons, List.length_nil, List.cons_append, List.nil_append, Nat.zero_add, Nat.reduceAdd]
    refine AX_wh (σ := Nat × List Int) [10, 11, 12, 13, 14, 15, 16, 17, 18, 6, 7, 21, 22, 23, 24, 25, 28, 29, 30, 31, 32, 33, 34, 35, 36, 37, 38, 39, 40, 41, 42, 43, 44, 45, 46, 47, 48, 26, 27, 49, 50, 51, 52, 53, 54, 19, 20] (fun (k, O) => [(5, lint k), (4, .osl 1 0 O.length 1)]) (fun (_, O) => [some ⟨24, [lt (.int .i64 o.S), lt (.int .i64 n), lt (.int .i64 o.I), .iv (iRws o.R)]⟩, some ⟨3, O.map lint⟩]) (fun _ => []) (fun (k, O) => k ≤ n ∧ O = nbL DD k) (fun (k, _) => n - k) (0, []) (fun d => by first | ((simp only [deadS, updS, List.set_cons_succ, List.set_cons_zero, lint, List.length_nil, List.length_cons]); done) | ((simp only [deadS, updS, List.set_cons_succ, List.set_cons_zero, lint, List.length_nil, List.length_cons]); rfl) | rfl) rfl rfl ⟨Nat.zero_le _, rfl⟩ ?_
    rintro ⟨k, O⟩ d fr hfr ⟨k0, k1⟩
    simp only [updS, deadS, List.set_cons_succ, List.set_cons_zero, lint] at hfr
    subst hfr
    (try dsimp only)
    have hOl : O.length ≤ k := by rw [k1]; exact nbL_len _ _
    by_cases hlt : k < n
    · have hdk := hda k hlt
      have hmk := hmv k
      (refine Wk.o ?_; (repeat revert hK K); refine W4801a ?_; (repeat intro K hK); refine ⟨?_⟩)
      refine AX_wh (σ := Nat × Bool) [21, 22, 23, 24, 25, 28, 29, 30, 31, 32, 33, 34, 35, 36, 37, 38, 39, 40, 41, 42, 43, 44, 45, 46, 47, 48, 26, 27] (fun (i, b) => [(7, lint i), (6, lt (.bool b))]) (fun _ => [some ⟨24, [lt (.int .i64 o.S), lt (.int .i64 n), lt (.int .i64 o.I), .iv (iRws o.R)]⟩, some ⟨3, O.map lint⟩]) (fun _ => []) (fun (i, b) => i ≤ o.R.length ∧ b = mvd o.R L k i) (fun (i, _) => o.R.length - i) (0, false) (fun d => by first | ((simp only [deadS, updS, List.set_cons_succ, List.set_cons_zero, lint, List.length_nil, List.length_cons]); done) | ((simp only [deadS, updS, List.set_cons_succ, List.set_cons_zero, lint, List.length_nil, List.length_cons]); rfl) | rfl) rfl rfl ⟨Nat.zero_le _, rfl⟩ ?_
      rintro ⟨i, b⟩ d2 fr hfr ⟨i0, i1⟩
      simp only [updS, deadS, List.set_cons_succ, List.set_cons_zero, lint] at hfr
      subst hfr
      (try dsimp only)
      by_cases hlt2 : i < o.R.length
      · have hm : mvd o.R L k (i + 1) = (b || decide ((rwAt o.R i).k = (k : Int) ∧ (rwAt o.R i).s ∈ L)) := by rw [i1]; rfl
        have h1 := hH (rwAt o.R i).s
        cases b with
        | true =>
          (refine Wk.o ?_; (repeat revert hK K); refine W4801a ?_; (repeat intro K hK); refine ⟨?_⟩)
          exact WEND (i + 1, true) ⟨by omega, by rw [hm]; rfl⟩ (by (first | omega | (dsimp only; omega) | (simp only; omega)))
        | false =>
          by_cases c1 : (rwAt o.R i).k = (k : Int)
          · by_cases c2 : (rwAt o.R i).s ∈ L
            · have hv : mvd o.R L k (i + 1) = true := by rw [hm, decide_eq_true ⟨c1, c2⟩]; rfl
              rw [decide_eq_true c2] at h1
              (refine Wk.o ?_; (repeat revert hK K); refine W4801a ?_; (repeat intro K hK); refine ⟨?_⟩)
              exact WEND (i + 1, true) ⟨by omega, hv.symm⟩ (by (first | omega | (dsimp only; omega) | (simp only; omega)))
            · have hv : mvd o.R L k (i + 1) = false := by rw [hm, decide_eq_false (fun h => c2 h.2)]; rfl
              rw [decide_eq_false c2] at h1
              (refine Wk.o ?_; (repeat revert hK K); refine W4801a ?_; (repeat intro K hK); refine ⟨?_⟩)
              exact WEND (i + 1, false) ⟨by omega, hv.symm⟩ (by (first | omega | (dsimp only; omega) | (simp only; omega)))
          · have hv : mvd o.R L k (i + 1) = false := by rw [hm, decide_eq_false (fun h => c1 h.1)]; rfl
            (refine Wk.o ?_; (repeat revert hK K); refine W4801a ?_; (repeat intro K hK); refine ⟨?_⟩)
            exact WEND (i + 1, false) ⟨by omega, hv.symm⟩ (by (first | omega | (dsimp only; omega) | (simp only; omega)))
      · obtain rfl : i = o.R.length := by omega
        rw [hmk] at i1
        by_cases c1 : obDd o L k
        · rw [decide_eq_true c1] at i1 hdk
          have hb : b = false := i1
          subst hb
          (refine Wk.o ?_; (repeat revert hK K); refine W4801a ?_; (repeat intro K hK); refine ⟨?_⟩)
          exact WRN [0, 3] (k + 1, O ++ [(k : Int)]) ⟨by omega, by rw [k1]; show _ = if _ then _ else _; rw [if_pos hdk]⟩ (by (first | omega | (dsimp only; omega) | (simp only; omega)))
        · rw [decide_eq_false c1] at i1 hdk
          have hb : b = true := i1
          subst hb
          (refine Wk.o ?_; (repeat revert hK K); refine W4801a ?_; (repeat intro K hK); refine ⟨?_⟩)
          exact WEND (k + 1, O) ⟨by omega, by rw [k1]; show _ = if _ then _ else _; rw [if_neg (by rw [hdk]; decide)]⟩ (by (first | omega | (dsimp only; omega) | (simp only; omega)))
    · obtain rfl : k = n := by omega
      (refine Wk.o ?_; (repeat revert hK K); refine W4801a ?_; (repeat intro K hK); refine ⟨?_⟩)
      (simp only [bodyX]; refine ⟨_, by simp only [aresults, aresult, XS.as, Try.results16, aload, go_sem, Option.bind_some]; rfl, ?_⟩)
      exact ⟨_, snap_ints rfl rfl, by rw [hres, k1], trivial⟩
  · have hres : deL o = [] := by unfold deL; rw [if_neg h0]
    have hre : reL o = [] := by unfold reL; rw [if_neg h0]
    rw [hre] at hC
    unfold iInts at hC
    by_cases hk : 0 < o.K
    · (refine SF_of_bodyX (aload tt) (aload_ok tyOK) Try.func16 rfl (by kernel_rfl) ?_; simp only [Try.ntmps16, List.length_cons, List.length_nil, Nat.reduceAdd, Nat.reduceSub, List.replicate_succ, List.replicate_zero, List.cons_append, List.nil_append])
      (refine Wk.o ?_; (repeat revert hK K); refine W4801a ?_; (repeat intro K hK); refine ⟨?_⟩)
      refine AX_wh (σ := Unit) [10, 11, 12, 13, 14, 15, 16, 17, 18, 6, 7, 21, 22, 23, 24, 25, 28, 29, 30, 31, 32, 33, 34, 35, 36, 37, 38, 39, 40, 41, 42, 43, 44, 45, 46, 47, 48, 26, 27, 49, 50, 51, 52, 53, 54, 19, 20] (fun _ => [(5, lint (0 : Nat)), (4, lt (.slice none 0 0))]) (fun _ => [some ⟨24, [lt (.int .i64 o.S), lt (.int .i64 o.K), lt (.int .i64 o.I), .iv (iRws o.R)]⟩]) (fun _ => []) (fun _ => True) (fun _ => 0) () (fun d => by first | ((simp only [deadS, updS, List.set_cons_succ, List.set_cons_zero, lint, List.length_nil, List.length_cons]); done) | ((simp only [deadS, updS, List.set_cons_succ, List.set_cons_zero, lint, List.length_nil, List.length_cons]); rfl) | rfl) rfl rfl trivial ?_
      rintro u d fr hfr -
      simp only [updS, deadS, List.set_cons_succ, List.set_cons_zero, lint] at hfr
      subst hfr
      (try dsimp only)
      (refine Wk.o ?_; (repeat revert hK K); refine W4801a ?_; (repeat intro K hK); refine ⟨?_⟩)
      (simp only [bodyX]; refine ⟨_, by simp only [aresults, aresult, XS.as, Try.results16, aload, go_sem, Option.bind_some]; rfl, ?_⟩)
      exact ⟨_, snap_nil, by rw [hres], trivial⟩
    · (refine SF_of_bodyX (aload tt) (aload_ok tyOK) Try.func16 rfl (by kernel_rfl) ?_; simp only [Try.ntmps16, List.length_cons, List.length_nil, Nat.reduceAdd, Nat.reduceSub, List.replicate_succ, List.replicate_zero, List.cons_append, List.nil_append])
      (refine Wk.o ?_; (repeat revert hK K); refine W4801a ?_; (repeat intro K hK); refine ⟨?_⟩)
      refine AX_wh (σ := Unit) [10, 11, 12, 13, 14, 15, 16, 17, 18, 6, 7, 21, 22, 23, 24, 25, 28, 29, 30, 31, 32, 33, 34, 35, 36, 37, 38, 39, 40, 41, 42, 43, 44, 45, 46, 47, 48, 26, 27, 49, 50, 51, 52, 53, 54, 19, 20] (fun _ => [(5, lint (0 : Nat)), (4, lt (.slice none 0 0))]) (fun _ => [some ⟨24, [lt (.int .i64 o.S), lt (.int .i64 o.K), lt (.int .i64 o.I), .iv (iRws o.R)]⟩]) (fun _ => []) (fun _ => True) (fun _ => 0) () (fun d => by first | ((simp only [deadS, updS, List.set_cons_succ, List.set_cons_zero, lint, List.length_nil, List.length_cons]); done) | ((simp only [deadS, updS, List.set_cons_succ, List.set_cons_zero, lint, List.length_nil, List.length_cons]); rfl) | rfl) rfl rfl trivial ?_
      rintro u d fr hfr -
      simp only [updS, deadS, List.set_cons_succ, List.set_cons_zero, lint] at hfr
      subst hfr
      (try dsimp only)
      (refine Wk.o ?_; (repeat revert hK K); refine W4801a ?_; (repeat intro K hK); refine ⟨?_⟩)
      (simp only [bodyX]; refine ⟨_, by simp only [aresults, aresult, XS.as, Try.results16, aload, go_sem, Option.bind_some]; rfl, ?_⟩)
      exact ⟨_, snap_nil, by rw [hres], trivial⟩
end Go.Proofs.Ytpfbcjlgbdbcpaa
namespace Go.Proofs.Ytpfbcjlgbdbcpaa
open Go.RowKit
set_option linter.unusedVariables false
set_option linter.unusedSimpArgs false
theorem flatR_ins {S : List Rw} {k : Nat} {x : Rw} : flatR (S.take k ++ x :: S.drop k) = (flatR S).take (k * 4) ++ [x.s, x.k, x.n, x.r] ++ (flatR S).drop (k * 4) := by
  have h1 : ∀ (S : List Rw) (k : Nat), flatR (S.take k) = (flatR S).take (k * 4) ∧ flatR (S.drop k) = (flatR S).drop (k * 4) := by
    intro S
    induction S with
    | nil => intro k; simp [flatR]
    | cons y S ih =>
      intro k
      cases k with
      | zero => simp [flatR]
      | succ k =>
        have e : (k + 1) * 4 = k * 4 + 1 + 1 + 1 + 1 := by omega
        have hc : flatR (y :: S) = y.s :: y.k :: y.n :: y.r :: flatR S := rfl
        rw [List.take_succ_cons, List.drop_succ_cons, hc, e]
        obtain ⟨i1, i2⟩ := ih k
        refine ⟨?_, ?_⟩
        · show y.s :: y.k :: y.n :: y.r :: flatR (S.take k) = _
          rw [i1]; rfl
        · rw [i2]; rfl
  have h2 : ∀ a b : List Rw, flatR (a ++ b) = flatR a ++ flatR b := fun a b => by unfold flatR; rw [List.flatMap_append]
  rw [h2, (h1 S k).1]
  show _ ++ (x.s :: x.k :: x.n :: x.r :: flatR (S.drop k)) = _
  rw [(h1 S k).2]; simp
theorem Wa704a {A B : Prop} (h9 : B) (w : B → A := by (intro h9; (repeat intro K hK); refine ⟨?_⟩; (repeat (first | (first | (with_reducible first | refine AX_block ?_ | refine AX_skip ?_ | refine AX_exit ?_ | refine AX_ret ?_ | refine AX_ift ?_ | refine AX_iff ?_ | refine AX_seq_k (fun K hK => ?_) | refine ContX.use (by assumption) ?_) | simp only [thenX, inBlockX, if_true, if_false, reduceCtorEq]) | (first | ((first | (with_reducible refine XRes_op tyOK ?_ ?_) | ((with_reducible first | refine ADF_op tyOK ?_ ?_ ?_ | refine ADX_op tyOK ?_ ?_ ?_); (focus rfl)) | (with_reducible refine ADR_alloc1 tyOK ?_ ?_) | ((with_reducible refine ADR_free1 tyOK ?_ ?_ ?_); (focus rfl)) | ((with_reducible refine ADR_free0 tyOK ?_ ?_ ?_); (focus rfl)) | ((with_reducible refine ADR_read1 tyOK ?_ ?_ ?_); (focus rfl)) | (with_reducible refine ADR_chg1 tyOK ?_ ?_)); (focus (first | (with_reducible rfl) | ((simp (disch := omega) only [go_sem]); done))); simp (disch := omega) only [go_sem , flatR_s, flatR_k, flatR_n, flatR_r, hs1, hs2, hs3, hs4, range_takeI, range_dropI, List.length_take_of_le, List.length_drop, lint_app, intOf, List.length_nil, Nat.reduceLeDiff, Int.toNat_zero]; (first | (with_reducible refine XRes_id ?_) | (with_reducible refine ADF_id ?_) | (with_reducible refine ADR_id1 ?_) | (with_reducible refine ADX_id ?_))) | ((first | (with_reducible refine XRes_skip ?_ ?_) | (with_reducible refine ADF_skip (b := true) ?_ ?_) | (with_reducible refine ADX_skip ?_ ?_) | ((with_reducible refine ADR_skip1 ?_ ?_ ?_); (focus rfl))); (focus (first | rfl | ((simp (disch := omega) only [go_sem]); done))); (simp only [putL, List.set_cons_succ, List.set_cons_zero]))) | ((first | (with_reducible refine XRes_nil ?_) | (with_reducible refine ADF_nil ?_) | (with_reducible refine ADR_nil ?_) | (with_reducible refine ADX_nil ?_)); (first | refine hK _ ?_ | refine hK _ _ ?_); clear hK K) | ((first | (with_reducible refine AX_reg0 fun K hK => ?_) | (refine AX_drawG1 tyOK (by kernel_rfl) (by rfl) (by kernel_rfl) fun K hK => ?_) | (refine AX_drawT tyOK (by kernel_rfl) (by decide +kernel) fun K hK => ?_) | (refine AX_drawM1 (by kernel_rfl) (by rfl) (by decide +kernel) fun K hK => ?_) | (refine AX_drawA tyOK (by kernel_rfl) (by decide +kernel) fun K hK => ?_)); (first | simp only [go_sem, preN, effOp, runF, alM, mapOp, alD2, kdOf2, Bool.not_false, Bool.not_true, reduceCtorEq] | simp only [go_sem, preN, effOp, runF, alM, mapOp, Bool.not_false, Bool.not_true, reduceCtorEq] | simp only [go_sem, preN, effOp, runF, alD2, kdOf2, Bool.not_false, Bool.not_true, reduceCtorEq] | simp only [go_sem, alD2, kdOf2, Bool.not_false, Bool.not_true, reduceCtorEq] | simp only [go_sem, preN, effOp, runF, Bool.not_false, Bool.not_true, reduceCtorEq] | simp only [go_sem])) | (first | (first | refine XTL (by rfl) h1 ?_ | refine ATL tyOK (by rfl) h1 ?_)))); refine Wk.o ?_; (repeat revert hK K); exact h9)) : A := w h9
set_option maxRecDepth 100000 in
set_option maxHeartbeats 4000000 in
theorem pf_rSort (xs : List Rw) (hx : xs.length ≤ 100000) : PF Try.prog 21 [.iv (iRws xs)] fun r H' => r = .iv (iRws (srtR xs)) ∧ H' = [] := by
  refine SF.frozen ?_
  have hs1 := trivial; have hs2 := trivial; have hs3 := trivial; have hs4 := trivial; have h1 := trivial
  have z0 : srtR (xs.take 0) = [] := by rw [List.take_zero]; exact List.length_eq_zero_iff.1 (by rw [srtR_len]; rfl)
  (refine SF_of_bodyX (aload tt) (aload_ok tyOK) Try.func21 rfl (by kernel_rfl) ?_; simp only [Try.ntmps21, List.length_cons, List.length_nil, Nat.reduceAdd, Nat.reduceSub, List.replicate_succ, List.replicate_zero, List.cons_append, List.nil_append])
  unfold iRws
  (refine Wk.o ?_; (repeat revert hK K); refine Wa704a ?_; (repeat intro K hK); refine ⟨?_⟩)
  refine AX_nil 3 43 4 rfl ?_
  simp only [List.set_cons_succ, List.set_cons_zero, List.length_cons, List.length_nil, List.cons_append, List.nil_append, Nat.zero_add, Nat.reduceAdd]
  refine AX_wh (σ := Nat) [6, 7, 8, 9, 5, 12, 13, 14, 15, 16, 17, 18, 19, 20, 21, 22, 23, 24, 25, 26, 27, 28, 29, 30, 31, 32, 33, 34, 35, 36, 37, 38, 39, 40, 41, 42, 43, 44, 10, 11] (fun i => [(4, lint i), (3, .osl 0 0 (srtR (xs.take i)).length 4)]) (fun i => [some ⟨43, (flatR (srtR (xs.take i))).map lint⟩]) (fun _ => []) (fun i => i ≤ xs.length) (fun i => xs.length - i) 0 (fun d => by simp only [z0]; first | ((simp (disch := omega) only [go_sem, lint , flatR_s, flatR_k, flatR_n, flatR_r, hs1, hs2, hs3, hs4, range_takeI, range_dropI, List.length_take_of_le, List.length_drop, lint_app, intOf, List.length_nil, Nat.reduceLeDiff, Int.toNat_zero]); done) | ((simp (disch := omega) only [go_sem, lint , flatR_s, flatR_k, flatR_n, flatR_r, hs1, hs2, hs3, hs4, range_takeI, range_dropI, List.length_take_of_le, List.length_drop, lint_app, intOf, List.length_nil, Nat.reduceLeDiff, Int.toNat_zero]); rfl)) (by simp only [z0]; rfl) rfl (Nat.zero_le _) ?_
  rintro i d fr hfr i0
  simp only [updS, deadS, List.set_cons_succ, List.set_cons_zero, lint] at hfr
  subst hfr
  (try dsimp only)
  have hSl : (srtR (xs.take i)).length = i := by rw [srtR_len, List.length_take]; omega
  have hfS := flatR_len (srtR (xs.take i))
  by_cases hlt : i < xs.length
  · have hin := fun k => srtR_ins (l := xs.take i) (x := rwAt xs i) (k := k)
    have hti : xs.take i ++ [rwAt xs i] = xs.take (i + 1) := by rw [rwAt_get hlt]; exact (List.take_succ_eq_append_getElem hlt).symm
    rw [hti, List.length_take, Nat.min_eq_left (by omega)] at hin
    generalize srtR (xs.take i) = S at *
    (repeat (first | (with_reducible first | refine AX_block ?_ | refine AX_skip ?_ | refine AX_exit ?_ | refine AX_ret ?_ | refine AX_ift ?_ | refine AX_iff ?_ | refine AX_seq_k (fun K hK => ?_) | refine ContX.use (by assumption) ?_) | simp only [thenX, inBlockX, if_true, if_false, reduceCtorEq]))
    (refine Wk.o ?_; (repeat revert hK K); refine Wa704a ?_; (repeat intro K hK); refine ⟨?_⟩)
    refine AX_freeze [0] [(3, .iv (.sl (fun j => .lit (.int .i64 ((flatR S).getD j 0))) S.length 4))] (fun p hp => ?_) ?_
    · rw [List.mem_singleton.1 hp]; refine frz_flat (t := 43) (only_mk (ds := [0]) (by decide) ?_) (by decide) hfS; rfl
    simp only [setN, updS, List.set_cons_succ, List.set_cons_zero]
    refine AX_wh (σ := Nat) [12, 13, 14, 15, 16, 17, 18, 19, 20, 21, 22, 23, 24, 25, 26, 27, 28, 29] (fun k => [(5, lint k)]) (fun _ => [none]) (fun _ => []) (fun k => k ≤ i ∧ ∀ j, j < k → ¬ lexR (rwAt xs i) (rwAt S j)) (fun k => i - k) 0 (fun d => by first | ((simp (disch := omega) only [go_sem, lint , flatR_s, flatR_k, flatR_n, flatR_r, hs1, hs2, hs3, hs4, range_takeI, range_dropI, List.length_take_of_le, List.length_drop, lint_app, intOf, List.length_nil, Nat.reduceLeDiff, Int.toNat_zero]); done) | ((simp (disch := omega) only [go_sem, lint , flatR_s, flatR_k, flatR_n, flatR_r, hs1, hs2, hs3, hs4, range_takeI, range_dropI, List.length_take_of_le, List.length_drop, lint_app, intOf, List.length_nil, Nat.reduceLeDiff, Int.toNat_zero]); rfl)) rfl rfl ⟨Nat.zero_le _, fun j h => by omega⟩ ?_
    rintro k d2 fr hfr ⟨k0, k1⟩
    simp only [updS, deadS, List.set_cons_succ, List.set_cons_zero, lint] at hfr
    subst hfr
    (try dsimp only)
    by_cases hlt2 : k < i
    · have h1 := pf_less (rwAt xs i) (rwAt S k)
      by_cases c1 : lexR (rwAt xs i) (rwAt S k)
      · rw [decide_eq_true c1] at h1
        have hr := hin k (by omega) k1 (fun _ => c1)
        have hfi := congrArg flatR hr
        rw [flatR_ins] at hfi
        have hlS := congrArg List.length hr
        rw [List.length_append, List.length_cons, List.length_take, List.length_drop] at hlS
        have ht1 : ((flatR S).take (k * 4)).length = k * 4 := by rw [List.length_take]; omega
        generalize hs3 : srtR (xs.take (i + 1)) = S2 at *
        have hs2 : S2.length = k + 1 + (S.length - k) := by omega
        have hs4 := hfi
        have ht2 : ((flatR S).take (k * 4) ++ [(rwAt xs i).s, (rwAt xs i).k, (rwAt xs i).n, (rwAt xs i).r]).length = k * 4 + 4 := by rw [List.length_append, ht1]; rfl
        (refine Wk.o ?_; (repeat revert hK K); refine Wa704a ?_; (repeat intro K hK); refine ⟨?_⟩)
        ((refine AX_drawL tyOK (by kernel_rfl) (by decide +kernel) fun K hK => ?_); (simp only [go_sem, alL, kdOfL, kdOf, isApp, List.any_cons, Bool.or_true, Bool.or_false]))
        refine ADR_empty tyOK rfl 4 43 (by rfl) ?_
        (simp only [putL, List.set_cons_succ, List.set_cons_zero])
        (refine Wk.o ?_; (repeat revert hK K); refine Wa704a ?_; (repeat intro K hK); refine ⟨?_⟩)
        refine ADR_litF tyOK (by rfl) (len := 1) (sz := 4) (cs := [lt (.int .i64 (rwAt xs i).s), lt (.int .i64 (rwAt xs i).k), lt (.int .i64 (rwAt xs i).n), lt (.int .i64 (rwAt xs i).r)]) (by rfl) (by decide) (by rfl) (by rfl) ?_
        simp only [iFlat, List.map_cons, List.map_nil, intOf, putL, List.set_cons_succ, List.set_cons_zero]
        (refine Wk.o ?_; (repeat revert hK K); refine Wa704a ?_; (repeat intro K hK); refine ⟨?_⟩)
        exact whx_ren [4] (i + 1) (show i + 1 ≤ xs.length by omega) (by (first | omega | (dsimp only; omega) | (simp only; omega))) rfl (by decide) (by decide) (by (simp (disch := omega) only [go_sem, lint , flatR_s, flatR_k, flatR_n, flatR_r, hs1, hs2, hs3, hs4, range_takeI, range_dropI, List.length_take_of_le, List.length_drop, lint_app, intOf, List.length_nil, Nat.reduceLeDiff, Int.toNat_zero])) (by (simp (disch := omega) only [go_sem, lint , flatR_s, flatR_k, flatR_n, flatR_r, hs1, hs2, hs3, hs4, range_takeI, range_dropI, List.length_take_of_le, List.length_drop, lint_app, intOf, List.length_nil, Nat.reduceLeDiff, Int.toNat_zero])) (by (simp (disch := omega) only [go_sem, lint , flatR_s, flatR_k, flatR_n, flatR_r, hs1, hs2, hs3, hs4, range_takeI, range_dropI, List.length_take_of_le, List.length_drop, lint_app, intOf, List.length_nil, Nat.reduceLeDiff, Int.toNat_zero])) (fun d => by (simp (disch := omega) only [go_sem, lint , flatR_s, flatR_k, flatR_n, flatR_r, hs1, hs2, hs3, hs4, range_takeI, range_dropI, List.length_take_of_le, List.length_drop, lint_app, intOf, List.length_nil, Nat.reduceLeDiff, Int.toNat_zero]))
      · rw [decide_eq_false c1] at h1
        (refine Wk.o ?_; (repeat revert hK K); refine Wa704a ?_; (repeat intro K hK); refine ⟨?_⟩)
        exact whx_end (k + 1) ⟨by omega, fun j hj => by
          rcases Nat.lt_or_ge j k with h | h
          · exact k1 j h
          · rw [show j = k by omega]; exact c1⟩ (by (first | omega | (dsimp only; omega) | (simp only; omega))) rfl (by first | rfl | (simp (disch := omega) only [go_sem, lint])) (fun d => by first | ((simp only [deadS, updS, List.set_cons_succ, List.set_cons_zero, lint, List.length_nil, List.length_cons]); done) | ((simp only [deadS, updS, List.set_cons_succ, List.set_cons_zero, lint, List.length_nil, List.length_cons]); rfl) | rfl)
    · have hki : k = i := by omega
      have hr := hin k (by omega) k1 (fun h => by omega)
      have hfi := congrArg flatR hr
      rw [flatR_ins] at hfi
      have hlS := congrArg List.length hr
      rw [List.length_append, List.length_cons, List.length_take, List.length_drop] at hlS
      have ht1 : ((flatR S).take (k * 4)).length = k * 4 := by rw [List.length_take]; omega
      generalize hs3 : srtR (xs.take (i + 1)) = S2 at *
      have hs2 : S2.length = k + 1 + (S.length - k) := by omega
      have hs4 := hfi
      have ht2 : ((flatR S).take (k * 4) ++ [(rwAt xs i).s, (rwAt xs i).k, (rwAt xs i).n, (rwAt xs i).r]).length = k * 4 + 4 := by rw [List.length_append, ht1]; rfl
      (refine Wk.o ?_; (repeat revert hK K); refine Wa704a ?_; (repeat intro K hK); refine ⟨?_⟩)
      ((refine AX_drawL tyOK (by kernel_rfl) (by decide +kernel) fun K hK => ?_); (simp only [go_sem, alL, kdOfL, kdOf, isApp, List.any_cons, Bool.or_true, Bool.or_false]))
      refine ADR_empty tyOK rfl 4 43 (by rfl) ?_
      (simp only [putL, List.set_cons_succ, List.set_cons_zero])
      (refine Wk.o ?_; (repeat revert hK K); refine Wa704a ?_; (repeat intro K hK); refine ⟨?_⟩)
      refine ADR_litF tyOK (by rfl) (len := 1) (sz := 4) (cs := [lt (.int .i64 (rwAt xs i).s), lt (.int .i64 (rwAt xs i).k), lt (.int .i64 (rwAt xs i).n), lt (.int .i64 (rwAt xs i).r)]) (by rfl) (by decide) (by rfl) (by rfl) ?_
      simp only [iFlat, List.map_cons, List.map_nil, intOf, putL, List.set_cons_succ, List.set_cons_zero]
      (refine Wk.o ?_; (repeat revert hK K); refine Wa704a ?_; (repeat intro K hK); refine ⟨?_⟩)
      exact whx_ren [4] (i + 1) (show i + 1 ≤ xs.length by omega) (by (first | omega | (dsimp only; omega) | (simp only; omega))) rfl (by decide) (by decide) (by (simp (disch := omega) only [go_sem, lint , flatR_s, flatR_k, flatR_n, flatR_r, hs1, hs2, hs3, hs4, range_takeI, range_dropI, List.length_take_of_le, List.length_drop, lint_app, intOf, List.length_nil, Nat.reduceLeDiff, Int.toNat_zero])) (by (simp (disch := omega) only [go_sem, lint , flatR_s, flatR_k, flatR_n, flatR_r, hs1, hs2, hs3, hs4, range_takeI, range_dropI, List.length_take_of_le, List.length_drop, lint_app, intOf, List.length_nil, Nat.reduceLeDiff, Int.toNat_zero])) (by (simp (disch := omega) only [go_sem, lint , flatR_s, flatR_k, flatR_n, flatR_r, hs1, hs2, hs3, hs4, range_takeI, range_dropI, List.length_take_of_le, List.length_drop, lint_app, intOf, List.length_nil, Nat.reduceLeDiff, Int.toNat_zero])) (fun d => by (simp (disch := omega) only [go_sem, lint , flatR_s, flatR_k, flatR_n, flatR_r, hs1, hs2, hs3, hs4, range_takeI, range_dropI, List.length_take_of_le, List.length_drop, lint_app, intOf, List.length_nil, Nat.reduceLeDiff, Int.toNat_zero]))
  · obtain rfl : i = xs.length := by omega
    rw [List.take_length] at *
    (refine Wk.o ?_; (repeat revert hK K); refine Wa704a ?_; (repeat intro K hK); refine ⟨?_⟩)
    (simp only [bodyX]; refine ⟨_, by simp only [aresults, aresult, XS.as, Try.results21, aload, go_sem, Option.bind_some]; rfl, ?_⟩)
    refine ⟨_, .iv _ _ (.osl 0 0 (srtR xs).length 4 _ ⟨43, (flatR (srtR xs)).map lint⟩ (fun j => lt (.int .i64 ((flatR (srtR xs)).getD j 0))) (by omega) rfl (fun j hj => ?_) fun j _ => .iv _), rfl, trivial⟩
    rw [Nat.zero_add]; exact lint_at (by omega)
end Go.Proofs.Ytpfbcjlgbdbcpaa
