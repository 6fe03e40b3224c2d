import Derived.Test.YthgmjboldboclaaDoorMgBW
import Derived.Test.YthgmjboldboclaaDoorMgBE
namespace Go.Proofs.YthgmjboldboclaaDoor
open Go.RowKit Go.Lib
set_option linter.unusedVariables false
set_option linter.unusedSimpArgs false
theorem row_le {R : List (List Int)} {n : Nat} (h : ∀ d ∈ R, d.length ≤ n) (k : Nat) : (R.getD k []).length ≤ n := by
  by_cases hk : k < R.length
  · rw [List.getD_eq_getElem?_getD, List.getElem?_eq_getElem hk]; exact h _ (List.getElem_mem hk)
  · rw [List.getD_eq_getElem?_getD, List.getElem?_eq_none (by omega)]; exact Nat.zero_le _
theorem W098ea {A B : Prop} (h9 : B) (w : B → A := by (intro h9; (repeat intro K hK); refine ⟨?_⟩; (repeat (first | (first | (with_reducible first | refine AX_block ?_ | refine AX_skip ?_ | refine AX_exit ?_ | refine AX_ret ?_ | refine AX_ift ?_ | refine AX_iff ?_ | refine AX_seq_k (fun K hK => ?_) | refine ContX.use (by assumption) ?_) | simp only [thenX, inBlockX, if_true, if_false, reduceCtorEq]) | (first | ((first | (with_reducible refine XRes_op tyOK ?_ ?_) | ((with_reducible first | refine ADF_op tyOK ?_ ?_ ?_ | refine ADX_op tyOK ?_ ?_ ?_); (focus rfl)) | (with_reducible refine ADR_alloc1 tyOK ?_ ?_) | ((with_reducible refine ADR_free1 tyOK ?_ ?_ ?_); (focus rfl)) | ((with_reducible refine ADR_free0 tyOK ?_ ?_ ?_); (focus rfl)) | ((with_reducible refine ADR_read1 tyOK ?_ ?_ ?_); (focus rfl)) | (with_reducible refine ADR_chg1 tyOK ?_ ?_)); (focus (first | (with_reducible rfl) | ((simp (disch := omega) only [go_sem]); done))); simp (disch := omega) only [go_sem , hs1, hs2, hs3, hs4, Int.toNat_zero, Int.toNat_one, List.length_nil, ba_toList, beq_self_eq_true, ba_size]; (first | (with_reducible refine XRes_id ?_) | (with_reducible refine ADF_id ?_) | (with_reducible refine ADR_id1 ?_) | (with_reducible refine ADX_id ?_))) | ((first | (with_reducible refine XRes_skip ?_ ?_) | (with_reducible refine ADF_skip (b := true) ?_ ?_) | (with_reducible refine ADX_skip ?_ ?_) | ((with_reducible refine ADR_skip1 ?_ ?_ ?_); (focus rfl))); (focus (first | rfl | ((simp (disch := omega) only [go_sem]); done))); (simp only [putL, List.set_cons_succ, List.set_cons_zero]))) | ((first | (with_reducible refine XRes_nil ?_) | (with_reducible refine ADF_nil ?_) | (with_reducible refine ADR_nil ?_) | (with_reducible refine ADX_nil ?_)); (first | refine hK _ ?_ | refine hK _ _ ?_); clear hK K) | ((first | (with_reducible refine AX_reg0 fun K hK => ?_) | (refine AX_drawG1 tyOK (by kernel_rfl) (by rfl) (by kernel_rfl) fun K hK => ?_) | (refine AX_drawT tyOK (by kernel_rfl) (by decide +kernel) fun K hK => ?_) | (refine AX_drawM1 (by kernel_rfl) (by rfl) (by decide +kernel) fun K hK => ?_) | (refine AX_drawA tyOK (by kernel_rfl) (by decide +kernel) fun K hK => ?_)); (first | simp only [go_sem, preN, effOp, runF, alM, mapOp, alD2, kdOf2, Bool.not_false, Bool.not_true, reduceCtorEq] | simp only [go_sem, preN, effOp, runF, alM, mapOp, Bool.not_false, Bool.not_true, reduceCtorEq] | simp only [go_sem, preN, effOp, runF, alD2, kdOf2, Bool.not_false, Bool.not_true, reduceCtorEq] | simp only [go_sem, alD2, kdOf2, Bool.not_false, Bool.not_true, reduceCtorEq] | simp only [go_sem, preN, effOp, runF, Bool.not_false, Bool.not_true, reduceCtorEq] | simp only [go_sem])) | (first | (first | refine XTL (by rfl) pf_awake06 ?_ | refine ATL tyOK (by rfl) pf_awake06 ?_ | refine XTL (by rfl) hP1 ?_ | refine ATL tyOK (by rfl) hP1 ?_ | refine XTL (by rfl) hP2 ?_ | refine ATL tyOK (by rfl) hP2 ?_ | refine XTL (by rfl) hH1 ?_ | refine ATL tyOK (by rfl) hH1 ?_ | refine XTL (by rfl) hH2 ?_ | refine ATL tyOK (by rfl) hH2 ?_ | refine XTL (by rfl) hS ?_ | refine ATL tyOK (by rfl) hS ?_ | refine XTL (by rfl) hF ?_ | refine ATL tyOK (by rfl) hF ?_)))); refine Wk.o ?_; (repeat revert hK K); exact h9)) : A := w h9
set_option maxRecDepth 100000 in
set_option maxHeartbeats 4000000 in
theorem pf_DimacsReads (s : ByteArray) : PF Tryd.prog 3 [lt (.string s)] fun r H' => r = lt (.bool true) ∧ H' = [] := by
  refine SF.forgetAll ?_
  have hs1 := trivial; have hs2 := trivial; have hs3 := trivial; have hs4 := trivial; have hP1 := trivial; have hP2 := trivial; have hS := trivial; have hF := trivial; have hH1 := trivial; have hH2 := trivial
  obtain ⟨l, rfl⟩ : ∃ l, s = ba l := ⟨s.data.toList, (ba_of s).symm⟩
  by_cases hl : 3000 < l.length
  · have hs1 : decide ((3000 : Int) < (l.length : Int)) = true := decide_eq_true (by omega)
    (refine SF_of_bodyX (aload tt) (aload_ok tyOK) Tryd.func3 rfl (by kernel_rfl) ?_; simp only [Tryd.ntmps3, List.length_cons, List.length_nil, Nat.reduceAdd, Nat.reduceSub, List.replicate_succ, List.replicate_zero, List.cons_append, List.nil_append])
    (refine Wk.o ?_; (repeat revert hK K); refine W098ea ?_; (repeat intro K hK); refine ⟨?_⟩)
    (simp only [bodyX]; refine ⟨_, by simp only [aresults, aresult, XS.as, Tryd.results3, aload, go_sem, Option.bind_some]; rfl, ?_⟩)
    exact ⟨ids_idB rfl, rfl, trivial⟩
  · have hs1 : decide ((3000 : Int) < (l.length : Int)) = false := decide_eq_false (by omega)
    have hP1 := pf_prs l (by omega)
    have hP2 := pf_rprs l (by omega)
    have hok := prs_ok l
    have hS := pf_formSelf6 (prs l).1 (prs l).2.1 (by have := hok.len; omega) (fun k => Nat.le_trans (row_le (fun d hd => (hok.good d hd).len) k) (by decide))
    clear hok
    generalize prs l = P at *
    obtain ⟨V, R, at0, e⟩ := P
    unfold aForm iRows lint at hP1 hP2 hS
    dsimp only at hP1 hP2 hS
    (refine SF_of_bodyX (aload tt) (aload_ok tyOK) Tryd.func3 rfl (by kernel_rfl) ?_; simp only [Tryd.ntmps3, List.length_cons, List.length_nil, Nat.reduceAdd, Nat.reduceSub, List.replicate_succ, List.replicate_zero, List.cons_append, List.nil_append])
    (refine Wk.o ?_; (repeat revert hK K); refine W098ea ?_; (repeat intro K hK); refine ⟨?_⟩)
    (simp only [bodyX]; refine ⟨_, by simp only [aresults, aresult, XS.as, Tryd.results3, aload, go_sem, Option.bind_some]; rfl, ?_⟩)
    exact ⟨ids_idB rfl, rfl, trivial⟩
set_option maxRecDepth 100000 in
set_option maxHeartbeats 4000000 in
theorem pf_DimacsPrints (V : Int) (R : List (List Int)) (v c : Int) (hV : Fit V) (hv : Fit v) (hc : Fit c) (hRl : R.length ≤ maxLen) (hRs : ∀ d ∈ R, d.length ≤ maxLen) (hF0 : ∀ d ∈ R, ∀ x ∈ d, Fit x) : PF Tryd.prog 4 [aForm V R, lt (.int .i64 v), lt (.int .i64 c)] fun r H' => r = lt (.bool true) ∧ H' = [] := by
  refine SF.forgetAll ?_
  have hs1 := trivial; have hs2 := trivial; have hs3 := trivial; have hs4 := trivial; have hP1 := trivial; have hP2 := trivial; have hS := trivial; have hF := trivial; have hH1 := trivial; have hH2 := trivial
  have hF := pf_Few V R hRl hRs
  cases hw : fFew R with
  | false =>
    rw [hw] at hF
    unfold aForm iRows lint at *
    (refine SF_of_bodyX (aload tt) (aload_ok tyOK) Tryd.func4 rfl (by kernel_rfl) ?_; simp only [Tryd.ntmps4, List.length_cons, List.length_nil, Nat.reduceAdd, Nat.reduceSub, List.replicate_succ, List.replicate_zero, List.cons_append, List.nil_append])
    (refine Wk.o ?_; (repeat revert hK K); refine W098ea ?_; (repeat intro K hK); refine ⟨?_⟩)
    (simp only [bodyX]; refine ⟨_, by simp only [aresults, aresult, XS.as, Tryd.results4, aload, go_sem, Option.bind_some]; rfl, ?_⟩)
    exact ⟨ids_idB rfl, rfl, trivial⟩
  | true =>
    rw [hw] at hF
    unfold fFew at hw
    rw [Bool.and_eq_true, decide_eq_true_iff, List.all_eq_true] at hw
    obtain ⟨h1, h2⟩ := hw
    have h2 : ∀ d ∈ R, d.length ≤ 50 := fun d hd => by simpa using h2 d hd
    have hsh : ShortR R 100000 := fun d hd => Nat.le_trans (h2 d hd) (by decide)
    have hH1 := pf_Head6 v c hv hc
    have hH2 := pf_rHead6 v c hv hc
    have hk1 := pf_Check V R (by omega) hsh
    have hk2 := pf_r04Check V R (by omega) hsh
    by_cases he : fErr V R = 0
    · rw [he] at hk1 hk2
      have hlen := prB_len hV hF0 h1 h2
      have hP1 := pf_dPrint V R _ hV hF0 (by omega) (fun d hd => Nat.le_trans (h2 d hd) (by decide)) hlen hk1
      have hP2 := pf_rPrint V R _ hV hF0 (by omega) (fun d hd => Nat.le_trans (h2 d hd) (by decide)) hlen hk2
      generalize prB V R = pr at *
      clear hk1 hk2
      unfold aForm iRows lint at *
      (refine SF_of_bodyX (aload tt) (aload_ok tyOK) Tryd.func4 rfl (by kernel_rfl) ?_; simp only [Tryd.ntmps4, List.length_cons, List.length_nil, Nat.reduceAdd, Nat.reduceSub, List.replicate_succ, List.replicate_zero, List.cons_append, List.nil_append])
      (refine Wk.o ?_; (repeat revert hK K); refine W098ea ?_; (repeat intro K hK); refine ⟨?_⟩)
      (simp only [bodyX]; refine ⟨_, by simp only [aresults, aresult, XS.as, Tryd.results4, aload, go_sem, Option.bind_some]; rfl, ?_⟩)
      exact ⟨ids_idB rfl, rfl, trivial⟩
    · have hP1 := pf_dPrintNo V R _ _ he hk1
      have hP2 := pf_rPrintNo V R _ _ he hk2
      generalize fErr V R = e at *
      clear hk1 hk2
      unfold aForm iRows lint at *
      (refine SF_of_bodyX (aload tt) (aload_ok tyOK) Tryd.func4 rfl (by kernel_rfl) ?_; simp only [Tryd.ntmps4, List.length_cons, List.length_nil, Nat.reduceAdd, Nat.reduceSub, List.replicate_succ, List.replicate_zero, List.cons_append, List.nil_append])
      (refine Wk.o ?_; (repeat revert hK K); refine W098ea ?_; (repeat intro K hK); refine ⟨?_⟩)
      (simp only [bodyX]; refine ⟨_, by simp only [aresults, aresult, XS.as, Tryd.results4, aload, go_sem, Option.bind_some]; rfl, ?_⟩)
      exact ⟨ids_idB rfl, rfl, trivial⟩
end Go.Proofs.YthgmjboldboclaaDoor
namespace Go.Proofs.YthgmjboldboclaaDoor
open Go.RowKit
set_option linter.unusedVariables false
theorem dimacsReads_walk (w : World) (hB : BaseAt fun b => w.heap[b]?) (s : ByteArray) (hs : s.size ≤ maxLen) :
    Calls Tryd.prog 3 #[.string s] w fun e w' => e = .returned (.bool true) ∧ Below w.heap.size w w' :=
  haveI := hB
  law_of (SF.mono (pf_DimacsReads s) fun r H' h => h.1) w _ (RL.cons (.iv _ _ (.lit _)) (RL.nil _ _))
end Go.Proofs.YthgmjboldboclaaDoor
namespace Go.Proofs.YthgmjboldboclaaDoor
open Go.RowKit
set_option linter.unusedVariables false
theorem ra_form6 {W : World} [BaseAt fun b => W.heap[b]?] {vars : Int} {a : Option Addr} {len cap : Nat} {xss : List (List Int)} (h : Rows2 W a len xss) (h1 : len ≤ cap) (h2 : cap ≤ maxLen) : RA 0 (Gh.of W) (aForm vars xss) (.agg #[.int .i64 vars, .slice a len cap]) :=
  RA.agg [lint vars, .iv (iRows xss)] [.int .i64 vars, .slice a len cap] rfl (fun i x v e e' => by
    rcases i with _ | _ | i
    · simp at e e'; subst e e'; exact .iv _ _ (.lit _)
    · simp at e e'; subst e e'; exact .iv _ _ (ri_rows h h1 h2)
    · simp at e) rfl
theorem rows_short6 {W : World} {a : Option Addr} {len : Nat} {xss : List (List Int)} (h : Rows2 W a len xss) : ∀ xs ∈ xss, xs.length ≤ maxLen := by
  obtain ⟨h1, h2, h3⟩ := h
  intro xs hx
  obtain ⟨i, hi, rfl⟩ := List.getElem_of_mem hx
  obtain ⟨b, off, u, e, hc, a2, l2, c2, rfl, k1, k2, k3⟩ := h3 i (by omega)
  have := k3.1
  rw [List.getD_eq_getElem?_getD, List.getElem?_eq_getElem hi] at this
  simp only [Option.getD_some] at this
  omega
theorem fit_wf {x : Int} (h : (Lit.int .i64 x).wf = true) : Fit x := by
  have e1 : IntKind.i64.min = -9223372036854775808 := by decide
  have e2 : IntKind.i64.max = 9223372036854775807 := by decide
  unfold Fit; simpa [Lit.wf, e1, e2] using h
theorem dimacsPrints_walk (w : World) (hB : BaseAt fun b => w.heap[b]?) (V : Int) (wV : (Lit.int .i64 V).wf = true) (a : Option Addr) (len cap : Nat) (R : List (List Int)) (hr : Rows2 w a len R) (hf : FitsR R) (hcap : len ≤ cap ∧ cap ≤ maxLen ∧ (a = none → cap = 0)) (v : Int) (wv : (Lit.int .i64 v).wf = true) (c : Int) (wc : (Lit.int .i64 c).wf = true) :
    Calls Tryd.prog 4 #[.agg #[.int .i64 V, .slice a len cap], .int .i64 v, .int .i64 c] w fun e w' => e = .returned (.bool true) ∧ Below w.heap.size w w' :=
  haveI := hB
  law_of (SF.mono (pf_DimacsPrints V R v c (fit_wf wV) (fit_wf wv) (fit_wf wc) (by have := hr.1; have := hr.2.1; omega) (rows_short6 hr) (fun d hd x hx => hf d hd x hx)) fun r H' h => h.1) w _ (RL.cons (ra_form6 hr hcap.1 hcap.2.1) (RL.cons (.iv _ _ (.lit _)) (RL.cons (.iv _ _ (.lit _)) (RL.nil _ _))))
end Go.Proofs.YthgmjboldboclaaDoor
