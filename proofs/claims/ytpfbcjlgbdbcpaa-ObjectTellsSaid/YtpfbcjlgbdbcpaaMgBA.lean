import Derived.Test.YtpfbcjlgbdbcpaaMgAW
import Derived.Test.YtpfbcjlgbdbcpaaMgAY
import Derived.Test.YtpfbcjlgbdbcpaaMgAZ
import Derived.Test.YtpfbcjlgbdbcpaaMgAU
import Derived.Test.YtpfbcjlgbdbcpaaMgAT
namespace Go.Proofs.Ytpfbcjlgbdbcpaa
open Go.RowKit
set_option linter.unusedVariables false
set_option linter.unusedSimpArgs false
set_option maxRecDepth 100000 in
set_option maxHeartbeats 1000000 in
theorem pf_sameInts (xs ys : List Int) (hx : xs.length ≤ 1000000) (hy : ys.length ≤ 1000000) : PF Try.prog 12 [.iv (iInts xs), .iv (iInts ys)] fun r H' => r = lt (.bool (decide (xs = ys))) ∧ H' = [] := by
  refine SF.forgetAll ?_
  (refine SF_of_bodyX (aload tt) (aload_ok tyOK) Try.func12 rfl (by kernel_rfl) ?_; simp only [Try.ntmps12, List.length_cons, List.length_nil, Nat.reduceAdd, Nat.reduceSub, List.replicate_succ, List.replicate_zero, List.cons_append, List.nil_append])
  unfold iInts
  by_cases hl : xs.length = ys.length
  · (repeat (first | (first | (with_reducible first | refine AX_block ?_ | refine AX_skip ?_ | refine AX_exit ?_ | refine AX_ret ?_ | refine AX_ift ?_ | refine AX_iff ?_ | refine AX_seq_k (fun K hK => ?_) | refine ContX.use (by assumption) ?_) | simp only [thenX, inBlockX, if_true, if_false, reduceCtorEq]) | (first | ((with_reducible first | refine XOP tyOK ?_ | refine AOP tyOK ?_); simp (disch := omega) only [go_sem , List.length_nil]; (with_reducible first | refine XRes_id ?_ | refine ADF_id ?_)) | (with_reducible first | refine XSK ?_ | refine ASK ?_)) | ((first | (with_reducible refine XRes_nil ?_) | (with_reducible refine ADF_nil ?_)); (first | refine hK _ ?_ | refine hK _ _ ?_); clear hK K) | ((first | (with_reducible refine AX_reg0 fun K hK => ?_) | (refine AX_drawG1 tyOK (by kernel_rfl) (by rfl) (by kernel_rfl) fun K hK => ?_)); simp only [go_sem]) | fail))
    (refine AWH (σ := Nat) [11, 12, 13, 14, 17, 18, 19, 20, 21, 22, 23, 24, 25, 4, 15, 16] (fun k => [(5, lint k)]) (fun k => []) (fun k => []) (fun k => k ≤ xs.length ∧ ∀ i, i < k → xs.getD i 0 = ys.getD i 0) (fun k => xs.length - k) 0 (by first | exact ⟨Nat.zero_le _, fun i h => absurd h (by omega)⟩) ?_; rintro k d fr hfr ⟨hk, hp⟩; simp only [updS, deadS, List.set_cons_succ, List.set_cons_zero, lint] at hfr; subst hfr; (try dsimp only))
    (repeat' (first | (first | (with_reducible first | refine AX_block ?_ | refine AX_skip ?_ | refine AX_exit ?_ | refine AX_ret ?_ | refine AX_ift ?_ | refine AX_iff ?_ | refine AX_seq_k (fun K hK => ?_) | refine ContX.use (by assumption) ?_) | simp only [thenX, inBlockX, if_true, if_false, reduceCtorEq]) | (first | ((with_reducible first | refine XOP tyOK ?_ | refine AOP tyOK ?_); simp (disch := omega) only [go_sem , List.length_nil]; (with_reducible first | refine XRes_id ?_ | refine ADF_id ?_)) | (with_reducible first | refine XSK ?_ | refine ASK ?_)) | ((first | (with_reducible refine XRes_nil ?_) | (with_reducible refine ADF_nil ?_)); (first | refine hK _ ?_ | refine hK _ _ ?_); clear hK K) | ((first | (with_reducible refine AX_reg0 fun K hK => ?_) | (refine AX_drawG1 tyOK (by kernel_rfl) (by rfl) (by kernel_rfl) fun K hK => ?_)); simp only [go_sem]) | fail | ((first | (refine XRes_splitG (by rfl) (fun hc => ?_) (fun hc => ?_)) | (refine ADF_splitG (by rfl) (fun hc => ?_) (fun hc => ?_))) <;> (try simp only [eqRes, List.cons_beq_cons, Bool.and_eq_true, Bool.not_eq_true, Bool.and_eq_false_iff, decide_eq_true_eq, decide_eq_false_iff_not, bne_iff_ne, beq_iff_eq, bne_eq_false_iff_eq, beq_eq_false_iff_ne, Bool.not_eq_true', Bool.not_eq_false', ne_eq, Int.not_lt, Int.not_le, Decidable.not_not] at hc) <;> simp only [List.set_cons_succ, List.set_cons_zero]) | (first | ((with_reducible refine AX_if_t ?_ ?_); focus (simp (disch := omega) only [go_sem , List.length_nil]; done)) | ((with_reducible refine AX_if_f ?_ ?_); focus (simp (disch := omega) only [go_sem , List.length_nil]; done)) | (refine AX_cond _ (by rfl) (fun hc => ?_) (fun hc => ?_) <;> (try simp only [eqRes, List.cons_beq_cons, Bool.and_eq_true, Bool.not_eq_true, Bool.and_eq_false_iff, decide_eq_true_eq, decide_eq_false_iff_not, bne_iff_ne, beq_iff_eq, bne_eq_false_iff_eq, beq_eq_false_iff_ne, Bool.not_eq_true', Bool.not_eq_false', ne_eq, Int.not_lt, Int.not_le, Decidable.not_not] at hc)))))
    · (simp only [bodyX]; refine ⟨_, by simp only [aresults, aresult, XS.as, Try.results12, aload, go_sem, Option.bind_some]; rfl, ?_⟩)
      exact ⟨.iv _, (by rw [decide_eq_false]; intro e; subst e; exact hc rfl), trivial⟩
    · exact whx_end (k + 1) ⟨by omega, fun i hi => by
        rcases Nat.lt_or_ge i k with h | h
        · exact hp i h
        · rw [show i = k by omega]; exact hc⟩ (by (first | omega | (dsimp only; omega) | (simp only; omega))) rfl (by first | rfl | (simp (disch := omega) only [go_sem, lint])) (fun d => by first | ((simp only [deadS, updS, List.set_cons_succ, List.set_cons_zero, lint, List.length_nil, List.length_cons]); done) | ((simp only [deadS, updS, List.set_cons_succ, List.set_cons_zero, lint, List.length_nil, List.length_cons]); rfl) | rfl)
    · (simp only [bodyX]; refine ⟨_, by simp only [aresults, aresult, XS.as, Try.results12, aload, go_sem, Option.bind_some]; rfl, ?_⟩)
      refine ⟨.iv _, (by
        rw [decide_eq_true]
        apply List.ext_getElem hl
        intro i h1 h2
        have := hp i (by omega)
        simpa [List.getD, h1, h2] using this), trivial⟩
  · (repeat' (first | (first | (with_reducible first | refine AX_block ?_ | refine AX_skip ?_ | refine AX_exit ?_ | refine AX_ret ?_ | refine AX_ift ?_ | refine AX_iff ?_ | refine AX_seq_k (fun K hK => ?_) | refine ContX.use (by assumption) ?_) | simp only [thenX, inBlockX, if_true, if_false, reduceCtorEq]) | (first | ((with_reducible first | refine XOP tyOK ?_ | refine AOP tyOK ?_); simp (disch := omega) only [go_sem , List.length_nil]; (with_reducible first | refine XRes_id ?_ | refine ADF_id ?_)) | (with_reducible first | refine XSK ?_ | refine ASK ?_)) | ((first | (with_reducible refine XRes_nil ?_) | (with_reducible refine ADF_nil ?_)); (first | refine hK _ ?_ | refine hK _ _ ?_); clear hK K) | ((first | (with_reducible refine AX_reg0 fun K hK => ?_) | (refine AX_drawG1 tyOK (by kernel_rfl) (by rfl) (by kernel_rfl) fun K hK => ?_)); simp only [go_sem]) | fail | ((first | (refine XRes_splitG (by rfl) (fun hc => ?_) (fun hc => ?_)) | (refine ADF_splitG (by rfl) (fun hc => ?_) (fun hc => ?_))) <;> (try simp only [eqRes, List.cons_beq_cons, Bool.and_eq_true, Bool.not_eq_true, Bool.and_eq_false_iff, decide_eq_true_eq, decide_eq_false_iff_not, bne_iff_ne, beq_iff_eq, bne_eq_false_iff_eq, beq_eq_false_iff_ne, Bool.not_eq_true', Bool.not_eq_false', ne_eq, Int.not_lt, Int.not_le, Decidable.not_not] at hc) <;> simp only [List.set_cons_succ, List.set_cons_zero]) | (first | ((with_reducible refine AX_if_t ?_ ?_); focus (simp (disch := omega) only [go_sem , List.length_nil]; done)) | ((with_reducible refine AX_if_f ?_ ?_); focus (simp (disch := omega) only [go_sem , List.length_nil]; done)) | (refine AX_cond _ (by rfl) (fun hc => ?_) (fun hc => ?_) <;> (try simp only [eqRes, List.cons_beq_cons, Bool.and_eq_true, Bool.not_eq_true, Bool.and_eq_false_iff, decide_eq_true_eq, decide_eq_false_iff_not, bne_iff_ne, beq_iff_eq, bne_eq_false_iff_eq, beq_eq_false_iff_ne, Bool.not_eq_true', Bool.not_eq_false', ne_eq, Int.not_lt, Int.not_le, Decidable.not_not] at hc)))))
    (simp only [bodyX]; refine ⟨_, by simp only [aresults, aresult, XS.as, Try.results12, aload, go_sem, Option.bind_some]; rfl, ?_⟩)
    exact ⟨.iv _, (by rw [decide_eq_false]; intro e; subst e; exact hl rfl), trivial⟩
end Go.Proofs.Ytpfbcjlgbdbcpaa
namespace Go.Proofs.Ytpfbcjlgbdbcpaa
open Go.RowKit
set_option linter.unusedVariables false
set_option linter.unusedSimpArgs false
def fgR : List Rw := [⟨0, 0, 1, 0⟩, ⟨0, 1, 0, 0⟩, ⟨1, 1, 1, 1⟩]
def fg2 : Ob := ⟨2, 2, 0, fgR⟩
def fg3 : Ob := ⟨2, 3, 0, fgR⟩
def fgB : Ob := ⟨2, 2, 0, [⟨0, 0, 1, 0⟩, ⟨0, 1, 0, 0⟩, ⟨1, 2, 1, 1⟩]⟩
abbrev fg2A : AV := .agg [lt (.int .i64 2), lt (.int .i64 2), lt (.int .i64 0), .iv (iFlat [0, 0, 1, 0, 0, 1, 0, 0, 1, 1, 1, 1] 3 4)]
abbrev fg3A : AV := .agg [lt (.int .i64 2), lt (.int .i64 3), lt (.int .i64 0), .iv (iFlat [0, 0, 1, 0, 0, 1, 0, 0, 1, 1, 1, 1] 3 4)]
theorem fg2_ok : fg2.Ok := ⟨by decide, by decide, by decide⟩
theorem fg3_ok : fg3.Ok := ⟨by decide, by decide, by decide⟩
theorem fgB_ok : fgB.Ok := ⟨by decide, by decide, by decide⟩
theorem fg_reD (o : Ob) (hS : o.S = 2) (hI : o.I = 0) (hR : o.R = fgR) (h : obE o = 0) : reL o = [0, 1] := by
  have hD : [true, true] = reD o := reD_eq h (by rw [hS]; rfl) (by rw [hI]; rfl) (fun s hs _ => by
    rcases (by simp at hs; omega : s = 0 ∨ s = 1) with rfl | rfl
    · rw [show ((0 : Nat) : Int) = o.I by rw [hI]; rfl]; exact .init
    · have h0 : obRe o (rwAt o.R 0).s := by rw [hR, show (rwAt fgR 0).s = o.I by rw [hI]; rfl]; exact .init
      have := obRe.step 0 (by rw [hR]; decide) h0
      rw [hR] at this; exact this) (fun i hi hd => by
    rw [hR] at hi ⊢
    rcases (by have : fgR.length = 3 := rfl; omega : i = 0 ∨ i = 1 ∨ i = 2) with rfl | rfl | rfl <;> rfl)
  unfold reL
  rw [if_pos h, ← hD, hS]; rfl
theorem fg2_e : obE fg2 = 0 := by decide +kernel
theorem fg3_e : obE fg3 = 0 := by decide +kernel
theorem fg2_re : reL fg2 = [0, 1] := fg_reD fg2 rfl rfl rfl fg2_e
theorem fg3_de : deL fg3 = [2] := by
  unfold deL
  rw [if_pos fg3_e, fg_reD fg3 rfl rfl rfl fg3_e]
  decide +kernel
theorem q_fChk : PF Try.prog 8 [fg2A] fun r H' => r = .tup [lt (.int .i64 3), lt (.int .i64 0)] ∧ H' = [] := by
  have h := pf_obCheck fg2 (by decide) fg2_ok
  rw [show obAt fg2 = 3 by decide +kernel, fg2_e] at h
  exact h
theorem q_bChk : PF Try.prog 8 [obA fgB] fun r H' => r = .tup [lt (.int .i64 2), lt (.int .i64 31)] ∧ H' = [] := by
  have h := pf_obCheck fgB (by decide) fgB_ok
  rw [show obAt fgB = 2 by decide +kernel, show obE fgB = 31 by decide +kernel] at h
  exact h
theorem ra_nil23 {n : Nat} {G : Gh} {get : Nat → IV} {sz : Nat} {v : Value} (h : RA n G (lt (.slice none 0 0)) v) : RA n G (.iv (.sl get 0 sz)) v := by
  cases h with
  | iv _ _ h => cases h with
    | lit => exact .iv _ _ (.nil _ _ _ (Nat.zero_le _))
theorem ra_agg23 {n : Nat} {G : Gh} {x y z u u' : AV} {v : Value} (h : RA n G (.agg [x, y, z, u]) v) (h1 : u'.one = true) (he : ∀ v, RA n G u v → RA n G u' v) : RA n G (.agg [x, y, z, u']) v := by
  cases h with
  | agg _ vs k1 k2 k3 =>
    refine .agg _ vs k1 (fun i a b e1 e2 => ?_) ?_
    · match i with
      | 0 => exact k2 0 a b e1 e2
      | 1 => exact k2 1 a b e1 e2
      | 2 => exact k2 2 a b e1 e2
      | 3 => simp at e1; subst e1; exact he _ (k2 3 u b rfl e2)
      | i + 4 => simp at e1
    · simp only [List.all_cons, List.all_nil, Bool.and_eq_true, Bool.and_true] at k3 ⊢
      exact ⟨k3.1, k3.2.1, k3.2.2.1, h1⟩
theorem q_oChk : PF Try.prog 8 [.agg [lt (.int .i64 0), lt (.int .i64 0), lt (.int .i64 0), lt (.slice none 0 0)]] fun r H' => r = .tup [lt (.int .i64 (-1)), lt (.int .i64 2)] ∧ H' = [] := by
  have h := pf_obCheck ⟨0, 0, 0, []⟩ (by decide) ⟨by decide, by decide, by decide⟩
  rw [show obAt ⟨0, 0, 0, []⟩ = -1 by decide +kernel, show obE ⟨0, 0, 0, []⟩ = 2 by decide +kernel] at h
  refine SF.args h fun G vs hv => ?_
  obtain ⟨v1, t1, rfl, a1, r1⟩ := hv.uncons
  exact RL.cons (ra_agg23 a1 rfl fun v h => ra_nil23 h) r1
theorem q_mv (s k n r : Int) (b : Bool) (h1 : mvN fg2 s k = n) (h2 : mvR fg2 s k = r) (h3 : mvOk fg2 s k = b) : PF Try.prog 10 [fg2A, lt (.int .i64 s), lt (.int .i64 k)] fun r' H' => r' = .tup [lt (.int .i64 n), lt (.int .i64 r), lt (.bool b)] ∧ H' = [] := by
  have h := pf_obMove fg2 s k (by decide)
  rw [h1, h2, h3] at h
  exact h
theorem q_re : PF Try.prog 13 [fg2A] fun r H' => r = .iv (iFlat [0, 1] 2 1) ∧ H' = [] := by
  have h := pf_Reach fg2 (by decide) fg2_ok
  rw [fg2_re] at h
  exact h
theorem q_de : PF Try.prog 15 [fg3A] fun r H' => r = .iv (iFlat [2] 1 1) ∧ H' = [] := by
  have h := pf_Dead fg3 (by decide) fg3_ok
  rw [fg3_de] at h
  exact h
theorem q_SI23 (L : List Int) (hL : L.length ≤ 1000000) : PF Try.prog 12 [.iv (iInts L), .iv (iInts L)] fun r H' => r = lt (.bool true) ∧ H' = [] := by
  have h := pf_sameInts L L hL hL
  rwa [decide_eq_true rfl] at h
theorem q_sm1 : PF Try.prog 17 [fg2A, fg2A] fun r H' => r = lt (.bool true) ∧ H' = [] := pf_obSame fg2 fg2 (by decide) (by decide)
theorem q_sm2 : PF Try.prog 17 [fg2A, fg3A] fun r H' => r = lt (.bool false) ∧ H' = [] := pf_obSame fg2 fg3 (by decide) (by decide)
theorem fg_srt : srtR [⟨1, 1, 1, 1⟩, ⟨0, 0, 1, 0⟩] = [⟨0, 0, 1, 0⟩, ⟨1, 1, 1, 1⟩] := by
  simp [srtR, List.mergeSort, List.MergeSort.Internal.splitInTwo, List.merge, cfR_lt, lexR]
theorem q_srt : PF Try.prog 20 [.iv (iFlat [1, 1, 1, 1, 0, 0, 1, 0] 2 4)] fun r H' => r = .iv (iFlat [0, 0, 1, 0, 1, 1, 1, 1] 2 4) ∧ H' = [] := by
  have h := pf_Sort [⟨1, 1, 1, 1⟩, ⟨0, 0, 1, 0⟩] (by decide)
  rw [fg_srt] at h
  exact h
theorem q_SR : PF Try.prog 19 [.iv (iFlat [0, 0, 1, 0, 1, 1, 1, 1] 2 4), .iv (iFlat [0, 0, 1, 0, 1, 1, 1, 1] 2 4)] fun r H' => r = lt (.bool true) ∧ H' = [] := pf_sameRows [⟨0, 0, 1, 0⟩, ⟨1, 1, 1, 1⟩] [⟨0, 0, 1, 0⟩, ⟨1, 1, 1, 1⟩] (by decide) (by decide)
theorem W6242a {A B : Prop} (h9 : B) (w : B → A := by (intro h9; (repeat intro K hK); refine ⟨?_⟩; (repeat (first | (first | (with_reducible first | refine AX_block ?_ | refine AX_skip ?_ | refine AX_exit ?_ | refine AX_ret ?_ | refine AX_ift ?_ | refine AX_iff ?_ | refine AX_seq_k (fun K hK => ?_) | refine ContX.use (by assumption) ?_) | simp only [thenX, inBlockX, if_true, if_false, reduceCtorEq]) | (first | ((first | (with_reducible refine XRes_op tyOK ?_ ?_) | ((with_reducible first | refine ADF_op tyOK ?_ ?_ ?_ | refine ADX_op tyOK ?_ ?_ ?_); (focus rfl)) | (with_reducible refine ADR_alloc1 tyOK ?_ ?_) | ((with_reducible refine ADR_free1 tyOK ?_ ?_ ?_); (focus rfl)) | ((with_reducible refine ADR_free0 tyOK ?_ ?_ ?_); (focus rfl)) | ((with_reducible refine ADR_read1 tyOK ?_ ?_ ?_); (focus rfl)) | (with_reducible refine ADR_chg1 tyOK ?_ ?_)); (focus (first | (with_reducible rfl) | ((simp (disch := omega) only [go_sem]); done))); simp (disch := omega) only [go_sem , iFlat, iInts, List.getD_cons_zero, List.getD_cons_succ, Int.reduceToNat, Int.toNat_zero, Int.toNat_one, Nat.zero_mul, Nat.one_mul, Nat.zero_add, Nat.reduceMul, Nat.reduceAdd, Nat.reduceSub]; (first | (with_reducible refine XRes_id ?_) | (with_reducible refine ADF_id ?_) | (with_reducible refine ADR_id1 ?_) | (with_reducible refine ADX_id ?_))) | ((first | (with_reducible refine XRes_skip ?_ ?_) | (with_reducible refine ADF_skip (b := true) ?_ ?_) | (with_reducible refine ADX_skip ?_ ?_) | ((with_reducible refine ADR_skip1 ?_ ?_ ?_); (focus rfl))); (focus (first | rfl | ((simp (disch := omega) only [go_sem]); done))); (simp only [putL, List.set_cons_succ, List.set_cons_zero]))) | ((first | (with_reducible refine XRes_nil ?_) | (with_reducible refine ADF_nil ?_) | (with_reducible refine ADR_nil ?_) | (with_reducible refine ADX_nil ?_)); (first | refine hK _ ?_ | refine hK _ _ ?_); clear hK K) | ((first | (with_reducible refine AX_reg0 fun K hK => ?_) | (refine AX_drawG1 tyOK (by kernel_rfl) (by rfl) (by kernel_rfl) fun K hK => ?_) | (refine AX_drawT tyOK (by kernel_rfl) (by decide +kernel) fun K hK => ?_) | (refine AX_drawM1 (by kernel_rfl) (by rfl) (by decide +kernel) fun K hK => ?_) | (refine AX_drawA tyOK (by kernel_rfl) (by decide +kernel) fun K hK => ?_)); (first | simp only [go_sem, preN, effOp, runF, alM, mapOp, alD2, kdOf2, Bool.not_false, Bool.not_true, reduceCtorEq] | simp only [go_sem, preN, effOp, runF, alM, mapOp, Bool.not_false, Bool.not_true, reduceCtorEq] | simp only [go_sem, preN, effOp, runF, alD2, kdOf2, Bool.not_false, Bool.not_true, reduceCtorEq] | simp only [go_sem, alD2, kdOf2, Bool.not_false, Bool.not_true, reduceCtorEq] | simp only [go_sem, preN, effOp, runF, Bool.not_false, Bool.not_true, reduceCtorEq] | simp only [go_sem])))); refine Wk.o ?_; (repeat revert hK K); exact h9)) : A := w h9
set_option maxRecDepth 100000 in
set_option maxHeartbeats 1000000 in
theorem pf_flag : PF Try.prog 23 [] fun r H' => r = fg2A ∧ H' = [] := by
  refine SF.frozen ?_
  (refine SF_of_bodyX (aload tt) (aload_ok tyOK) Try.func23 rfl (by kernel_rfl) ?_; simp only [Try.ntmps23, List.length_cons, List.length_nil, Nat.reduceAdd, Nat.reduceSub, List.replicate_succ, List.replicate_zero, List.cons_append, List.nil_append])
  repeat (first | (first | (with_reducible first | refine AX_block ?_ | refine AX_skip ?_ | refine AX_exit ?_ | refine AX_ret ?_ | refine AX_ift ?_ | refine AX_iff ?_ | refine AX_seq_k (fun K hK => ?_) | refine ContX.use (by assumption) ?_) | simp only [thenX, inBlockX, if_true, if_false, reduceCtorEq]) | ((first | (refine XRes_litF tyOK (by rfl) rfl (by decide) rfl rfl ?_) | (refine ADF_litF tyOK (by rfl) rfl (by decide) rfl rfl ?_)); (simp only [List.map_cons, List.map_nil, intOf, putL, List.set_cons_succ, List.set_cons_zero])) | (first | ((first | (with_reducible refine XRes_op tyOK ?_ ?_) | ((with_reducible first | refine ADF_op tyOK ?_ ?_ ?_ | refine ADX_op tyOK ?_ ?_ ?_); (focus rfl)) | (with_reducible refine ADR_alloc1 tyOK ?_ ?_) | ((with_reducible refine ADR_free1 tyOK ?_ ?_ ?_); (focus rfl)) | ((with_reducible refine ADR_free0 tyOK ?_ ?_ ?_); (focus rfl)) | ((with_reducible refine ADR_read1 tyOK ?_ ?_ ?_); (focus rfl)) | (with_reducible refine ADR_chg1 tyOK ?_ ?_)); (focus (first | (with_reducible rfl) | ((simp (disch := omega) only [go_sem]); done))); simp (disch := omega) only [go_sem , iFlat, iInts, List.getD_cons_zero, List.getD_cons_succ, Int.reduceToNat, Int.toNat_zero, Int.toNat_one, Nat.zero_mul, Nat.one_mul, Nat.zero_add, Nat.reduceMul, Nat.reduceAdd, Nat.reduceSub]; (first | (with_reducible refine XRes_id ?_) | (with_reducible refine ADF_id ?_) | (with_reducible refine ADR_id1 ?_) | (with_reducible refine ADX_id ?_))) | ((first | (with_reducible refine XRes_skip ?_ ?_) | (with_reducible refine ADF_skip (b := true) ?_ ?_) | (with_reducible refine ADX_skip ?_ ?_) | ((with_reducible refine ADR_skip1 ?_ ?_ ?_); (focus rfl))); (focus (first | rfl | ((simp (disch := omega) only [go_sem]); done))); (simp only [putL, List.set_cons_succ, List.set_cons_zero]))) | ((first | (with_reducible refine XRes_nil ?_) | (with_reducible refine ADF_nil ?_) | (with_reducible refine ADR_nil ?_) | (with_reducible refine ADX_nil ?_)); (first | refine hK _ ?_ | refine hK _ _ ?_); clear hK K) | ((refine AX_drawG tyOK (by kernel_rfl) (by kernel_rfl) fun K hK => ?_); (simp only [dsts, lapp_cons, lapp_nil, List.map_cons, List.map_nil, strip_mk, strip_gd, gix_some, List.getElem?_cons_succ, List.getElem?_cons_zero, Nat.reduceAdd])) | ((first | (with_reducible refine AX_reg0 fun K hK => ?_) | (refine AX_drawG1 tyOK (by kernel_rfl) (by rfl) (by kernel_rfl) fun K hK => ?_) | (refine AX_drawT tyOK (by kernel_rfl) (by decide +kernel) fun K hK => ?_) | (refine AX_drawM1 (by kernel_rfl) (by rfl) (by decide +kernel) fun K hK => ?_) | (refine AX_drawA tyOK (by kernel_rfl) (by decide +kernel) fun K hK => ?_)); (first | simp only [go_sem, preN, effOp, runF, alM, mapOp, alD2, kdOf2, Bool.not_false, Bool.not_true, reduceCtorEq] | simp only [go_sem, preN, effOp, runF, alM, mapOp, Bool.not_false, Bool.not_true, reduceCtorEq] | simp only [go_sem, preN, effOp, runF, alD2, kdOf2, Bool.not_false, Bool.not_true, reduceCtorEq] | simp only [go_sem, alD2, kdOf2, Bool.not_false, Bool.not_true, reduceCtorEq] | simp only [go_sem, preN, effOp, runF, Bool.not_false, Bool.not_true, reduceCtorEq] | simp only [go_sem])))
  (simp only [bodyX]; refine ⟨_, by simp only [aresults, aresult, XS.as, Try.results23, aload, go_sem, Option.bind_some]; rfl, ?_⟩)
  exact ⟨_, .same _ (ids_idB rfl), rfl, trivial⟩
set_option maxRecDepth 100000 in
set_option maxHeartbeats 1000000 in
theorem pf_flagO : PF Try.prog 23 [] fun r H' => r = .agg [lt (.int .i64 2), lt (.int .i64 2), lt (.int .i64 0), .osl 1 0 3 4] ∧ H' = [some ⟨24, [lt (.int .i64 2), lt (.int .i64 2), lt (.int .i64 0), .osl 1 0 3 4]⟩, some ⟨43, [lt (.int .i64 0), lt (.int .i64 0), lt (.int .i64 1), lt (.int .i64 0), lt (.int .i64 0), lt (.int .i64 1), lt (.int .i64 0), lt (.int .i64 0), lt (.int .i64 1), lt (.int .i64 1), lt (.int .i64 1), lt (.int .i64 1)]⟩] := by
  (refine SF_of_bodyX (aload tt) (aload_ok tyOK) Try.func23 rfl (by kernel_rfl) ?_; simp only [Try.ntmps23, List.length_cons, List.length_nil, Nat.reduceAdd, Nat.reduceSub, List.replicate_succ, List.replicate_zero, List.cons_append, List.nil_append])
  repeat (first | (first | (with_reducible first | refine AX_block ?_ | refine AX_skip ?_ | refine AX_exit ?_ | refine AX_ret ?_ | refine AX_ift ?_ | refine AX_iff ?_ | refine AX_seq_k (fun K hK => ?_) | refine ContX.use (by assumption) ?_) | simp only [thenX, inBlockX, if_true, if_false, reduceCtorEq]) | (first | ((first | (with_reducible refine XRes_op tyOK ?_ ?_) | ((with_reducible first | refine ADF_op tyOK ?_ ?_ ?_ | refine ADX_op tyOK ?_ ?_ ?_); (focus rfl)) | (with_reducible refine ADR_alloc1 tyOK ?_ ?_) | ((with_reducible refine ADR_free1 tyOK ?_ ?_ ?_); (focus rfl)) | ((with_reducible refine ADR_free0 tyOK ?_ ?_ ?_); (focus rfl)) | ((with_reducible refine ADR_read1 tyOK ?_ ?_ ?_); (focus rfl)) | (with_reducible refine ADR_chg1 tyOK ?_ ?_)); (focus (first | (with_reducible rfl) | ((simp (disch := omega) only [go_sem]); done))); simp (disch := omega) only [go_sem , iFlat, iInts, List.getD_cons_zero, List.getD_cons_succ, Int.reduceToNat, Int.toNat_zero, Int.toNat_one, Nat.zero_mul, Nat.one_mul, Nat.zero_add, Nat.reduceMul, Nat.reduceAdd, Nat.reduceSub]; (first | (with_reducible refine XRes_id ?_) | (with_reducible refine ADF_id ?_) | (with_reducible refine ADR_id1 ?_) | (with_reducible refine ADX_id ?_))) | ((first | (with_reducible refine XRes_skip ?_ ?_) | (with_reducible refine ADF_skip (b := true) ?_ ?_) | (with_reducible refine ADX_skip ?_ ?_) | ((with_reducible refine ADR_skip1 ?_ ?_ ?_); (focus rfl))); (focus (first | rfl | ((simp (disch := omega) only [go_sem]); done))); (simp only [putL, List.set_cons_succ, List.set_cons_zero]))) | ((first | (with_reducible refine XRes_nil ?_) | (with_reducible refine ADF_nil ?_) | (with_reducible refine ADR_nil ?_) | (with_reducible refine ADX_nil ?_)); (first | refine hK _ ?_ | refine hK _ _ ?_); clear hK K) | ((refine AX_drawG tyOK (by kernel_rfl) (by kernel_rfl) fun K hK => ?_); (simp only [dsts, lapp_cons, lapp_nil, List.map_cons, List.map_nil, strip_mk, strip_gd, gix_some, List.getElem?_cons_succ, List.getElem?_cons_zero, Nat.reduceAdd])) | ((first | (with_reducible refine AX_reg0 fun K hK => ?_) | (refine AX_drawG1 tyOK (by kernel_rfl) (by rfl) (by kernel_rfl) fun K hK => ?_) | (refine AX_drawT tyOK (by kernel_rfl) (by decide +kernel) fun K hK => ?_) | (refine AX_drawM1 (by kernel_rfl) (by rfl) (by decide +kernel) fun K hK => ?_) | (refine AX_drawA tyOK (by kernel_rfl) (by decide +kernel) fun K hK => ?_)); (first | simp only [go_sem, preN, effOp, runF, alM, mapOp, alD2, kdOf2, Bool.not_false, Bool.not_true, reduceCtorEq] | simp only [go_sem, preN, effOp, runF, alM, mapOp, Bool.not_false, Bool.not_true, reduceCtorEq] | simp only [go_sem, preN, effOp, runF, alD2, kdOf2, Bool.not_false, Bool.not_true, reduceCtorEq] | simp only [go_sem, alD2, kdOf2, Bool.not_false, Bool.not_true, reduceCtorEq] | simp only [go_sem, preN, effOp, runF, Bool.not_false, Bool.not_true, reduceCtorEq] | simp only [go_sem])))
  (simp only [bodyX]; refine ⟨_, by simp only [aresults, aresult, XS.as, Try.results23, aload, go_sem, Option.bind_some]; rfl, ?_⟩)
  exact ⟨rfl, trivial⟩
theorem snap_obj {H : AHeap} {a b c : Int} {o n : Nat} {t : TypeId} {R : List Rw} (ho : H[o]? = some (some ⟨t, (flatR R).map lint⟩)) (hn : n = R.length) : Snap H (.agg [lt (.int .i64 a), lt (.int .i64 b), lt (.int .i64 c), .osl o 0 n 4]) (obA ⟨a, b, c, R⟩) := by
  subst hn
  have hfl := flatR_len R
  refine .agg _ _ rfl (fun i x y h1 h2 => ?_) rfl
  match i with
  | 0 => simp at h1 h2; subst h1 h2; exact .same _ (.iv _)
  | 1 => simp at h1 h2; subst h1 h2; exact .same _ (.iv _)
  | 2 => simp at h1 h2; subst h1 h2; exact .same _ (.iv _)
  | 3 =>
    simp at h1 h2; subst h1 h2
    refine .iv _ _ (.osl o 0 R.length 4 _ ⟨t, (flatR R).map lint⟩ (fun j => lt (.int .i64 ((flatR R).getD j 0))) (by omega) ho (fun j hj => ?_) fun j _ => .iv _)
    rw [Nat.zero_add]; exact lint_at (by omega)
  | i + 4 => simp at h1
set_option maxRecDepth 100000 in
set_option maxHeartbeats 8000000 in
theorem pf_awake23 : PF Try.prog 7 [] fun r H' => r = lt (.bool true) ∧ H' = [] := by
  refine SF.forgetAll ?_
  (refine SF_of_bodyX (aload tt) (aload_ok tyOK) Try.func7 rfl (by kernel_rfl) ?_; simp only [Try.ntmps7, List.length_cons, List.length_nil, Nat.reduceAdd, Nat.reduceSub, List.replicate_succ, List.replicate_zero, List.cons_append, List.nil_append])
  (refine Wk.o ?_; (repeat revert hK K); refine W6242a ?_; (repeat intro K hK); refine ⟨?_⟩)
  (first | refine XTL (by rfl) pf_flag ?_ | refine ATL tyOK (by rfl) pf_flag ?_)
  (first | refine XTL (by rfl) q_fChk ?_ | refine ATL tyOK (by rfl) q_fChk ?_)
  (refine Wk.o ?_; (repeat revert hK K); refine W6242a ?_; (repeat intro K hK); refine ⟨?_⟩)
  (first | refine XTL (by rfl) pf_flag ?_ | refine ATL tyOK (by rfl) pf_flag ?_)
  (first | refine XTL (by rfl) (q_mv 0 0 1 0 true (by decide +kernel) (by decide +kernel) (by decide +kernel)) ?_ | refine ATL tyOK (by rfl) (q_mv 0 0 1 0 true (by decide +kernel) (by decide +kernel) (by decide +kernel)) ?_)
  (refine Wk.o ?_; (repeat revert hK K); refine W6242a ?_; (repeat intro K hK); refine ⟨?_⟩)
  (first | refine XTL (by rfl) pf_flag ?_ | refine ATL tyOK (by rfl) pf_flag ?_)
  (first | refine XTL (by rfl) (q_mv 1 0 0 0 false (by decide +kernel) (by decide +kernel) (by decide +kernel)) ?_ | refine ATL tyOK (by rfl) (q_mv 1 0 0 0 false (by decide +kernel) (by decide +kernel) (by decide +kernel)) ?_)
  (refine Wk.o ?_; (repeat revert hK K); refine W6242a ?_; (repeat intro K hK); refine ⟨?_⟩)
  refine XRes_fn (by rfl) pf_flagO ?_
  rintro r H' ⟨rfl, rfl⟩
  (simp only [putL, List.set_cons_succ, List.set_cons_zero])
  (refine Wk.o ?_; (repeat revert hK K); refine W6242a ?_; (repeat intro K hK); refine ⟨?_⟩)
  refine XRes_fn (by rfl) (PF.says2 (SnapL.cons (snap_obj (a := 2) (b := 2) (c := 0) (o := 1) (n := 3) (t := 43) (R := fgB.R) rfl rfl) (SnapL.nil _)) q_bChk) ?_
  rintro r H' ⟨rfl, rfl⟩
  (simp only [putL, List.set_cons_succ, List.set_cons_zero])
  repeat (first | (first | (with_reducible first | refine AX_block ?_ | refine AX_skip ?_ | refine AX_exit ?_ | refine AX_ret ?_ | refine AX_ift ?_ | refine AX_iff ?_ | refine AX_seq_k (fun K hK => ?_) | refine ContX.use (by assumption) ?_) | simp only [thenX, inBlockX, if_true, if_false, reduceCtorEq]) | ((first | (refine XRes_litF tyOK (by rfl) rfl (by decide) rfl rfl ?_) | (refine ADF_litF tyOK (by rfl) rfl (by decide) rfl rfl ?_)); (simp only [List.map_cons, List.map_nil, intOf, putL, List.set_cons_succ, List.set_cons_zero])) | (first | (first | refine XTL (by rfl) pf_flag ?_ | refine ATL tyOK (by rfl) pf_flag ?_ | refine XTL (by rfl) q_oChk ?_ | refine ATL tyOK (by rfl) q_oChk ?_ | refine XTL (by rfl) q_re ?_ | refine ATL tyOK (by rfl) q_re ?_ | refine XTL (by rfl) q_de ?_ | refine ATL tyOK (by rfl) q_de ?_ | refine XTL (by rfl) (q_SI23 [0, 1] (by decide)) ?_ | refine ATL tyOK (by rfl) (q_SI23 [0, 1] (by decide)) ?_ | refine XTL (by rfl) (q_SI23 [2] (by decide)) ?_ | refine ATL tyOK (by rfl) (q_SI23 [2] (by decide)) ?_ | refine XTL (by rfl) q_sm1 ?_ | refine ATL tyOK (by rfl) q_sm1 ?_ | refine XTL (by rfl) q_sm2 ?_ | refine ATL tyOK (by rfl) q_sm2 ?_ | refine XTL (by rfl) q_srt ?_ | refine ATL tyOK (by rfl) q_srt ?_ | refine XTL (by rfl) q_SR ?_ | refine ATL tyOK (by rfl) q_SR ?_)) | (first | ((first | (with_reducible refine XRes_op tyOK ?_ ?_) | ((with_reducible first | refine ADF_op tyOK ?_ ?_ ?_ | refine ADX_op tyOK ?_ ?_ ?_); (focus rfl)) | (with_reducible refine ADR_alloc1 tyOK ?_ ?_) | ((with_reducible refine ADR_free1 tyOK ?_ ?_ ?_); (focus rfl)) | ((with_reducible refine ADR_free0 tyOK ?_ ?_ ?_); (focus rfl)) | ((with_reducible refine ADR_read1 tyOK ?_ ?_ ?_); (focus rfl)) | (with_reducible refine ADR_chg1 tyOK ?_ ?_)); (focus (first | (with_reducible rfl) | ((simp (disch := omega) only [go_sem]); done))); simp (disch := omega) only [go_sem , iFlat, iInts, List.getD_cons_zero, List.getD_cons_succ, Int.reduceToNat, Int.toNat_zero, Int.toNat_one, Nat.zero_mul, Nat.one_mul, Nat.zero_add, Nat.reduceMul, Nat.reduceAdd, Nat.reduceSub]; (first | (with_reducible refine XRes_id ?_) | (with_reducible refine ADF_id ?_) | (with_reducible refine ADR_id1 ?_) | (with_reducible refine ADX_id ?_))) | ((first | (with_reducible refine XRes_skip ?_ ?_) | (with_reducible refine ADF_skip (b := true) ?_ ?_) | (with_reducible refine ADX_skip ?_ ?_) | ((with_reducible refine ADR_skip1 ?_ ?_ ?_); (focus rfl))); (focus (first | rfl | ((simp (disch := omega) only [go_sem]); done))); (simp only [putL, List.set_cons_succ, List.set_cons_zero]))) | ((first | (with_reducible refine XRes_nil ?_) | (with_reducible refine ADF_nil ?_) | (with_reducible refine ADR_nil ?_) | (with_reducible refine ADX_nil ?_)); (first | refine hK _ ?_ | refine hK _ _ ?_); clear hK K) | ((refine AX_drawG tyOK (by kernel_rfl) (by kernel_rfl) fun K hK => ?_); (simp only [dsts, lapp_cons, lapp_nil, List.map_cons, List.map_nil, strip_mk, strip_gd, gix_some, List.getElem?_cons_succ, List.getElem?_cons_zero, Nat.reduceAdd])) | ((first | (with_reducible refine AX_reg0 fun K hK => ?_) | (refine AX_drawG1 tyOK (by kernel_rfl) (by rfl) (by kernel_rfl) fun K hK => ?_) | (refine AX_drawT tyOK (by kernel_rfl) (by decide +kernel) fun K hK => ?_) | (refine AX_drawM1 (by kernel_rfl) (by rfl) (by decide +kernel) fun K hK => ?_) | (refine AX_drawA tyOK (by kernel_rfl) (by decide +kernel) fun K hK => ?_)); (first | simp only [go_sem, preN, effOp, runF, alM, mapOp, alD2, kdOf2, Bool.not_false, Bool.not_true, reduceCtorEq] | simp only [go_sem, preN, effOp, runF, alM, mapOp, Bool.not_false, Bool.not_true, reduceCtorEq] | simp only [go_sem, preN, effOp, runF, alD2, kdOf2, Bool.not_false, Bool.not_true, reduceCtorEq] | simp only [go_sem, alD2, kdOf2, Bool.not_false, Bool.not_true, reduceCtorEq] | simp only [go_sem, preN, effOp, runF, Bool.not_false, Bool.not_true, reduceCtorEq] | simp only [go_sem])))
  (simp only [bodyX]; refine ⟨_, by simp only [aresults, aresult, XS.as, Try.results7, aload, go_sem, Option.bind_some]; rfl, ?_⟩)
  exact ⟨.iv _, rfl, trivial⟩
end Go.Proofs.Ytpfbcjlgbdbcpaa
namespace Go.Proofs.Ytpfbcjlgbdbcpaa
open Go.RowKit
set_option linter.unusedVariables false
set_option linter.unusedSimpArgs false
set_option maxRecDepth 100000 in
set_option maxHeartbeats 1000000 in
theorem pf_has (xs : List Int) (v : Int) (hx : xs.length ≤ 1000000) : PF Try.prog 22 [.iv (iInts xs), lt (.int .i64 v)] fun r H' => r = lt (.bool (decide (v ∈ xs))) ∧ H' = [] := by
  refine SF.forgetAll ?_
  (refine SF_of_bodyX (aload tt) (aload_ok tyOK) Try.func22 rfl (by kernel_rfl) ?_; simp only [Try.ntmps22, List.length_cons, List.length_nil, Nat.reduceAdd, Nat.reduceSub, List.replicate_succ, List.replicate_zero, List.cons_append, List.nil_append])
  unfold iInts
  (repeat (first | (first | (with_reducible first | refine AX_block ?_ | refine AX_skip ?_ | refine AX_exit ?_ | refine AX_ret ?_ | refine AX_ift ?_ | refine AX_iff ?_ | refine AX_seq_k (fun K hK => ?_) | refine ContX.use (by assumption) ?_) | simp only [thenX, inBlockX, if_true, if_false, reduceCtorEq]) | (first | ((first | (with_reducible refine XRes_op tyOK ?_ ?_) | ((with_reducible first | refine ADF_op tyOK ?_ ?_ ?_ | refine ADX_op tyOK ?_ ?_ ?_); (focus rfl)) | (with_reducible refine ADR_alloc1 tyOK ?_ ?_) | ((with_reducible refine ADR_free1 tyOK ?_ ?_ ?_); (focus rfl)) | ((with_reducible refine ADR_free0 tyOK ?_ ?_ ?_); (focus rfl)) | ((with_reducible refine ADR_read1 tyOK ?_ ?_ ?_); (focus rfl)) | (with_reducible refine ADR_chg1 tyOK ?_ ?_)); (focus (first | (with_reducible rfl) | ((simp (disch := omega) only [go_sem]); done))); simp (disch := omega) only [go_sem , iFlat, iInts]; (first | (with_reducible refine XRes_id ?_) | (with_reducible refine ADF_id ?_) | (with_reducible refine ADR_id1 ?_) | (with_reducible refine ADX_id ?_))) | ((first | (with_reducible refine XRes_skip ?_ ?_) | (with_reducible refine ADF_skip (b := true) ?_ ?_) | (with_reducible refine ADX_skip ?_ ?_) | ((with_reducible refine ADR_skip1 ?_ ?_ ?_); (focus rfl))); (focus (first | rfl | ((simp (disch := omega) only [go_sem]); done))); (simp only [putL, List.set_cons_succ, List.set_cons_zero]))) | ((first | (with_reducible refine XRes_nil ?_) | (with_reducible refine ADF_nil ?_) | (with_reducible refine ADR_nil ?_) | (with_reducible refine ADX_nil ?_)); (first | refine hK _ ?_ | refine hK _ _ ?_); clear hK K) | ((first | (with_reducible refine AX_reg0 fun K hK => ?_) | (refine AX_drawG1 tyOK (by kernel_rfl) (by rfl) (by kernel_rfl) fun K hK => ?_) | (refine AX_drawT tyOK (by kernel_rfl) (by decide +kernel) fun K hK => ?_) | (refine AX_drawM1 (by kernel_rfl) (by rfl) (by decide +kernel) fun K hK => ?_) | (refine AX_drawA tyOK (by kernel_rfl) (by decide +kernel) fun K hK => ?_)); (first | simp only [go_sem, preN, effOp, runF, alM, mapOp, alD2, kdOf2, Bool.not_false, Bool.not_true, reduceCtorEq] | simp only [go_sem, preN, effOp, runF, alM, mapOp, Bool.not_false, Bool.not_true, reduceCtorEq] | simp only [go_sem, preN, effOp, runF, alD2, kdOf2, Bool.not_false, Bool.not_true, reduceCtorEq] | simp only [go_sem, alD2, kdOf2, Bool.not_false, Bool.not_true, reduceCtorEq] | simp only [go_sem, preN, effOp, runF, Bool.not_false, Bool.not_true, reduceCtorEq] | simp only [go_sem])) | fail))
  (refine AWH (σ := Nat) [6, 7, 8, 9, 12, 13, 14, 15, 16, 17, 4, 10, 11] (fun k => [(5, lint k)]) (fun k => []) (fun k => []) (fun k => k ≤ xs.length ∧ ∀ j, j < k → xs.getD j 0 ≠ v) (fun k => xs.length - k) 0 (by first | exact ⟨Nat.zero_le _, fun j h => absurd h (by omega)⟩) ?_; rintro k d fr hfr ⟨hk, hj⟩; simp only [updS, deadS, List.set_cons_succ, List.set_cons_zero, lint] at hfr; subst hfr; (try dsimp only))
  (repeat' (first | (first | (with_reducible first | refine AX_block ?_ | refine AX_skip ?_ | refine AX_exit ?_ | refine AX_ret ?_ | refine AX_ift ?_ | refine AX_iff ?_ | refine AX_seq_k (fun K hK => ?_) | refine ContX.use (by assumption) ?_) | simp only [thenX, inBlockX, if_true, if_false, reduceCtorEq]) | (first | ((first | (with_reducible refine XRes_op tyOK ?_ ?_) | ((with_reducible first | refine ADF_op tyOK ?_ ?_ ?_ | refine ADX_op tyOK ?_ ?_ ?_); (focus rfl)) | (with_reducible refine ADR_alloc1 tyOK ?_ ?_) | ((with_reducible refine ADR_free1 tyOK ?_ ?_ ?_); (focus rfl)) | ((with_reducible refine ADR_free0 tyOK ?_ ?_ ?_); (focus rfl)) | ((with_reducible refine ADR_read1 tyOK ?_ ?_ ?_); (focus rfl)) | (with_reducible refine ADR_chg1 tyOK ?_ ?_)); (focus (first | (with_reducible rfl) | ((simp (disch := omega) only [go_sem]); done))); simp (disch := omega) only [go_sem , iFlat, iInts]; (first | (with_reducible refine XRes_id ?_) | (with_reducible refine ADF_id ?_) | (with_reducible refine ADR_id1 ?_) | (with_reducible refine ADX_id ?_))) | ((first | (with_reducible refine XRes_skip ?_ ?_) | (with_reducible refine ADF_skip (b := true) ?_ ?_) | (with_reducible refine ADX_skip ?_ ?_) | ((with_reducible refine ADR_skip1 ?_ ?_ ?_); (focus rfl))); (focus (first | rfl | ((simp (disch := omega) only [go_sem]); done))); (simp only [putL, List.set_cons_succ, List.set_cons_zero]))) | ((first | (with_reducible refine XRes_nil ?_) | (with_reducible refine ADF_nil ?_) | (with_reducible refine ADR_nil ?_) | (with_reducible refine ADX_nil ?_)); (first | refine hK _ ?_ | refine hK _ _ ?_); clear hK K) | ((first | (with_reducible refine AX_reg0 fun K hK => ?_) | (refine AX_drawG1 tyOK (by kernel_rfl) (by rfl) (by kernel_rfl) fun K hK => ?_) | (refine AX_drawT tyOK (by kernel_rfl) (by decide +kernel) fun K hK => ?_) | (refine AX_drawM1 (by kernel_rfl) (by rfl) (by decide +kernel) fun K hK => ?_) | (refine AX_drawA tyOK (by kernel_rfl) (by decide +kernel) fun K hK => ?_)); (first | simp only [go_sem, preN, effOp, runF, alM, mapOp, alD2, kdOf2, Bool.not_false, Bool.not_true, reduceCtorEq] | simp only [go_sem, preN, effOp, runF, alM, mapOp, Bool.not_false, Bool.not_true, reduceCtorEq] | simp only [go_sem, preN, effOp, runF, alD2, kdOf2, Bool.not_false, Bool.not_true, reduceCtorEq] | simp only [go_sem, alD2, kdOf2, Bool.not_false, Bool.not_true, reduceCtorEq] | simp only [go_sem, preN, effOp, runF, Bool.not_false, Bool.not_true, reduceCtorEq] | simp only [go_sem])) | fail | ((first | (refine XRes_splitG (by rfl) (fun hc => ?_) (fun hc => ?_)) | (refine ADF_splitG (by rfl) (fun hc => ?_) (fun hc => ?_))) <;> (try simp only [eqRes, List.cons_beq_cons, Bool.and_eq_true, Bool.not_eq_true, Bool.and_eq_false_iff, decide_eq_true_eq, decide_eq_false_iff_not, bne_iff_ne, beq_iff_eq, bne_eq_false_iff_eq, beq_eq_false_iff_ne, Bool.not_eq_true', Bool.not_eq_false', ne_eq, Int.not_lt, Int.not_le, Decidable.not_not] at hc) <;> simp only [List.set_cons_succ, List.set_cons_zero]) | (first | ((with_reducible refine AX_if_t ?_ ?_); focus (simp (disch := omega) only [go_sem , iFlat, iInts]; done)) | ((with_reducible refine AX_if_f ?_ ?_); focus (simp (disch := omega) only [go_sem , iFlat, iInts]; done)) | (refine AX_cond _ (by rfl) (fun hc => ?_) (fun hc => ?_) <;> (try simp only [eqRes, List.cons_beq_cons, Bool.and_eq_true, Bool.not_eq_true, Bool.and_eq_false_iff, decide_eq_true_eq, decide_eq_false_iff_not, bne_iff_ne, beq_iff_eq, bne_eq_false_iff_eq, beq_eq_false_iff_ne, Bool.not_eq_true', Bool.not_eq_false', ne_eq, Int.not_lt, Int.not_le, Decidable.not_not] at hc)))))
  · (simp only [bodyX]; refine ⟨_, by simp only [aresults, aresult, XS.as, Try.results22, aload, go_sem, Option.bind_some]; rfl, ?_⟩)
    have hm : v ∈ xs := by
      have hlt : k < xs.length := by omega
      rw [List.getD_eq_getElem?_getD, List.getElem?_eq_getElem hlt] at hc
      have e : xs[k] = v := hc
      rw [← e]; exact List.getElem_mem hlt
    exact ⟨.iv _, by rw [decide_eq_true hm], trivial⟩
  · refine WEND (k + 1) ⟨by omega, fun j hj2 => ?_⟩ (by (first | omega | (dsimp only; omega) | (simp only; omega)))
    rcases Nat.lt_or_ge j k with h | h
    · exact hj j h
    · rw [show j = k by omega]; exact hc
  · (simp only [bodyX]; refine ⟨_, by simp only [aresults, aresult, XS.as, Try.results22, aload, go_sem, Option.bind_some]; rfl, ?_⟩)
    have hm : ¬ v ∈ xs := fun h => by
      obtain ⟨j, hj2, e⟩ := List.mem_iff_getElem.1 h
      refine hj j (by omega) ?_
      rw [List.getD_eq_getElem?_getD, List.getElem?_eq_getElem hj2]; exact e
    exact ⟨.iv _, by rw [decide_eq_false hm], trivial⟩
end Go.Proofs.Ytpfbcjlgbdbcpaa
