import Derived.Test.YtcjnikkmjhagmaaGreatDoorMgBR
import Derived.Test.YtcjnikkmjhagmaaGreatDoorMgAW
import Derived.Test.YtcjnikkmjhagmaaGreatDoorMgAT
namespace Go.Proofs.YtcjnikkmjhagmaaGreatDoor
open Go.RowKit
set_option linter.unusedVariables false
set_option linter.unusedSimpArgs false
set_option maxRecDepth 100000 in
set_option maxHeartbeats 2000000 in
theorem sf_first2 (c : List Int) (M : List Bool) (x0 x1 : Option AObj) (hc : c.length ≤ 1000000) (hM : M.length ≤ 1000000) : SF Tryz.prog 104 [.iv (iInts c), .optr 2 0] [x0, x1, some ⟨136, [.fn 101 [] [.iv (mCap M)]]⟩] fun r H' => r = lt (.bool (!(hoB c M))) ∧ H' = [x0, x1, some ⟨136, [.fn 101 [] [.iv (mCap M)]]⟩] := by
  have hs1 := trivial; have hs2 := trivial; have hs3 := trivial; have hcl := trivial
  have hC := pf_ctI c _ _ (litT M) hc fun x => pf_litT x M hM
  rw [show c.any (litT M) = hoB c M from rfl] at hC
  generalize hoB c M = B at *
  (refine SF_of_bodyX (aload tt) (aload_ok tyOK) Tryz.func104 rfl (by kernel_rfl) ?_; simp only [Tryz.ntmps104, List.length_cons, List.length_nil, Nat.reduceAdd, Nat.reduceSub, List.replicate_succ, List.replicate_zero, List.cons_append, List.nil_append])
  (repeat (first | (first | (with_reducible first | refine AX_block ?_ | refine AX_skip ?_ | refine AX_exit ?_ | refine AX_ret ?_ | refine AX_ift ?_ | refine AX_iff ?_ | refine AX_seq_k (fun K hK => ?_) | refine ContX.use (by assumption) ?_) | simp only [thenX, inBlockX, if_true, if_false, reduceCtorEq]) | (first | ((with_reducible refine XOP tyOK ?_); simp (disch := omega) only [go_sem , hs1, hs2, hs3, iRows, iBools, lint, List.length_nil]; (with_reducible refine XRes_id ?_)) | (with_reducible refine XSK ?_)) | ((with_reducible refine XRes_nil ?_); refine hK _ ?_; clear hK K) | ((with_reducible refine AX_reg0 fun K hK => ?_); simp only [go_sem]) | (first | (first | refine XTL (by rfl) hC ?_) | ((refine XRes_slot (by rfl) rfl hcl ?_); (rintro r H' ⟨rfl, rfl⟩); (simp only [putL, List.set_cons_succ, List.set_cons_zero])))))
  (simp only [bodyX]; refine ⟨_, by simp only [aresults, aresult, XS.as, Tryz.results104, aload, go_sem, Option.bind_some]; rfl, ?_⟩)
  exact ⟨rfl, trivial⟩
set_option maxRecDepth 100000 in
set_option maxHeartbeats 2000000 in
theorem sf_ixRows (R : List (List Int)) (M : List Bool) (x0 x1 : Option AObj) (hR : R.length ≤ 1000000) (hr : ∀ k, (R.getD k []).length ≤ 1000000) (hM : M.length ≤ 1000000) : SF Tryz.prog 103 [.iv (iRows R), .fn 104 [] [.optr 2 0]] [x0, x1, some ⟨136, [.fn 101 [] [.iv (mCap M)]]⟩] fun r H' => r = lt (.int .i64 (fiR R M)) ∧ H' = [x0, x1, some ⟨136, [.fn 101 [] [.iv (mCap M)]]⟩] := by
  have hs1 := trivial; have hs2 := trivial; have hs3 := trivial; have hcl := trivial; have hC := trivial
  have hq := fun k => sf_first2 (R.getD k []) M x0 x1 (hr k) hM
  (refine SF_of_bodyX (aload tt) (aload_ok tyOK) Tryz.func103 rfl (by kernel_rfl) ?_; simp only [Tryz.ntmps103, List.length_cons, List.length_nil, Nat.reduceAdd, Nat.reduceSub, List.replicate_succ, List.replicate_zero, List.cons_append, List.nil_append])
  unfold iRows
  (repeat (first | (first | (with_reducible first | refine AX_block ?_ | refine AX_skip ?_ | refine AX_exit ?_ | refine AX_ret ?_ | refine AX_ift ?_ | refine AX_iff ?_ | refine AX_seq_k (fun K hK => ?_) | refine ContX.use (by assumption) ?_) | simp only [thenX, inBlockX, if_true, if_false, reduceCtorEq]) | (first | ((with_reducible refine XOP tyOK ?_); simp (disch := omega) only [go_sem , hs1, hs2, hs3, iRows, iBools, lint, List.length_nil]; (with_reducible refine XRes_id ?_)) | (with_reducible refine XSK ?_)) | ((with_reducible refine XRes_nil ?_); refine hK _ ?_; clear hK K) | ((with_reducible refine AX_reg0 fun K hK => ?_); simp only [go_sem]) | (first | (first | refine XTL (by rfl) hC ?_) | ((refine XRes_slot (by rfl) rfl hcl ?_); (rintro r H' ⟨rfl, rfl⟩); (simp only [putL, List.set_cons_succ, List.set_cons_zero])))))
  (refine AWH (σ := Nat) [9, 10, 5, 11, 12, 13, 14, 15, 16, 17, 4, 18] (fun k => [(8, lint k)]) (fun k => [x0, x1, some ⟨136, [.fn 101 [] [.iv (mCap M)]]⟩]) (fun k => []) (fun k => k ≤ R.length ∧ ∀ j, j < k → fiE R M j = 0) (fun k => R.length - k) 0 (by first | exact ⟨Nat.zero_le _, fun j h => absurd h (by omega)⟩) ?_; rintro k d fr hfr ⟨hk, hj⟩; simp only [updS, deadS, List.set_cons_succ, List.set_cons_zero, lint] at hfr; subst hfr; (try dsimp only))
  by_cases hlt : k < R.length
  · have hcl := hq k
    have hE : fiE R M k = if hoB (R.getD k []) M = true then 0 else 1 := rfl
    cases hp : hoB (R.getD k []) M with
    | true =>
      rw [hp] at hcl hE
      rw [if_pos rfl] at hE
      (repeat (first | (first | (with_reducible first | refine AX_block ?_ | refine AX_skip ?_ | refine AX_exit ?_ | refine AX_ret ?_ | refine AX_ift ?_ | refine AX_iff ?_ | refine AX_seq_k (fun K hK => ?_) | refine ContX.use (by assumption) ?_) | simp only [thenX, inBlockX, if_true, if_false, reduceCtorEq]) | (first | ((with_reducible refine XOP tyOK ?_); simp (disch := omega) only [go_sem , hs1, hs2, hs3, iRows, iBools, lint, List.length_nil]; (with_reducible refine XRes_id ?_)) | (with_reducible refine XSK ?_)) | ((with_reducible refine XRes_nil ?_); refine hK _ ?_; clear hK K) | ((with_reducible refine AX_reg0 fun K hK => ?_); simp only [go_sem]) | (first | (first | refine XTL (by rfl) hC ?_) | ((refine XRes_slot (by rfl) rfl hcl ?_); (rintro r H' ⟨rfl, rfl⟩); (simp only [putL, List.set_cons_succ, List.set_cons_zero])))))
      exact WEND (k + 1) ⟨by omega, below_q hj hE⟩ (by (first | omega | (dsimp only; omega) | (simp only; omega)))
    | false =>
      rw [hp] at hcl hE
      rw [if_neg (by decide)] at hE
      have hfb : fb (fiE R M) R.length = k := fb_at hj (by rw [hE]; decide) hlt
      (repeat (first | (first | (with_reducible first | refine AX_block ?_ | refine AX_skip ?_ | refine AX_exit ?_ | refine AX_ret ?_ | refine AX_ift ?_ | refine AX_iff ?_ | refine AX_seq_k (fun K hK => ?_) | refine ContX.use (by assumption) ?_) | simp only [thenX, inBlockX, if_true, if_false, reduceCtorEq]) | (first | ((with_reducible refine XOP tyOK ?_); simp (disch := omega) only [go_sem , hs1, hs2, hs3, iRows, iBools, lint, List.length_nil]; (with_reducible refine XRes_id ?_)) | (with_reducible refine XSK ?_)) | ((with_reducible refine XRes_nil ?_); refine hK _ ?_; clear hK K) | ((with_reducible refine AX_reg0 fun K hK => ?_); simp only [go_sem]) | (first | (first | refine XTL (by rfl) hC ?_) | ((refine XRes_slot (by rfl) rfl hcl ?_); (rintro r H' ⟨rfl, rfl⟩); (simp only [putL, List.set_cons_succ, List.set_cons_zero])))))
      (simp only [bodyX]; refine ⟨_, by simp only [aresults, aresult, XS.as, Tryz.results103, aload, go_sem, Option.bind_some]; rfl, ?_⟩)
      exact ⟨by unfold fiR; rw [hfb, if_pos hlt], trivial⟩
  · obtain rfl : k = R.length := by omega
    have hfb : fb (fiE R M) R.length = R.length := fb_all hj
    (repeat (first | (first | (with_reducible first | refine AX_block ?_ | refine AX_skip ?_ | refine AX_exit ?_ | refine AX_ret ?_ | refine AX_ift ?_ | refine AX_iff ?_ | refine AX_seq_k (fun K hK => ?_) | refine ContX.use (by assumption) ?_) | simp only [thenX, inBlockX, if_true, if_false, reduceCtorEq]) | (first | ((with_reducible refine XOP tyOK ?_); simp (disch := omega) only [go_sem , hs1, hs2, hs3, iRows, iBools, lint, List.length_nil]; (with_reducible refine XRes_id ?_)) | (with_reducible refine XSK ?_)) | ((with_reducible refine XRes_nil ?_); refine hK _ ?_; clear hK K) | ((with_reducible refine AX_reg0 fun K hK => ?_); simp only [go_sem]) | (first | (first | refine XTL (by rfl) hC ?_) | ((refine XRes_slot (by rfl) rfl hcl ?_); (rintro r H' ⟨rfl, rfl⟩); (simp only [putL, List.set_cons_succ, List.set_cons_zero])))))
    (simp only [bodyX]; refine ⟨_, by simp only [aresults, aresult, XS.as, Tryz.results103, aload, go_sem, Option.bind_some]; rfl, ?_⟩)
    exact ⟨by unfold fiR; rw [hfb, if_neg (by omega)], trivial⟩
set_option maxRecDepth 100000 in
set_option maxHeartbeats 2000000 in
theorem pf_fFirst (V : Int) (R : List (List Int)) (M : List Bool) (hR : R.length ≤ 1000000) (hr : ∀ k, (R.getD k []).length ≤ 1000000) (hM : M.length ≤ 1000000) : PF Tryz.prog 55 [aForm V R, .iv (iBools M)] fun r H' => r = lt (.int .i64 (fiR R M)) ∧ H' = [] := by
  refine SF.forgetAll ?_
  have hs1 := trivial; have hs2 := trivial; have hs3 := trivial; have hcl := trivial; have hC := trivial
  have hq := fun x0 x1 => sf_ixRows R M x0 x1 hR hr hM
  (refine SF_of_bodyX (aload tt) (aload_ok tyOK) Tryz.func55 rfl (by kernel_rfl) ?_; simp only [Tryz.ntmps55, List.length_cons, List.length_nil, Nat.reduceAdd, Nat.reduceSub, List.replicate_succ, List.replicate_zero, List.cons_append, List.nil_append])
  unfold aForm lint
  (repeat (first | (with_reducible first | refine AX_block ?_ | refine AX_skip ?_ | refine AX_exit ?_ | refine AX_ret ?_ | refine AX_ift ?_ | refine AX_iff ?_ | refine AX_seq_k (fun K hK => ?_) | refine ContX.use (by assumption) ?_) | simp only [thenX, inBlockX, if_true, if_false, reduceCtorEq]))
  ((with_reducible refine AX_reg0 fun K hK => ?_); simp only [go_sem])
  repeat (first | ((with_reducible refine XOP tyOK ?_); simp (disch := omega) only [go_sem , hs1, hs2, hs3, iRows, iBools, lint, List.length_nil]; (with_reducible refine XRes_id ?_)) | (with_reducible refine XSK ?_))
  ((with_reducible refine XRes_nil ?_); refine hK _ ?_; clear hK K)
  (repeat (first | (with_reducible first | refine AX_block ?_ | refine AX_skip ?_ | refine AX_exit ?_ | refine AX_ret ?_ | refine AX_ift ?_ | refine AX_iff ?_ | refine AX_seq_k (fun K hK => ?_) | refine ContX.use (by assumption) ?_) | simp only [thenX, inBlockX, if_true, if_false, reduceCtorEq]))
  refine AX_freeze [1] [(3, .iv (mCap M))] (fun p hp => ?_) ?_
  · rw [List.mem_singleton.1 hp]; exact frz_row (by decide) rfl
  simp only [setN, updS, List.set_cons_succ, List.set_cons_zero]
  repeat (first | (first | (with_reducible first | refine AX_block ?_ | refine AX_skip ?_ | refine AX_exit ?_ | refine AX_ret ?_ | refine AX_ift ?_ | refine AX_iff ?_ | refine AX_seq_k (fun K hK => ?_) | refine ContX.use (by assumption) ?_) | simp only [thenX, inBlockX, if_true, if_false, reduceCtorEq]) | (first | ((with_reducible refine XOP tyOK ?_); simp (disch := omega) only [go_sem , hs1, hs2, hs3, iRows, iBools, lint, List.length_nil]; (with_reducible refine XRes_id ?_)) | (with_reducible refine XSK ?_)) | ((with_reducible refine XRes_nil ?_); refine hK _ ?_; clear hK K) | ((with_reducible refine AX_reg0 fun K hK => ?_); simp only [go_sem]) | ((refine XRes_fn (by rfl) (hq _ _) ?_); (rintro r H' ⟨rfl, rfl⟩); (simp only [putL, List.set_cons_succ, List.set_cons_zero])))
  (simp only [bodyX]; refine ⟨_, by simp only [aresults, aresult, XS.as, Tryz.results55, aload, go_sem, Option.bind_some]; rfl, ?_⟩)
  exact ⟨ids_idB rfl, rfl, trivial⟩
set_option maxRecDepth 100000 in
set_option maxHeartbeats 2000000 in
theorem pf_fHolds (V : Int) (R : List (List Int)) (M : List Bool) (hR : R.length ≤ 1000000) (hr : ∀ k, (R.getD k []).length ≤ 1000000) (hM : M.length ≤ 1000000) : PF Tryz.prog 19 [aForm V R, .iv (iBools M)] fun r H' => r = lt (.bool (decide ((M.length : Int) = V ∧ fiR R M = -1))) ∧ H' = [] := by
  refine SF.forgetAll ?_
  have hs1 := trivial; have hs2 := trivial; have hs3 := trivial; have hcl := trivial
  have hC := pf_fFirst V R M hR hr hM
  generalize fiR R M = q at *
  by_cases h1 : (M.length : Int) = V
  · by_cases h2 : q = -1
    · rw [decide_eq_true ⟨h1, h2⟩]
      (refine SF_of_bodyX (aload tt) (aload_ok tyOK) Tryz.func19 rfl (by kernel_rfl) ?_; simp only [Tryz.ntmps19, List.length_cons, List.length_nil, Nat.reduceAdd, Nat.reduceSub, List.replicate_succ, List.replicate_zero, List.cons_append, List.nil_append])
      unfold aForm iBools lint
      (repeat (first | (first | (with_reducible first | refine AX_block ?_ | refine AX_skip ?_ | refine AX_exit ?_ | refine AX_ret ?_ | refine AX_ift ?_ | refine AX_iff ?_ | refine AX_seq_k (fun K hK => ?_) | refine ContX.use (by assumption) ?_) | simp only [thenX, inBlockX, if_true, if_false, reduceCtorEq]) | (first | ((with_reducible refine XOP tyOK ?_); simp (disch := omega) only [go_sem , hs1, hs2, hs3, iRows, iBools, lint, List.length_nil]; (with_reducible refine XRes_id ?_)) | (with_reducible refine XSK ?_)) | ((with_reducible refine XRes_nil ?_); refine hK _ ?_; clear hK K) | ((with_reducible refine AX_reg0 fun K hK => ?_); simp only [go_sem]) | (first | (first | refine XTL (by rfl) hC ?_) | ((refine XRes_slot (by rfl) rfl hcl ?_); (rintro r H' ⟨rfl, rfl⟩); (simp only [putL, List.set_cons_succ, List.set_cons_zero])))))
      (simp only [bodyX]; refine ⟨_, by simp only [aresults, aresult, XS.as, Tryz.results19, aload, go_sem, Option.bind_some]; rfl, ?_⟩)
      exact ⟨ids_idB rfl, rfl, trivial⟩
    · rw [decide_eq_false fun h => h2 h.2]
      (refine SF_of_bodyX (aload tt) (aload_ok tyOK) Tryz.func19 rfl (by kernel_rfl) ?_; simp only [Tryz.ntmps19, List.length_cons, List.length_nil, Nat.reduceAdd, Nat.reduceSub, List.replicate_succ, List.replicate_zero, List.cons_append, List.nil_append])
      unfold aForm iBools lint
      (repeat (first | (first | (with_reducible first | refine AX_block ?_ | refine AX_skip ?_ | refine AX_exit ?_ | refine AX_ret ?_ | refine AX_ift ?_ | refine AX_iff ?_ | refine AX_seq_k (fun K hK => ?_) | refine ContX.use (by assumption) ?_) | simp only [thenX, inBlockX, if_true, if_false, reduceCtorEq]) | (first | ((with_reducible refine XOP tyOK ?_); simp (disch := omega) only [go_sem , hs1, hs2, hs3, iRows, iBools, lint, List.length_nil]; (with_reducible refine XRes_id ?_)) | (with_reducible refine XSK ?_)) | ((with_reducible refine XRes_nil ?_); refine hK _ ?_; clear hK K) | ((with_reducible refine AX_reg0 fun K hK => ?_); simp only [go_sem]) | (first | (first | refine XTL (by rfl) hC ?_) | ((refine XRes_slot (by rfl) rfl hcl ?_); (rintro r H' ⟨rfl, rfl⟩); (simp only [putL, List.set_cons_succ, List.set_cons_zero])))))
      (simp only [bodyX]; refine ⟨_, by simp only [aresults, aresult, XS.as, Tryz.results19, aload, go_sem, Option.bind_some]; rfl, ?_⟩)
      exact ⟨ids_idB rfl, rfl, trivial⟩
  · rw [decide_eq_false fun h => h1 h.1]
    (refine SF_of_bodyX (aload tt) (aload_ok tyOK) Tryz.func19 rfl (by kernel_rfl) ?_; simp only [Tryz.ntmps19, List.length_cons, List.length_nil, Nat.reduceAdd, Nat.reduceSub, List.replicate_succ, List.replicate_zero, List.cons_append, List.nil_append])
    unfold aForm iBools lint
    (repeat (first | (first | (with_reducible first | refine AX_block ?_ | refine AX_skip ?_ | refine AX_exit ?_ | refine AX_ret ?_ | refine AX_ift ?_ | refine AX_iff ?_ | refine AX_seq_k (fun K hK => ?_) | refine ContX.use (by assumption) ?_) | simp only [thenX, inBlockX, if_true, if_false, reduceCtorEq]) | (first | ((with_reducible refine XOP tyOK ?_); simp (disch := omega) only [go_sem , hs1, hs2, hs3, iRows, iBools, lint, List.length_nil]; (with_reducible refine XRes_id ?_)) | (with_reducible refine XSK ?_)) | ((with_reducible refine XRes_nil ?_); refine hK _ ?_; clear hK K) | ((with_reducible refine AX_reg0 fun K hK => ?_); simp only [go_sem]) | (first | (first | refine XTL (by rfl) hC ?_) | ((refine XRes_slot (by rfl) rfl hcl ?_); (rintro r H' ⟨rfl, rfl⟩); (simp only [putL, List.set_cons_succ, List.set_cons_zero])))))
    (simp only [bodyX]; refine ⟨_, by simp only [aresults, aresult, XS.as, Tryz.results19, aload, go_sem, Option.bind_some]; rfl, ?_⟩)
    exact ⟨ids_idB rfl, rfl, trivial⟩
end Go.Proofs.YtcjnikkmjhagmaaGreatDoor
namespace Go.Proofs.YtcjnikkmjhagmaaGreatDoor
open Go.RowKit
set_option linter.unusedVariables false
set_option linter.unusedSimpArgs false
set_option maxRecDepth 100000 in
set_option maxHeartbeats 4000000 in
theorem pf_EncodeSays (o : Ob) (l : List Op5) (M : List Bool) (ho : o.Ok) (hrl : o.R.length ≤ 9223372036854775807) (hll : l.length ≤ 9223372036854775807) (hs : okS l) (hml : M.length ≤ 9223372036854775807) : PF Tryz.prog 5 [obA o, .iv (iOps l), .iv (iBools M)] fun r H' => r = lt (.bool true) ∧ H' = [] := by
  refine SF.forgetAll ?_
  have hs1 := trivial; have hs2 := trivial; have hs3 := trivial
  have hFew := pf_few o
  have hAw := pf_awake
  have hEn := trivial; have hH := trivial; have hS := trivial
  by_cases hr : o.R.length ≤ 300
  · rw [decide_eq_true (by omega)] at hFew
    by_cases hl : l.length ≤ 7
    · by_cases hm : M.length ≤ 1000
      · have hEn := pf_Encode o l (by omega) ho (by omega) hs
        have hS := pf_Says o l M (by omega) ho (by omega) hs (by omega)
        by_cases he : eE o l = 0
        · have hvf := enR_vf he (by omega)
          have hH := pf_fHolds (nVars (mN o l) (mS o l)) (enR o l) M hvf.2.2.1 (fun k => Nat.le_trans (vc_short enR_vc k) (by omega)) (by omega)
          have e1 : decide ((M.length : Int) = nVars (mN o l) (mS o l) ∧ fiR (enR o l) M = -1) = decide (sayP o l M) := by
            congr 1
            exact propext (by rw [fiR_no]; exact say_main he)
          rw [e1] at hH
          rw [enA_yes he, he] at hEn
          clear e1 hvf
          generalize decide (sayP o l M) = D at *
          generalize enR o l = R at *
          generalize nVars (mN o l) (mS o l) = V at *
          unfold aForm at hEn hH
          unfold iRows at hEn hH
          cases D with
          | true =>
            (refine SF_of_bodyX (aload tt) (aload_ok tyOK) Tryz.func5 rfl (by kernel_rfl) ?_; simp only [Tryz.ntmps5, List.length_cons, List.length_nil, Nat.reduceAdd, Nat.reduceSub, List.replicate_succ, List.replicate_zero, List.cons_append, List.nil_append])
            unfold iOps iFlat iBools
            (repeat (first | (first | (with_reducible first | refine AX_block ?_ | refine AX_skip ?_ | refine AX_exit ?_ | refine AX_ret ?_ | refine AX_ift ?_ | refine AX_iff ?_ | refine AX_seq_k (fun K hK => ?_) | refine ContX.use (by assumption) ?_) | simp only [thenX, inBlockX, if_true, if_false, reduceCtorEq]) | (first | ((with_reducible first | refine XOP tyOK ?_ | refine AOP tyOK ?_); simp (disch := omega) only [go_sem , szA, iOps, iFlat, iBools, lint, beq_self_eq_true, hs1, hs2, hs3, List.length_nil]; (with_reducible first | refine XRes_id ?_ | refine ADF_id ?_)) | (with_reducible first | refine XSK ?_ | refine ASK ?_)) | ((first | (with_reducible refine XRes_nil ?_) | (with_reducible refine ADF_nil ?_)); (first | refine hK _ ?_ | refine hK _ _ ?_); clear hK K) | ((first | (with_reducible refine AX_reg0 fun K hK => ?_) | (refine AX_drawG1 tyOK (by kernel_rfl) (by rfl) (by kernel_rfl) fun K hK => ?_)); simp only [go_sem]) | (first | (first | refine XTL (by rfl) hFew ?_ | refine ATL tyOK (by rfl) hFew ?_ | refine XTL (by rfl) hAw ?_ | refine ATL tyOK (by rfl) hAw ?_ | refine XTL (by rfl) hEn ?_ | refine ATL tyOK (by rfl) hEn ?_ | refine XTL (by rfl) hH ?_ | refine ATL tyOK (by rfl) hH ?_ | refine XTL (by rfl) hS ?_ | refine ATL tyOK (by rfl) hS ?_))))
            (simp only [bodyX]; refine ⟨_, by simp only [aresults, aresult, XS.as, Tryz.results5, aload, go_sem, Option.bind_some]; rfl, ?_⟩)
            exact ⟨ids_idB rfl, rfl, trivial⟩
          | false =>
            (refine SF_of_bodyX (aload tt) (aload_ok tyOK) Tryz.func5 rfl (by kernel_rfl) ?_; simp only [Tryz.ntmps5, List.length_cons, List.length_nil, Nat.reduceAdd, Nat.reduceSub, List.replicate_succ, List.replicate_zero, List.cons_append, List.nil_append])
            unfold iOps iFlat iBools
            (repeat (first | (first | (with_reducible first | refine AX_block ?_ | refine AX_skip ?_ | refine AX_exit ?_ | refine AX_ret ?_ | refine AX_ift ?_ | refine AX_iff ?_ | refine AX_seq_k (fun K hK => ?_) | refine ContX.use (by assumption) ?_) | simp only [thenX, inBlockX, if_true, if_false, reduceCtorEq]) | (first | ((with_reducible first | refine XOP tyOK ?_ | refine AOP tyOK ?_); simp (disch := omega) only [go_sem , szA, iOps, iFlat, iBools, lint, beq_self_eq_true, hs1, hs2, hs3, List.length_nil]; (with_reducible first | refine XRes_id ?_ | refine ADF_id ?_)) | (with_reducible first | refine XSK ?_ | refine ASK ?_)) | ((first | (with_reducible refine XRes_nil ?_) | (with_reducible refine ADF_nil ?_)); (first | refine hK _ ?_ | refine hK _ _ ?_); clear hK K) | ((first | (with_reducible refine AX_reg0 fun K hK => ?_) | (refine AX_drawG1 tyOK (by kernel_rfl) (by rfl) (by kernel_rfl) fun K hK => ?_)); simp only [go_sem]) | (first | (first | refine XTL (by rfl) hFew ?_ | refine ATL tyOK (by rfl) hFew ?_ | refine XTL (by rfl) hAw ?_ | refine ATL tyOK (by rfl) hAw ?_ | refine XTL (by rfl) hEn ?_ | refine ATL tyOK (by rfl) hEn ?_ | refine XTL (by rfl) hH ?_ | refine ATL tyOK (by rfl) hH ?_ | refine XTL (by rfl) hS ?_ | refine ATL tyOK (by rfl) hS ?_))))
            (simp only [bodyX]; refine ⟨_, by simp only [aresults, aresult, XS.as, Tryz.results5, aload, go_sem, Option.bind_some]; rfl, ?_⟩)
            exact ⟨ids_idB rfl, rfl, trivial⟩
        · rw [enA_no he] at hEn
          rw [decide_eq_false fun h : sayP o l M => he h.1] at hS
          unfold aForm iRows at hEn
          generalize eE o l = E at *
          (refine SF_of_bodyX (aload tt) (aload_ok tyOK) Tryz.func5 rfl (by kernel_rfl) ?_; simp only [Tryz.ntmps5, List.length_cons, List.length_nil, Nat.reduceAdd, Nat.reduceSub, List.replicate_succ, List.replicate_zero, List.cons_append, List.nil_append])
          unfold iOps iFlat iBools
          (repeat (first | (first | (with_reducible first | refine AX_block ?_ | refine AX_skip ?_ | refine AX_exit ?_ | refine AX_ret ?_ | refine AX_ift ?_ | refine AX_iff ?_ | refine AX_seq_k (fun K hK => ?_) | refine ContX.use (by assumption) ?_) | simp only [thenX, inBlockX, if_true, if_false, reduceCtorEq]) | (first | ((with_reducible first | refine XOP tyOK ?_ | refine AOP tyOK ?_); simp (disch := omega) only [go_sem , szA, iOps, iFlat, iBools, lint, beq_self_eq_true, hs1, hs2, hs3, List.length_nil]; (with_reducible first | refine XRes_id ?_ | refine ADF_id ?_)) | (with_reducible first | refine XSK ?_ | refine ASK ?_)) | ((first | (with_reducible refine XRes_nil ?_) | (with_reducible refine ADF_nil ?_)); (first | refine hK _ ?_ | refine hK _ _ ?_); clear hK K) | ((first | (with_reducible refine AX_reg0 fun K hK => ?_) | (refine AX_drawG1 tyOK (by kernel_rfl) (by rfl) (by kernel_rfl) fun K hK => ?_)); simp only [go_sem]) | (first | (first | refine XTL (by rfl) hFew ?_ | refine ATL tyOK (by rfl) hFew ?_ | refine XTL (by rfl) hAw ?_ | refine ATL tyOK (by rfl) hAw ?_ | refine XTL (by rfl) hEn ?_ | refine ATL tyOK (by rfl) hEn ?_ | refine XTL (by rfl) hH ?_ | refine ATL tyOK (by rfl) hH ?_ | refine XTL (by rfl) hS ?_ | refine ATL tyOK (by rfl) hS ?_))))
          (simp only [bodyX]; refine ⟨_, by simp only [aresults, aresult, XS.as, Tryz.results5, aload, go_sem, Option.bind_some]; rfl, ?_⟩)
          exact ⟨ids_idB rfl, rfl, trivial⟩
      · (refine SF_of_bodyX (aload tt) (aload_ok tyOK) Tryz.func5 rfl (by kernel_rfl) ?_; simp only [Tryz.ntmps5, List.length_cons, List.length_nil, Nat.reduceAdd, Nat.reduceSub, List.replicate_succ, List.replicate_zero, List.cons_append, List.nil_append])
        unfold iOps iFlat iBools
        (repeat (first | (first | (with_reducible first | refine AX_block ?_ | refine AX_skip ?_ | refine AX_exit ?_ | refine AX_ret ?_ | refine AX_ift ?_ | refine AX_iff ?_ | refine AX_seq_k (fun K hK => ?_) | refine ContX.use (by assumption) ?_) | simp only [thenX, inBlockX, if_true, if_false, reduceCtorEq]) | (first | ((with_reducible first | refine XOP tyOK ?_ | refine AOP tyOK ?_); simp (disch := omega) only [go_sem , szA, iOps, iFlat, iBools, lint, beq_self_eq_true, hs1, hs2, hs3, List.length_nil]; (with_reducible first | refine XRes_id ?_ | refine ADF_id ?_)) | (with_reducible first | refine XSK ?_ | refine ASK ?_)) | ((first | (with_reducible refine XRes_nil ?_) | (with_reducible refine ADF_nil ?_)); (first | refine hK _ ?_ | refine hK _ _ ?_); clear hK K) | ((first | (with_reducible refine AX_reg0 fun K hK => ?_) | (refine AX_drawG1 tyOK (by kernel_rfl) (by rfl) (by kernel_rfl) fun K hK => ?_)); simp only [go_sem]) | (first | (first | refine XTL (by rfl) hFew ?_ | refine ATL tyOK (by rfl) hFew ?_ | refine XTL (by rfl) hAw ?_ | refine ATL tyOK (by rfl) hAw ?_ | refine XTL (by rfl) hEn ?_ | refine ATL tyOK (by rfl) hEn ?_ | refine XTL (by rfl) hH ?_ | refine ATL tyOK (by rfl) hH ?_ | refine XTL (by rfl) hS ?_ | refine ATL tyOK (by rfl) hS ?_))))
        (simp only [bodyX]; refine ⟨_, by simp only [aresults, aresult, XS.as, Tryz.results5, aload, go_sem, Option.bind_some]; rfl, ?_⟩)
        exact ⟨ids_idB rfl, rfl, trivial⟩
    · (refine SF_of_bodyX (aload tt) (aload_ok tyOK) Tryz.func5 rfl (by kernel_rfl) ?_; simp only [Tryz.ntmps5, List.length_cons, List.length_nil, Nat.reduceAdd, Nat.reduceSub, List.replicate_succ, List.replicate_zero, List.cons_append, List.nil_append])
      unfold iOps iFlat iBools
      (repeat (first | (first | (with_reducible first | refine AX_block ?_ | refine AX_skip ?_ | refine AX_exit ?_ | refine AX_ret ?_ | refine AX_ift ?_ | refine AX_iff ?_ | refine AX_seq_k (fun K hK => ?_) | refine ContX.use (by assumption) ?_) | simp only [thenX, inBlockX, if_true, if_false, reduceCtorEq]) | (first | ((with_reducible first | refine XOP tyOK ?_ | refine AOP tyOK ?_); simp (disch := omega) only [go_sem , szA, iOps, iFlat, iBools, lint, beq_self_eq_true, hs1, hs2, hs3, List.length_nil]; (with_reducible first | refine XRes_id ?_ | refine ADF_id ?_)) | (with_reducible first | refine XSK ?_ | refine ASK ?_)) | ((first | (with_reducible refine XRes_nil ?_) | (with_reducible refine ADF_nil ?_)); (first | refine hK _ ?_ | refine hK _ _ ?_); clear hK K) | ((first | (with_reducible refine AX_reg0 fun K hK => ?_) | (refine AX_drawG1 tyOK (by kernel_rfl) (by rfl) (by kernel_rfl) fun K hK => ?_)); simp only [go_sem]) | (first | (first | refine XTL (by rfl) hFew ?_ | refine ATL tyOK (by rfl) hFew ?_ | refine XTL (by rfl) hAw ?_ | refine ATL tyOK (by rfl) hAw ?_ | refine XTL (by rfl) hEn ?_ | refine ATL tyOK (by rfl) hEn ?_ | refine XTL (by rfl) hH ?_ | refine ATL tyOK (by rfl) hH ?_ | refine XTL (by rfl) hS ?_ | refine ATL tyOK (by rfl) hS ?_))))
      (simp only [bodyX]; refine ⟨_, by simp only [aresults, aresult, XS.as, Tryz.results5, aload, go_sem, Option.bind_some]; rfl, ?_⟩)
      exact ⟨ids_idB rfl, rfl, trivial⟩
  · rw [decide_eq_false (by omega)] at hFew
    (refine SF_of_bodyX (aload tt) (aload_ok tyOK) Tryz.func5 rfl (by kernel_rfl) ?_; simp only [Tryz.ntmps5, List.length_cons, List.length_nil, Nat.reduceAdd, Nat.reduceSub, List.replicate_succ, List.replicate_zero, List.cons_append, List.nil_append])
    unfold iOps iFlat iBools
    (repeat (first | (first | (with_reducible first | refine AX_block ?_ | refine AX_skip ?_ | refine AX_exit ?_ | refine AX_ret ?_ | refine AX_ift ?_ | refine AX_iff ?_ | refine AX_seq_k (fun K hK => ?_) | refine ContX.use (by assumption) ?_) | simp only [thenX, inBlockX, if_true, if_false, reduceCtorEq]) | (first | ((with_reducible first | refine XOP tyOK ?_ | refine AOP tyOK ?_); simp (disch := omega) only [go_sem , szA, iOps, iFlat, iBools, lint, beq_self_eq_true, hs1, hs2, hs3, List.length_nil]; (with_reducible first | refine XRes_id ?_ | refine ADF_id ?_)) | (with_reducible first | refine XSK ?_ | refine ASK ?_)) | ((first | (with_reducible refine XRes_nil ?_) | (with_reducible refine ADF_nil ?_)); (first | refine hK _ ?_ | refine hK _ _ ?_); clear hK K) | ((first | (with_reducible refine AX_reg0 fun K hK => ?_) | (refine AX_drawG1 tyOK (by kernel_rfl) (by rfl) (by kernel_rfl) fun K hK => ?_)); simp only [go_sem]) | (first | (first | refine XTL (by rfl) hFew ?_ | refine ATL tyOK (by rfl) hFew ?_ | refine XTL (by rfl) hAw ?_ | refine ATL tyOK (by rfl) hAw ?_ | refine XTL (by rfl) hEn ?_ | refine ATL tyOK (by rfl) hEn ?_ | refine XTL (by rfl) hH ?_ | refine ATL tyOK (by rfl) hH ?_ | refine XTL (by rfl) hS ?_ | refine ATL tyOK (by rfl) hS ?_))))
    (simp only [bodyX]; refine ⟨_, by simp only [aresults, aresult, XS.as, Tryz.results5, aload, go_sem, Option.bind_some]; rfl, ?_⟩)
    exact ⟨ids_idB rfl, rfl, trivial⟩
end Go.Proofs.YtcjnikkmjhagmaaGreatDoor
namespace Go.Proofs.YtcjnikkmjhagmaaGreatDoor
open Go.RowKit
theorem wf_i {x : Int} (h : (Lit.int .i64 x).wf = true) : -9223372036854775808 ≤ x ∧ x ≤ 9223372036854775807 := bounds_i64 h
theorem encodeSays_walk (w : World) (x y z : Int) (wx : (Lit.int .i64 x).wf = true) (wy : (Lit.int .i64 y).wf = true) (wz : (Lit.int .i64 z).wf = true) (a : Option Addr) (len cap : Nat) (hs : StructRow w 4 a len cap) (a2 : Option Addr) (len2 cap2 : Nat) (hs2 : StructRow w 5 a2 len2 cap2) (a3 : Option Addr) (len3 cap3 : Nat) (m : List Bool) (hr3 : BoolRow w a3 len3 m) (hc3 : len3 ≤ cap3 ∧ cap3 ≤ maxLen ∧ (a3 = none → cap3 = 0)) :
    Calls Tryz.prog 5 #[.agg #[.int .i64 x, .int .i64 y, .int .i64 z, .slice a len cap], .slice a2 len2 cap2, .slice a3 len3 cap3] w fun e w' => e = .returned (.bool true) ∧ Below w.heap.size w w' := by
  obtain ⟨xs, e1, _, r1⟩ := hs.rwsA
  obtain ⟨ys, e2, o2, r2⟩ := hs2.opsA
  have b1 := hs.2.1; have b2 := hs2.2.1; have b3 := hr3.2.1
  have c1 := hs.1; have c2 := hs2.1; have c3 := hr3.1
  unfold maxLen at b1 b2 b3
  exact law_of (SF.mono (pf_EncodeSays ⟨x, y, z, xs⟩ ys m ⟨wf_i wx, wf_i wy, wf_i wz⟩ (by show xs.length ≤ _; omega) (by omega) (fun i => okI_s o2 i) (by omega)) fun r H' h => h.1) w _ (RL.three (RL.obj r1) (.iv _ _ r2) (.iv _ _ (ri_bools hr3 hc3.1 hc3.2.1)))
end Go.Proofs.YtcjnikkmjhagmaaGreatDoor
