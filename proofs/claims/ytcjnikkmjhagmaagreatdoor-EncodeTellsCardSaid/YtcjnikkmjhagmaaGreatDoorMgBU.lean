import Derived.Test.YtcjnikkmjhagmaaGreatDoorMgBS
import Derived.Test.YtcjnikkmjhagmaaGreatDoorMgBT
import Derived.Test.YtcjnikkmjhagmaaGreatDoorMgBJ
import Derived.Test.YtcjnikkmjhagmaaGreatDoorMgBD
namespace Go.Proofs.YtcjnikkmjhagmaaGreatDoor
open Go.RowKit
set_option linter.unusedVariables false
set_option linter.unusedSimpArgs false
def insL (q : Nat) (M : List Bool) (k : Nat) : List Bool := (List.range k).map fun i => M.getD (q + i) false
theorem insL_nx (q : Nat) (M : List Bool) (k : Nat) : insL q M (k + 1) = insL q M k ++ [M.getD (q + k) false] := by unfold insL; rw [List.range_succ, List.map_append]; rfl
theorem insL_len (q : Nat) (M : List Bool) (k : Nat) : (insL q M k).length = k := by unfold insL; simp
theorem insL_inT {l : List Op5} {m : Int} (hok : nOk l.length m) (M : List Bool) : insL (l.length * l.length) M l.length = inT l l.length m M := by
  apply List.ext_getElem
  · rw [insL_len]; unfold inT; rw [ibU_len]
  · intro i h1 h2
    have hi : i < l.length := by rw [insL_len] at h1; exact h1
    have e1 : (insL (l.length * l.length) M l.length)[i] = M.getD (l.length * l.length + i) false := by unfold insL; simp
    have e2 : (inT l l.length m M)[i] = (inT l l.length m M).getD i false := by rw [List.getD_eq_getElem?_getD, List.getElem?_eq_getElem h2]; rfl
    rw [e1, e2]
    unfold inT
    rw [ibU_at l.length (Nat.le_refl _), if_pos hi]
    unfold inF tAt
    rw [nVar_2 hok (by omega) (by omega)]
    congr 1
    have : ((l.length * l.length : Nat) : Int) = (l.length : Int) * l.length := by push_cast; rfl
    omega
theorem W1d92a {A B : Prop} (h9 : B) (w : B → A := by (intro h9; (repeat intro K hK); refine ⟨?_⟩; (repeat (first | (first | (with_reducible first | refine AX_block ?_ | refine AX_skip ?_ | refine AX_exit ?_ | refine AX_ret ?_ | refine AX_ift ?_ | refine AX_iff ?_ | refine AX_seq_k (fun K hK => ?_) | refine ContX.use (by assumption) ?_) | simp only [thenX, inBlockX, if_true, if_false, reduceCtorEq]) | (first | ((with_reducible first | refine XOP tyOK ?_ | refine AOP tyOK ?_); simp (disch := omega) only [go_sem , szA, iOps, iFlat, iInts, iBools, lb_one, hs1, hs2, hs3, Int.toNat_zero, Int.toNat_one, List.length_nil]; (with_reducible first | refine XRes_id ?_ | refine ADF_id ?_)) | (with_reducible first | refine XSK ?_ | refine ASK ?_)) | ((first | (with_reducible refine XRes_nil ?_) | (with_reducible refine ADF_nil ?_)); (first | refine hK _ ?_ | refine hK _ _ ?_); clear hK K) | ((first | (with_reducible refine AX_reg0 fun K hK => ?_) | (refine AX_drawG1 tyOK (by kernel_rfl) (by rfl) (by kernel_rfl) fun K hK => ?_)); simp only [go_sem]) | (first | (first | refine XTL (by rfl) hF ?_ | refine ATL tyOK (by rfl) hF ?_ | refine XTL (by rfl) hO ?_ | refine ATL tyOK (by rfl) hO ?_ | refine XTL (by rfl) hPr ?_ | refine ATL tyOK (by rfl) hPr ?_ | refine XTL (by rfl) hA ?_ | refine ATL tyOK (by rfl) hA ?_ | refine XTL (by rfl) hR ?_ | refine ATL tyOK (by rfl) hR ?_ | refine XTL (by rfl) hV ?_ | refine ATL tyOK (by rfl) hV ?_ | refine XTL (by rfl) hP ?_ | refine ATL tyOK (by rfl) hP ?_ | refine XTL (by rfl) hE ?_ | refine ATL tyOK (by rfl) hE ?_)))); refine Wk.o ?_; (repeat revert hK K); exact h9)) : A := w h9
set_option maxRecDepth 100000 in
set_option maxHeartbeats 2000000 in
theorem pf_rIns (n : Nat) (M : List Bool) (hn : n ≤ 64) (hM : M.length ≤ 1000000) (hl : n * n + n ≤ M.length) : PF Tryz.prog 47 [lt (.int .i64 n), .iv (iBools M)] fun r H' => r = .iv (iBools (insL (n * n) M n)) ∧ H' = [] := by
  refine SF.frozen ?_
  have hs1 := trivial; have hs2 := trivial; have hs3 := trivial
  have hO := trivial; have hPr := trivial; have hA := trivial; have hR := trivial; have hV := trivial; have hP := trivial; have hE := trivial; have hF := trivial
  have hq : (n : Int) * n = ((n * n : Nat) : Int) := by push_cast; rfl
  have hqb : n * n ≤ 64 * 64 := Nat.mul_le_mul hn hn
  generalize n * n = q at *
  have hs1 := hq
  (refine SF_of_bodyX (aload tt) (aload_ok tyOK) Tryz.func47 rfl (by kernel_rfl) ?_; simp only [Tryz.ntmps47, List.length_cons, List.length_nil, Nat.reduceAdd, Nat.reduceSub, List.replicate_succ, List.replicate_zero, List.cons_append, List.nil_append])
  unfold iBools
  (refine Wk.o ?_; (repeat revert hK K); refine W1d92a ?_; (repeat intro K hK); refine ⟨?_⟩)
  refine AX_nil 5 4 1 rfl ?_
  (refine AWH (σ := Nat) [7, 8, 9, 12, 13, 14, 15, 16, 17, 18, 19, 20, 21, 22, 10, 11] (fun i => [(6, lint i), (5, .osl 0 0 i 1)]) (fun i => [some ⟨4, (insL q M i).map lb⟩]) (fun i => []) (fun i => i ≤ n) (fun i => n - i) 0 (by first | exact Nat.zero_le _) ?_; rintro i d fr hfr hi; simp only [updS, deadS, List.set_cons_succ, List.set_cons_zero, lint] at hfr; subst hfr; (try dsimp only))
  have hil := insL_len q M i
  have hx : ((q : Int) + i).toNat = q + i := by omega
  by_cases hlt : i < n
  · (refine Wk.o ?_; (repeat revert hK K); refine W1d92a ?_; (repeat intro K hK); refine ⟨?_⟩)
    exact whx_ren [2] (i + 1) (by omega) (by (first | omega | (dsimp only; omega) | (simp only; omega))) rfl (by decide) (by decide) (by (simp (disch := omega) only [go_sem, lint])) (by (simp (disch := omega) only [go_sem, lint])) (by rw [insL_nx, ← lb_snoc, ← hx]; (simp (disch := omega) only [go_sem, lint])) (fun d => by (simp (disch := omega) only [go_sem, lint]))
  · obtain rfl : i = n := by omega
    (refine Wk.o ?_; (repeat revert hK K); refine W1d92a ?_; (repeat intro K hK); refine ⟨?_⟩)
    (simp only [bodyX]; refine ⟨_, by simp only [aresults, aresult, XS.as, Tryz.results47, aload, go_sem, Option.bind_some]; rfl, ?_⟩)
    exact ⟨_, snap_lb rfl hil.symm, rfl, trivial⟩
set_option maxRecDepth 100000 in
set_option maxHeartbeats 4000000 in
theorem pf_rSays (o : Ob) (l : List Op5) (M : List Bool) (hr : o.R.length ≤ 100000) (ho : o.Ok) (hl : l.length ≤ 100000) (hs : okS l) (hM : M.length ≤ 1000000) : PF Tryz.prog 13 [obA o, .iv (iOps l), .iv (iBools M)] fun r H' => r = lt (.bool (decide (sayP o l M))) ∧ H' = [] := by
  refine SF.forgetAll ?_
  have hs1 := trivial; have hs2 := trivial; have hs3 := trivial
  have hO := trivial; have hPr := trivial; have hA := trivial; have hR := trivial; have hV := trivial; have hP := trivial; have hE := trivial
  have hF := pf_rError o l hr ho hl
  by_cases he : eE o l = 0
  · obtain ⟨hm, hln, hok, _, _, hv9⟩ := eE_ok he
    have hnl := (m_yes hm).1
    have hmS := (m_yes hm).2
    have hsp : sayP o l M ↔ ooOk l.length o.S M ∧ fb (agE (ooX l.length o.S M) (oPairL l l.length)) (prN l) = prN l ∧ sxOk l.length o.S M ∧ plB o l (ooX l.length o.S M) (inT l l.length o.S M) = true ∧ sxX l.length o.S M = plXs o l (ooX l.length o.S M) (inT l l.length o.S M) := by
      unfold sayP; rw [hnl, hmS]; exact ⟨fun h => h.2, fun h => ⟨he, h⟩⟩
    rw [hnl, hmS] at hok
    rw [he] at hF
    have hO := pf_rOrder l.length o.S M hM
    have hR := pf_rRow l.length o.S M hM
    have hPr := pf_rPairsN l (by omega)
    have hpl := pairs_le l l.length
    have hll2 : l.length * l.length ≤ 64 * 64 := Nat.mul_le_mul hln hln
    obtain ⟨z, hz⟩ := pairs_even l l.length
    by_cases ho1 : ooOk l.length o.S M
    · obtain ⟨hxl, hxb⟩ := ooX_bd ho1
      rw [Int.toNat_natCast] at hxl
      rw [decide_eq_true ho1] at hO
      have hA := pf_rAgainst (ooX l.length o.S M) (oPairL l l.length) (prN l) (by omega) (by unfold prN; omega) (by unfold prN; omega)
      by_cases hs5 : sxOk l.length o.S M
      · rw [decide_eq_true hs5] at hR
        have hMl := ho1.2.1
        have hst := nOk_st hok
        have hVs : nVars l.length o.S = (l.length : Int) * l.length + l.length + ((l.length : Int) + 1) * o.S := by unfold nVars; rw [if_pos hok]; rfl
        have hqq : ((l.length * l.length : Nat) : Int) = (l.length : Int) * l.length := by push_cast; rfl
        have hV := pf_rIns l.length M hln hM (by omega)
        rw [insL_inT hok] at hV
        have hP := pf_rPlay o l (ooX l.length o.S M) (inT l l.length o.S M) hr ho hl hs (by omega) (by unfold inT; rw [ibU_len]; omega)
        have hXl : (sxX l.length o.S M).length ≤ 100000 := by rw [(sx_yes hs5).1, sxR_len]; omega
        have hYl : (plXs o l (ooX l.length o.S M) (inT l l.length o.S M)).length ≤ 100000 := by
          unfold plXs; split
          · rw [plRow_len]; omega
          · simp
        have hE := pf_sameInts (sxX l.length o.S M) (plXs o l (ooX l.length o.S M) (inT l l.length o.S M)) (by omega) (by omega)
        have hfin : (decide (sayP o l M)) = (decide (fb (agE (ooX l.length o.S M) (oPairL l l.length)) (prN l) = prN l) && (plB o l (ooX l.length o.S M) (inT l l.length o.S M) && decide (sxX l.length o.S M = plXs o l (ooX l.length o.S M) (inT l l.length o.S M)))) := by
          rw [Bool.eq_iff_iff, decide_eq_true_iff, Bool.and_eq_true, Bool.and_eq_true, decide_eq_true_iff, decide_eq_true_iff, hsp]
          exact ⟨fun h => ⟨h.2.1, h.2.2.2.1, h.2.2.2.2⟩, fun h => ⟨ho1, h.1, hs5, h.2.1, h.2.2⟩⟩
        rw [hfin]
        clear hfin hsp hpl hll2 hz hv9 hst hVs hqq hMl
        generalize plB o l (ooX l.length o.S M) (inT l l.length o.S M) = B at *
        generalize plXs o l (ooX l.length o.S M) (inT l l.length o.S M) = Y at *
        generalize decide (sxX l.length o.S M = Y) = D at *
        generalize sxX l.length o.S M = X at *
        generalize inT l l.length o.S M = I at *
        generalize decide (fb (agE (ooX l.length o.S M) (oPairL l l.length)) (prN l) = prN l) = C at *
        generalize fb (agE (ooX l.length o.S M) (oPairL l l.length)) (prN l) = F at *
        generalize ooX l.length o.S M = R at *
        cases C with
        | true =>
          cases B with
          | true =>
            (refine SF_of_bodyX (aload tt) (aload_ok tyOK) Tryz.func13 rfl (by kernel_rfl) ?_; simp only [Tryz.ntmps13, List.length_cons, List.length_nil, Nat.reduceAdd, Nat.reduceSub, List.replicate_succ, List.replicate_zero, List.cons_append, List.nil_append])
            unfold iBools
            (refine Wk.o ?_; (repeat revert hK K); refine W1d92a ?_; (repeat intro K hK); refine ⟨?_⟩)
            (simp only [bodyX]; refine ⟨_, by simp only [aresults, aresult, XS.as, Tryz.results13, aload, go_sem, Option.bind_some]; rfl, ?_⟩)
            exact ⟨.iv _, by simp, trivial⟩
          | false =>
            (refine SF_of_bodyX (aload tt) (aload_ok tyOK) Tryz.func13 rfl (by kernel_rfl) ?_; simp only [Tryz.ntmps13, List.length_cons, List.length_nil, Nat.reduceAdd, Nat.reduceSub, List.replicate_succ, List.replicate_zero, List.cons_append, List.nil_append])
            unfold iBools
            (refine Wk.o ?_; (repeat revert hK K); refine W1d92a ?_; (repeat intro K hK); refine ⟨?_⟩)
            (simp only [bodyX]; refine ⟨_, by simp only [aresults, aresult, XS.as, Tryz.results13, aload, go_sem, Option.bind_some]; rfl, ?_⟩)
            exact ⟨.iv _, by simp, trivial⟩
        | false =>
          (refine SF_of_bodyX (aload tt) (aload_ok tyOK) Tryz.func13 rfl (by kernel_rfl) ?_; simp only [Tryz.ntmps13, List.length_cons, List.length_nil, Nat.reduceAdd, Nat.reduceSub, List.replicate_succ, List.replicate_zero, List.cons_append, List.nil_append])
          unfold iBools
          (refine Wk.o ?_; (repeat revert hK K); refine W1d92a ?_; (repeat intro K hK); refine ⟨?_⟩)
          (simp only [bodyX]; refine ⟨_, by simp only [aresults, aresult, XS.as, Tryz.results13, aload, go_sem, Option.bind_some]; rfl, ?_⟩)
          exact ⟨.iv _, by simp, trivial⟩
      · have hno : ¬ sayP o l M := fun h => hs5 (hsp.1 h).2.2.1
        rw [decide_eq_false hs5] at hR
        (refine SF_of_bodyX (aload tt) (aload_ok tyOK) Tryz.func13 rfl (by kernel_rfl) ?_; simp only [Tryz.ntmps13, List.length_cons, List.length_nil, Nat.reduceAdd, Nat.reduceSub, List.replicate_succ, List.replicate_zero, List.cons_append, List.nil_append])
        unfold iBools
        (refine Wk.o ?_; (repeat revert hK K); refine W1d92a ?_; (repeat intro K hK); refine ⟨?_⟩)
        ((simp only [bodyX]; refine ⟨_, by simp only [aresults, aresult, XS.as, Tryz.results13, aload, go_sem, Option.bind_some]; rfl, ?_⟩); exact ⟨.iv _, by rw [decide_eq_false hno], trivial⟩)
    · have hno : ¬ sayP o l M := fun h => ho1 (hsp.1 h).1
      rw [decide_eq_false ho1] at hO
      (refine SF_of_bodyX (aload tt) (aload_ok tyOK) Tryz.func13 rfl (by kernel_rfl) ?_; simp only [Tryz.ntmps13, List.length_cons, List.length_nil, Nat.reduceAdd, Nat.reduceSub, List.replicate_succ, List.replicate_zero, List.cons_append, List.nil_append])
      unfold iBools
      (refine Wk.o ?_; (repeat revert hK K); refine W1d92a ?_; (repeat intro K hK); refine ⟨?_⟩)
      ((simp only [bodyX]; refine ⟨_, by simp only [aresults, aresult, XS.as, Tryz.results13, aload, go_sem, Option.bind_some]; rfl, ?_⟩); exact ⟨.iv _, by rw [decide_eq_false hno], trivial⟩)
  · have hno : ¬ sayP o l M := fun h => he h.1
    generalize eE o l = E at *
    (refine SF_of_bodyX (aload tt) (aload_ok tyOK) Tryz.func13 rfl (by kernel_rfl) ?_; simp only [Tryz.ntmps13, List.length_cons, List.length_nil, Nat.reduceAdd, Nat.reduceSub, List.replicate_succ, List.replicate_zero, List.cons_append, List.nil_append])
    unfold iBools
    (refine Wk.o ?_; (repeat revert hK K); refine W1d92a ?_; (repeat intro K hK); refine ⟨?_⟩)
    ((simp only [bodyX]; refine ⟨_, by simp only [aresults, aresult, XS.as, Tryz.results13, aload, go_sem, Option.bind_some]; rfl, ?_⟩); exact ⟨.iv _, by rw [decide_eq_false hno], trivial⟩)
end Go.Proofs.YtcjnikkmjhagmaaGreatDoor
namespace Go.Proofs.YtcjnikkmjhagmaaGreatDoor
open Go.RowKit
set_option linter.unusedVariables false
set_option linter.unusedSimpArgs false
theorem msRow_nx (xs : List Int) {i k : Nat} (h : i + 1 ≤ k) : msRow xs i (k + 1 - (i + 1)) = msRow xs i (k - (i + 1)) ++ [[-(xs.getD i 0), -(xs.getD k 0)]] := by
  rw [show k + 1 - (i + 1) = (k - (i + 1)) + 1 by omega, msRow_succ, show i + 1 + (k - (i + 1)) = k by omega]
theorem W5047a {A B : Prop} (h9 : B) (w : B → A := by (intro h9; (repeat intro K hK); refine ⟨?_⟩; (repeat (first | (first | (with_reducible first | refine AX_block ?_ | refine AX_skip ?_ | refine AX_exit ?_ | refine AX_ret ?_ | refine AX_ift ?_ | refine AX_iff ?_ | refine AX_seq_k (fun K hK => ?_) | refine ContX.use (by assumption) ?_) | simp only [thenX, inBlockX, if_true, if_false, reduceCtorEq]) | (first | ((with_reducible refine XOP tyOK ?_); simp (disch := omega) only [go_sem , Nat.reduceLeDiff, iInts, iFlat, iRows, hs1, hs2, hs3, rows_one, rows_take, List.length_nil]; (with_reducible refine XRes_id ?_)) | (with_reducible refine XSK ?_)) | ((with_reducible refine XRes_nil ?_); refine hK _ ?_; clear hK K) | ((with_reducible refine AX_reg0 fun K hK => ?_); simp only [go_sem]) | fail)); refine Wk.o ?_; (repeat revert hK K); exact h9)) : A := w h9
set_option maxRecDepth 100000 in
set_option maxHeartbeats 4000000 in
theorem pf_r32Most (xs : List Int) (hn : xs.length ≤ 100) (hb : ∀ k, 0 ≤ xs.getD k 0 ∧ xs.getD k 0 ≤ 100000) : PF Tryz.prog 87 [.iv (iInts xs)] fun r H' => r = .iv (iRows (msAll xs)) ∧ H' = [] := by
  refine SF.frozen ?_
  have hs1 := trivial; have hs2 := trivial; have hs3 := trivial
  (refine SF_of_bodyX (aload tt) (aload_ok tyOK) Tryz.func87 rfl (by kernel_rfl) ?_; simp only [Tryz.ntmps87, List.length_cons, List.length_nil, Nat.reduceAdd, Nat.reduceSub, List.replicate_succ, List.replicate_zero, List.cons_append, List.nil_append])
  unfold iInts
  (refine Wk.o ?_; (repeat revert hK K); refine W5047a ?_; (repeat intro K hK); refine ⟨?_⟩)
  refine AX_nil 3 57 1 rfl ?_
  (refine AWH (σ := Nat × List (List Int)) [6, 7, 8, 9, 12, 13, 5, 14, 15, 16, 17, 20, 21, 22, 23, 24, 25, 26, 27, 28, 29, 30, 31, 32, 33, 18, 19, 10, 11] (fun (i, R) => [(4, lint i), (3, .osl 0 0 R.length 1)]) (fun (i, R) => [some ⟨57, R.map rowA⟩]) (fun (i, R) => []) (fun (i, R) => i ≤ xs.length ∧ R = msUp xs i) (fun (i, R) => xs.length - i) (0, []) (by first | exact ⟨Nat.zero_le _, rfl⟩) ?_; rintro ⟨i, R⟩ d fr hfr ⟨hi, hR⟩; simp only [updS, deadS, List.set_cons_succ, List.set_cons_zero, lint] at hfr; subst hfr; (try dsimp only))
  have hRl : R.length ≤ i * xs.length := by rw [hR]; exact msUp_len xs i
  have hRl2 : i * xs.length ≤ 100 * 100 := Nat.mul_le_mul (by omega) hn
  by_cases hlt : i < xs.length
  · have hbi := hb i
    (refine Wk.o ?_; (repeat revert hK K); refine W5047a ?_; (repeat intro K hK); refine ⟨?_⟩)
    (refine AWH (σ := Nat × List (List Int)) [14, 15, 16, 17, 20, 21, 22, 23, 24, 25, 26, 27, 28, 29, 30, 31, 32, 33, 18, 19] (fun (k, R2) => [(5, lint k), (3, .osl 0 0 R2.length 1)]) (fun (k, R2) => [some ⟨57, R2.map rowA⟩]) (fun (k, R2) => []) (fun (k, R2) => i + 1 ≤ k ∧ k ≤ xs.length ∧ R2 = R ++ msRow xs i (k - (i + 1))) (fun (k, R2) => xs.length - k) (i + 1, R) (by first | exact ⟨Nat.le_refl _, hlt, by simp [msRow]⟩) ?_; rintro ⟨k, R2⟩ d fr hfr ⟨hj1, hj, hR2⟩; simp only [updS, deadS, List.set_cons_succ, List.set_cons_zero, lint] at hfr; subst hfr; (try dsimp only))
    have hR2l : R2.length = R.length + (k - (i + 1)) := by rw [hR2, List.length_append, msRow_len]
    by_cases hlj : k < xs.length
    · have hbj := hb k
      repeat (first | (first | (with_reducible first | refine AX_block ?_ | refine AX_skip ?_ | refine AX_exit ?_ | refine AX_ret ?_ | refine AX_ift ?_ | refine AX_iff ?_ | refine AX_seq_k (fun K hK => ?_) | refine ContX.use (by assumption) ?_) | simp only [thenX, inBlockX, if_true, if_false, reduceCtorEq]) | (first | ((refine ADR_litF tyOK (by rfl) rfl (by decide) rfl rfl ?_); (try simp (disch := omega) only [go_sem, asets, acells]); (simp only [List.map_cons, List.map_nil, intOf, putL, List.set_cons_succ, List.set_cons_zero])) | ((refine ADR_litI tyOK (iRows [[-(xs.getD i 0), -(xs.getD k 0)]]) (by rfl) (fun H => ⟨.osl H.length 0 1 1, ⟨57, [rowA [-(xs.getD i 0), -(xs.getD k 0)]]⟩, ?_, snap_rowL (t := 57) (R := [[-(xs.getD i 0), -(xs.getD k 0)]]) (only_mk (by simp) (by simp))⟩) ?_); (focus rfl); (simp only [putL, List.set_cons_succ, List.set_cons_zero]))) | (first | ((first | (with_reducible refine XRes_op tyOK ?_ ?_) | ((with_reducible first | refine ADF_op tyOK ?_ ?_ ?_ | refine ADX_op tyOK ?_ ?_ ?_); (focus rfl)) | (with_reducible refine ADR_alloc1 tyOK ?_ ?_) | ((with_reducible refine ADR_free1 tyOK ?_ ?_ ?_); (focus rfl)) | ((with_reducible refine ADR_free0 tyOK ?_ ?_ ?_); (focus rfl)) | ((with_reducible refine ADR_read1 tyOK ?_ ?_ ?_); (focus rfl)) | (with_reducible refine ADR_chg1 tyOK ?_ ?_)); (focus (first | (with_reducible rfl) | ((simp (disch := omega) only [go_sem]); done))); simp (disch := omega) only [go_sem , Nat.reduceLeDiff, iInts, iFlat, iRows, hs1, hs2, hs3, rows_one, rows_take, List.length_nil]; (first | (with_reducible refine XRes_id ?_) | (with_reducible refine ADF_id ?_) | (with_reducible refine ADR_id1 ?_) | (with_reducible refine ADX_id ?_))) | ((first | (with_reducible refine XRes_skip ?_ ?_) | (with_reducible refine ADF_skip (b := true) ?_ ?_) | (with_reducible refine ADX_skip ?_ ?_) | ((with_reducible refine ADR_skip1 ?_ ?_ ?_); (focus rfl))); (focus (first | rfl | ((simp (disch := omega) only [go_sem]); done))); (simp only [putL, List.set_cons_succ, List.set_cons_zero]))) | ((first | (with_reducible refine XRes_nil ?_) | (with_reducible refine ADF_nil ?_) | (with_reducible refine ADR_nil ?_) | (with_reducible refine ADX_nil ?_)); (first | refine hK _ ?_ | refine hK _ _ ?_); clear hK K) | ((with_reducible refine AX_reg0 fun K hK => ?_); simp only [go_sem]) | ((refine AX_drawL tyOK (by kernel_rfl) (by decide +kernel) fun K hK => ?_); (simp only [go_sem, alL, kdOfL, kdOf, isApp, List.any_cons, List.any_nil, List.map_cons, List.map_nil, Bool.or_false, Bool.false_or, Bool.or_true, Bool.true_or, reduceCtorEq])))
      obtain ⟨R3, hR3⟩ : ∃ R3, R3 = R2 ++ [[-(xs.getD i 0), -(xs.getD k 0)]] := ⟨_, rfl⟩
      have hlen : R3.length = R2.length + 1 := by rw [hR3, List.length_append]; rfl
      refine xs_set (P := WhX _ _ _ _ _ _ _ _ _) 1 57 _ (R3.map rowA) rfl ?_ ?_
      · rw [hR3, List.map_append]; rfl
      simp only [List.set_cons_succ, List.set_cons_zero]
      exact whx_ren [1] (k + 1, R3) ⟨by omega, by omega, by rw [hR3, hR2, msRow_nx xs hj1, List.append_assoc]⟩ (by (first | omega | (dsimp only; omega) | (simp only; omega))) rfl (by decide) (by decide) (by (simp (disch := omega) only [go_sem, lint, rows_rn, rows_id, rows_one])) (by (simp (disch := omega) only [go_sem, lint, rows_rn, rows_id, rows_one])) (by (simp (disch := omega) only [go_sem, lint, rows_rn, rows_id, rows_one])) (fun d => by simp (disch := omega) only [go_sem, lint, rows_rn, rows_id, rows_one, hlen])
    · obtain rfl : k = xs.length := by omega
      (refine Wk.o ?_; (repeat revert hK K); refine W5047a ?_; (repeat intro K hK); refine ⟨?_⟩)
      exact whx_ren [0] (i + 1, R2) ⟨by omega, by rw [hR2, hR, msUp_succ]⟩ (by (first | omega | (dsimp only; omega) | (simp only; omega))) rfl (by decide) (by decide) (by (simp (disch := omega) only [go_sem, lint, rows_rn, rows_id, rows_one])) (by (simp (disch := omega) only [go_sem, lint, rows_rn, rows_id, rows_one])) (by (simp (disch := omega) only [go_sem, lint, rows_rn, rows_id, rows_one])) (fun d => by (simp (disch := omega) only [go_sem, lint, rows_rn, rows_id, rows_one]))
  · obtain rfl : i = xs.length := by omega
    (refine Wk.o ?_; (repeat revert hK K); refine W5047a ?_; (repeat intro K hK); refine ⟨?_⟩)
    (simp only [bodyX]; refine ⟨_, by simp only [aresults, aresult, XS.as, Tryz.results87, aload, go_sem, Option.bind_some]; rfl, ?_⟩)
    exact ⟨_, snap_rws rfl rfl, by rw [hR]; rfl, trivial⟩
end Go.Proofs.YtcjnikkmjhagmaaGreatDoor
namespace Go.Proofs.YtcjnikkmjhagmaaGreatDoor
open Go.RowKit
set_option linter.unusedVariables false
set_option linter.unusedSimpArgs false
theorem rowV_nx (n m : Int) (q : Int) (k : Nat) : rowV n m q (k + 1) = rowV n m q k ++ [nVar n m 1 q k] := by unfold rowV; rw [List.range_succ, List.map_append]; rfl
theorem colV_nx (n m : Int) (q : Int) (k : Nat) : colV n m q (k + 1) = colV n m q k ++ [nVar n m 1 k q] := by unfold colV; rw [List.range_succ, List.map_append]; rfl
theorem W1545a {A B : Prop} (h9 : B) (w : B → A := by (intro h9; (repeat intro K hK); refine ⟨?_⟩; (repeat (first | (first | (with_reducible first | refine AX_block ?_ | refine AX_skip ?_ | refine AX_exit ?_ | refine AX_ret ?_ | refine AX_ift ?_ | refine AX_iff ?_ | refine AX_seq_k (fun K hK => ?_) | refine ContX.use (by assumption) ?_) | simp only [thenX, inBlockX, if_true, if_false, reduceCtorEq]) | (first | ((with_reducible refine XOP tyOK ?_); simp (disch := omega) only [go_sem , range_rowsU, iInts, iRows, iFlat, hs1, hs2, hs3, rows_one, rows_take, List.length_nil]; (with_reducible refine XRes_id ?_)) | (with_reducible refine XSK ?_)) | ((with_reducible refine XRes_nil ?_); refine hK _ ?_; clear hK K) | ((with_reducible refine AX_reg0 fun K hK => ?_); simp only [go_sem]) | (first | (first | refine XTL (by rfl) hCk ?_ | refine XTL (by rfl) hAt ?_ | refine XTL (by rfl) hMo ?_)))); refine Wk.o ?_; (repeat revert hK K); exact h9)) : A := w h9
theorem W1545b {A B : Prop} (h9 : B) (w : B → A := by (intro h9; (repeat intro K hK); refine ⟨?_⟩; (repeat (first | (first | (with_reducible first | refine AX_block ?_ | refine AX_skip ?_ | refine AX_exit ?_ | refine AX_ret ?_ | refine AX_ift ?_ | refine AX_iff ?_ | refine AX_seq_k (fun K hK => ?_) | refine ContX.use (by assumption) ?_) | simp only [thenX, inBlockX, if_true, if_false, reduceCtorEq]) | ((refine XRes_litF tyOK (by rfl) rfl (by decide) rfl rfl ?_); (simp only [List.map_cons, List.map_nil, intOf, putL, List.set_cons_succ, List.set_cons_zero])) | (first | ((with_reducible refine XOP tyOK ?_); simp (disch := omega) only [go_sem , range_rowsU, iInts, iRows, iFlat, hs1, hs2, hs3, rows_one, rows_take, List.length_nil]; (with_reducible refine XRes_id ?_)) | (with_reducible refine XSK ?_)) | ((with_reducible refine XRes_nil ?_); refine hK _ ?_; clear hK K) | ((with_reducible refine AX_reg0 fun K hK => ?_); simp only [go_sem]) | (first | (first | refine XTL (by rfl) hCk ?_ | refine XTL (by rfl) hAt ?_ | refine XTL (by rfl) hMo ?_)))); refine Wk.o ?_; (repeat revert hK K); exact h9)) : A := w h9
set_option maxRecDepth 100000 in
set_option maxHeartbeats 4000000 in
theorem pf_r32Clauses (n m : Int) : PF Tryz.prog 32 [lt (.int .i64 n), lt (.int .i64 m)] fun r H' => r = .iv (iRows (plCl n m)) ∧ H' = [] := by
  refine SF.frozen ?_
  have hs1 := trivial; have hs2 := trivial; have hs3 := trivial
  have hAt := trivial; have hMo := trivial
  have hCk := pf_r31Check n m
  by_cases hok : nOk n m
  · rw [nCheck_yes hok] at hCk
    rw [show plCl n m = plU1 n m n.toNat n.toNat ++ plU2 n m n.toNat n.toNat by unfold plCl; rw [if_pos hok]]
    obtain ⟨n, rfl⟩ : ∃ N : Nat, n = N := ⟨n.toNat, by unfold nOk at hok; omega⟩
    obtain ⟨m, rfl⟩ : ∃ N : Nat, m = N := ⟨m.toNat, by unfold nOk at hok; omega⟩
    have hn : n ≤ 64 := by unfold nOk at hok; omega
    rw [Int.toNat_natCast]
    have hA := fun (a k : Nat) (ha : a < n) (hk : k < n) => pf_r31At (n := n) (m := m) (a := a) (b := k) hok (by omega) (by omega) (by omega) (by omega)
    (refine SF_of_bodyX (aload tt) (aload_ok tyOK) Tryz.func32 rfl (by kernel_rfl) ?_; simp only [Tryz.ntmps32, List.length_cons, List.length_nil, Nat.reduceAdd, Nat.reduceSub, List.replicate_succ, List.replicate_zero, List.cons_append, List.nil_append])
    (refine Wk.o ?_; (repeat revert hK K); refine W1545a ?_; (repeat intro K hK); refine ⟨?_⟩)
    refine AX_nil 5 57 1 rfl ?_
    (refine AWH (σ := Nat × List (List Int)) [17, 18, 19, 7, 8, 22, 23, 24, 27, 28, 29, 30, 31, 32, 33, 34, 25, 26, 35, 36, 37, 38, 39, 40, 41, 42, 20, 21] (fun (i, R) => [(6, lint i), (5, .osl 0 0 R.length 1)]) (fun (i, R) => [some ⟨57, R.map rowA⟩]) (fun (i, R) => []) (fun (i, R) => i ≤ n ∧ R = plU1 n m n i ∧ R.length ≤ 5000 * i) (fun (i, R) => n - i) (0, []) (by first | exact ⟨Nat.zero_le _, rfl, Nat.le_refl _⟩) ?_; rintro ⟨i, R⟩ d fr hfr ⟨hi, hR, hRl⟩; simp only [updS, deadS, List.set_cons_succ, List.set_cons_zero, lint] at hfr; subst hfr; (try dsimp only))
    by_cases hlt : i < n
    · have hMo := pf_r32Most (rowV n m i n) (by rw [rowV_len]; omega) (rowV_lim n m i n)
      unfold iRows at hMo
      have hml := msAll_len (rowV n m i n)
      rw [rowV_len] at hml
      have hml2 : n * n ≤ 64 * 64 := Nat.mul_le_mul hn hn
      (refine Wk.o ?_; (repeat revert hK K); refine W1545a ?_; (repeat intro K hK); refine ⟨?_⟩)
      refine AX_nil 7 3 1 rfl ?_
      (refine AWH (σ := Nat) [22, 23, 24, 27, 28, 29, 30, 31, 32, 33, 34, 25, 26] (fun k => [(8, lint k), (7, .osl 1 0 k 1)]) (fun k => [some ⟨57, R.map rowA⟩, some ⟨3, (rowV n m i k).map lint⟩]) (fun k => []) (fun k => k ≤ n) (fun k => n - k) 0 (by first | exact Nat.zero_le _) ?_; rintro k d fr hfr hk; simp only [updS, deadS, List.set_cons_succ, List.set_cons_zero, lint] at hfr; subst hfr; (try dsimp only))
      by_cases hlk : k < n
      · have hAt := hA i k hlt hlk
        have hrl := rowV_len n m i k
        (refine Wk.o ?_; (repeat revert hK K); refine W1545a ?_; (repeat intro K hK); refine ⟨?_⟩)
        exact whx_ren [0, 3] (k + 1) (by omega) (by (first | omega | (dsimp only; omega) | (simp only; omega))) rfl (by decide) (by decide) (by (simp (disch := omega) only [go_sem, lint, rows_rn, rows_id, rows_one])) (by (simp (disch := omega) only [go_sem, lint, rows_rn, rows_id, rows_one])) (by rw [rowV_nx]; (simp (disch := omega) only [go_sem, lint, rows_rn, rows_id, rows_one])) (fun d => by (simp (disch := omega) only [go_sem, lint, rows_rn, rows_id, rows_one]))
      · obtain rfl : k = n := by omega
        (repeat (first | (with_reducible first | refine AX_block ?_ | refine AX_skip ?_ | refine AX_exit ?_ | refine AX_ret ?_ | refine AX_ift ?_ | refine AX_iff ?_ | refine AX_seq_k (fun K hK => ?_) | refine ContX.use (by assumption) ?_) | simp only [thenX, inBlockX, if_true, if_false, reduceCtorEq]))
        ((with_reducible refine AX_reg0 fun K hK => ?_); simp only [go_sem])
        repeat (first | ((with_reducible refine XOP tyOK ?_); simp (disch := omega) only [go_sem , range_rowsU, iInts, iRows, iFlat, hs1, hs2, hs3, rows_one, rows_take, List.length_nil]; (with_reducible refine XRes_id ?_)) | (with_reducible refine XSK ?_))
        ((with_reducible refine XRes_nil ?_); refine hK _ ?_; clear hK K)
        (repeat (first | (with_reducible first | refine AX_block ?_ | refine AX_skip ?_ | refine AX_exit ?_ | refine AX_ret ?_ | refine AX_ift ?_ | refine AX_iff ?_ | refine AX_seq_k (fun K hK => ?_) | refine ContX.use (by assumption) ?_) | simp only [thenX, inBlockX, if_true, if_false, reduceCtorEq]))
        refine AX_freeze [1] [(7, .iv (iInts (rowV k m i k)))] (fun p hp => ?_) ?_
        · rw [List.mem_singleton.1 hp]; refine frz_ints (t := 3) (only_mk (ds := [1]) (by decide) ?_) (rowV_len _ _ _ _).symm; rfl
        simp only [setN, updS, List.set_cons_succ, List.set_cons_zero]
        (refine Wk.o ?_; (repeat revert hK K); refine W1545b ?_; (repeat intro K hK); refine ⟨?_⟩)
        obtain ⟨R3, hR3⟩ : ∃ R3, R3 = R ++ [rowV k m i k] ++ msAll (rowV k m i k) := ⟨_, rfl⟩
        have hlen : R3.length = R.length + 1 + (msAll (rowV k m i k)).length := by rw [hR3, List.length_append, List.length_append]; rfl
        refine xs_set (P := WhX _ _ _ _ _ _ _ _ _) 4 57 _ (R3.map rowA) rfl ?_ ?_
        · rw [List.take_of_length_le (by simp), hR3, List.map_append, List.map_append]; rfl
        simp only [List.set_cons_succ, List.set_cons_zero]
        exact whx_ren [4] (i + 1, R3) ⟨by omega, by rw [hR3, hR, plU1_succ], by show R3.length ≤ _; omega⟩ (by (first | omega | (dsimp only; omega) | (simp only; omega))) rfl (by decide) (by decide) (by (simp (disch := omega) only [go_sem, lint, rows_rn, rows_id, rows_one])) (by (simp (disch := omega) only [go_sem, lint, rows_rn, rows_id, rows_one])) (by (simp (disch := omega) only [go_sem, lint, rows_rn, rows_id, rows_one])) (fun d => by simp (disch := omega) only [go_sem, lint, rows_rn, rows_id, rows_one, hlen])
    obtain rfl : i = n := by omega
    (refine Wk.o ?_; (repeat revert hK K); refine W1545a ?_; (repeat intro K hK); refine ⟨?_⟩)
    (refine AWH (σ := Nat × List (List Int)) [43, 44, 45, 10, 11, 48, 49, 50, 53, 54, 55, 56, 57, 58, 59, 60, 51, 52, 61, 62, 63, 64, 46, 47] (fun (i2, R2) => [(9, lint i2), (5, .osl 0 0 R2.length 1)]) (fun (i2, R2) => [some ⟨57, R2.map rowA⟩]) (fun (i2, R2) => []) (fun (i2, R2) => i2 ≤ i ∧ R2 = R ++ plU2 i m i i2 ∧ R2.length ≤ 320000 + 5000 * i2) (fun (i2, R2) => i - i2) (0, R) (by first | exact ⟨Nat.zero_le _, by simp [plU2], by show R.length ≤ _; omega⟩) ?_; rintro ⟨i2, R2⟩ d fr hfr ⟨hi2, hR2, hR2l⟩; simp only [updS, deadS, List.set_cons_succ, List.set_cons_zero, lint] at hfr; subst hfr; (try dsimp only))
    by_cases hlt2 : i2 < i
    · have hMo := pf_r32Most (colV i m i2 i) (by rw [colV_len']; omega) (colV_lim i m i2 i)
      unfold iRows at hMo
      have hml := msAll_len (colV i m i2 i)
      rw [colV_len'] at hml
      have hml2 : i * i ≤ 64 * 64 := Nat.mul_le_mul hn hn
      (refine Wk.o ?_; (repeat revert hK K); refine W1545a ?_; (repeat intro K hK); refine ⟨?_⟩)
      refine AX_nil 10 3 1 rfl ?_
      (refine AWH (σ := Nat) [48, 49, 50, 53, 54, 55, 56, 57, 58, 59, 60, 51, 52] (fun k => [(11, lint k), (10, .osl 1 0 k 1)]) (fun k => [some ⟨57, R2.map rowA⟩, some ⟨3, (colV i m i2 k).map lint⟩]) (fun k => []) (fun k => k ≤ i) (fun k => i - k) 0 (by first | exact Nat.zero_le _) ?_; rintro k d fr hfr hk; simp only [updS, deadS, List.set_cons_succ, List.set_cons_zero, lint] at hfr; subst hfr; (try dsimp only))
      by_cases hlk : k < i
      · have hAt := hA k i2 hlk hlt2
        have hrl := colV_len' i m i2 k
        (refine Wk.o ?_; (repeat revert hK K); refine W1545a ?_; (repeat intro K hK); refine ⟨?_⟩)
        exact whx_ren [0, 3] (k + 1) (by omega) (by (first | omega | (dsimp only; omega) | (simp only; omega))) rfl (by decide) (by decide) (by (simp (disch := omega) only [go_sem, lint, rows_rn, rows_id, rows_one])) (by (simp (disch := omega) only [go_sem, lint, rows_rn, rows_id, rows_one])) (by rw [colV_nx]; (simp (disch := omega) only [go_sem, lint, rows_rn, rows_id, rows_one])) (fun d => by (simp (disch := omega) only [go_sem, lint, rows_rn, rows_id, rows_one]))
      · obtain rfl : k = i := by omega
        (repeat (first | (with_reducible first | refine AX_block ?_ | refine AX_skip ?_ | refine AX_exit ?_ | refine AX_ret ?_ | refine AX_ift ?_ | refine AX_iff ?_ | refine AX_seq_k (fun K hK => ?_) | refine ContX.use (by assumption) ?_) | simp only [thenX, inBlockX, if_true, if_false, reduceCtorEq]))
        ((with_reducible refine AX_reg0 fun K hK => ?_); simp only [go_sem])
        repeat (first | ((with_reducible refine XOP tyOK ?_); simp (disch := omega) only [go_sem , range_rowsU, iInts, iRows, iFlat, hs1, hs2, hs3, rows_one, rows_take, List.length_nil]; (with_reducible refine XRes_id ?_)) | (with_reducible refine XSK ?_))
        ((with_reducible refine XRes_nil ?_); refine hK _ ?_; clear hK K)
        (repeat (first | (with_reducible first | refine AX_block ?_ | refine AX_skip ?_ | refine AX_exit ?_ | refine AX_ret ?_ | refine AX_ift ?_ | refine AX_iff ?_ | refine AX_seq_k (fun K hK => ?_) | refine ContX.use (by assumption) ?_) | simp only [thenX, inBlockX, if_true, if_false, reduceCtorEq]))
        refine AX_freeze [1] [(10, .iv (iInts (colV k m i2 k)))] (fun p hp => ?_) ?_
        · rw [List.mem_singleton.1 hp]; refine frz_ints (t := 3) (only_mk (ds := [1]) (by decide) ?_) (colV_len' _ _ _ _).symm; rfl
        simp only [setN, updS, List.set_cons_succ, List.set_cons_zero]
        (refine Wk.o ?_; (repeat revert hK K); refine W1545b ?_; (repeat intro K hK); refine ⟨?_⟩)
        obtain ⟨R3, hR3⟩ : ∃ R3, R3 = R2 ++ msAll (colV k m i2 k) := ⟨_, rfl⟩
        have hlen : R3.length = R2.length + (msAll (colV k m i2 k)).length := by rw [hR3, List.length_append]
        refine xs_set (P := WhX _ _ _ _ _ _ _ _ _) 2 57 _ (R3.map rowA) rfl ?_ ?_
        · rw [hR3, List.map_append]
        simp only [List.set_cons_succ, List.set_cons_zero]
        exact whx_ren [2] (i2 + 1, R3) ⟨by omega, by rw [hR3, hR2, plU2_succ, List.append_assoc], by show R3.length ≤ _; omega⟩ (by (first | omega | (dsimp only; omega) | (simp only; omega))) rfl (by decide) (by decide) (by (simp (disch := omega) only [go_sem, lint, rows_rn, rows_id, rows_one])) (by (simp (disch := omega) only [go_sem, lint, rows_rn, rows_id, rows_one])) (by (simp (disch := omega) only [go_sem, lint, rows_rn, rows_id, rows_one])) (fun d => by simp (disch := omega) only [go_sem, lint, rows_rn, rows_id, rows_one, hlen])
    obtain rfl : i2 = i := by omega
    (refine Wk.o ?_; (repeat revert hK K); refine W1545a ?_; (repeat intro K hK); refine ⟨?_⟩)
    (simp only [bodyX]; refine ⟨_, by simp only [aresults, aresult, XS.as, Tryz.results32, aload, go_sem, Option.bind_some]; rfl, ?_⟩)
    exact ⟨_, snap_rws rfl rfl, by rw [hR2, hR], trivial⟩
  · have hs1 := nCheck_no hok
    rw [nCheck_no hok] at hCk
    rw [show plCl n m = [] by unfold plCl; rw [if_neg hok]]
    (refine SF_of_bodyX (aload tt) (aload_ok tyOK) Tryz.func32 rfl (by kernel_rfl) ?_; simp only [Tryz.ntmps32, List.length_cons, List.length_nil, Nat.reduceAdd, Nat.reduceSub, List.replicate_succ, List.replicate_zero, List.cons_append, List.nil_append])
    (refine Wk.o ?_; (repeat revert hK K); refine W1545a ?_; (repeat intro K hK); refine ⟨?_⟩)
    (simp only [bodyX]; refine ⟨_, by simp only [aresults, aresult, XS.as, Tryz.results32, aload, go_sem, Option.bind_some]; rfl, ?_⟩)
    exact ⟨_, .iv _ _ (.nil _ _), rfl, trivial⟩
end Go.Proofs.YtcjnikkmjhagmaaGreatDoor
