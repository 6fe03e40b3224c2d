import Derived.Test.YtcjnikkmjhagmaaGreatDoorMgBF
import Derived.Test.YtcjnikkmjhagmaaGreatDoorMgAV
import Derived.Test.YtcjnikkmjhagmaaGreatDoorMgAW
import Derived.Test.YtcjnikkmjhagmaaGreatDoorMgBD
namespace Go.Proofs.YtcjnikkmjhagmaaGreatDoor
open Go.RowKit
set_option linter.unusedVariables false
set_option linter.unusedSimpArgs false
def qP (n m : Int) : Int := if nOk n m then cP n.toNat else 0
def qT (n m : Int) (p : Nat) : Int := if nOk n m ∧ p ≤ 2016 then cTm n.toNat p else 0
def qS (n m : Int) : Int := if nOk n m then cSt n.toNat m.toNat else 0
def qM (n m : Int) (e : Nat) : Int := if nOk n m ∧ (e : Int) ≤ n then cMv n.toNat m.toNat e else 0
theorem qP_lim (n m : Int) : 0 ≤ qP n m ∧ qP n m ≤ 100000000 := by
  unfold qP; split
  · next h => obtain ⟨N, M, rfl, rfl, hN, hM⟩ := nOk_nat h; have := cP_lim hN; rw [Int.toNat_natCast]; unfold cP; omega
  · omega
theorem qT_lim (n m : Int) (p : Nat) : 0 ≤ qT n m p ∧ qT n m p ≤ 100000000 := by
  unfold qT; split
  · next h => obtain ⟨N, M, rfl, rfl, hN, hM⟩ := nOk_nat h.1; have := cTm_lim hN h.2; rw [Int.toNat_natCast]; unfold cTm; omega
  · omega
theorem qS_lim (n m : Int) : 0 ≤ qS n m ∧ qS n m ≤ 100000000 := by
  unfold qS; split
  · next h => obtain ⟨N, M, rfl, rfl, hN, hM⟩ := nOk_nat h; have := cSt_lim hN hM; rw [Int.toNat_natCast, Int.toNat_natCast]; unfold cSt; omega
  · omega
theorem qM_lim (n m : Int) (e : Nat) : 0 ≤ qM n m e ∧ qM n m e ≤ 100000000 := by
  unfold qM; split
  · next h => obtain ⟨N, M, rfl, rfl, hN, hM⟩ := nOk_nat h.1; have := cMv_lim hN hM (by omega : e ≤ N); rw [Int.toNat_natCast, Int.toNat_natCast]; unfold cMv; omega
  · omega
def prN (l : List Op5) : Nat := (oPairL l l.length).length / 2
def enN (l : List Op5) : Nat := l.length - (oPends l l.length).length
theorem pf_PairsN (l : List Op5) (hl : l.length ≤ 100) : PF Tryz.prog 27 [.iv (iOps l)] fun r H' => r = .iv (iFlat (oPairL l l.length) (prN l) 2) ∧ H' = [] :=
  SF.mono (pf_Pairs l hl) fun r H' ⟨n, h1, h2, h3⟩ => by
    have e : n = prN l := by unfold prN; omega
    subst e; exact ⟨h2, h3⟩
theorem pairs_le (l : List Op5) : ∀ k, (oPairL l k).length ≤ 2 * (k * l.length)
  | 0 => by simp [oPairL]
  | k + 1 => by
    obtain ⟨n, h1, h2⟩ := oPair_len l k l.length
    have := pairs_le l k
    rw [oPairL_succ, List.length_append, Nat.add_mul, Nat.one_mul, h2]; omega
def cAll (n m : Int) (l : List Op5) : Int := if oCE l = 0 ∧ nOk n m ∧ (l.length : Int) = n then qP n m + qT n m (prN l) + qS n m + qM n m (enN l) else 0
theorem W103ea {A B : Prop} (h9 : B) (w : B → A := by (intro h9; (repeat intro K hK); refine ⟨?_⟩; (repeat (first | (first | (with_reducible first | refine AX_block ?_ | refine AX_skip ?_ | refine AX_exit ?_ | refine AX_ret ?_ | refine AX_ift ?_ | refine AX_iff ?_ | refine AX_seq_k (fun K hK => ?_) | refine ContX.use (by assumption) ?_) | simp only [thenX, inBlockX, if_true, if_false, reduceCtorEq]) | (first | ((with_reducible refine XOP tyOK ?_); simp (disch := omega) only [go_sem , g4, szG, iOps, iFlat, iInts, eqRes, Int.toNat_zero, Int.toNat_one, hs1, hs2, hs3, rows_one, rows_take, List.length_nil]; (with_reducible refine XRes_id ?_)) | (with_reducible refine XSK ?_)) | ((with_reducible refine XRes_nil ?_); refine hK _ ?_; clear hK K) | ((with_reducible refine AX_reg0 fun K hK => ?_); simp only [go_sem]) | (first | (first | refine XTL (by rfl) hO ?_ | refine ATL tyOK (by rfl) hO ?_ | refine XTL (by rfl) hCk ?_ | refine ATL tyOK (by rfl) hCk ?_ | refine XTL (by rfl) hE ?_ | refine ATL tyOK (by rfl) hE ?_) | ((refine ADR_tellF (by rfl) hP ?_ (fun _ => rfl) ?_); (focus exact idsA (by rfl)); (simp only [putL, List.set_cons_succ, List.set_cons_zero])) | ((refine ADR_tellF (by rfl) hPr ?_ (fun _ => rfl) ?_); (focus exact idsA (by rfl)); (simp only [putL, List.set_cons_succ, List.set_cons_zero])) | ((refine ADR_tellF (by rfl) hT ?_ (fun _ => rfl) ?_); (focus exact idsA (by rfl)); (simp only [putL, List.set_cons_succ, List.set_cons_zero])) | ((refine ADR_tellF (by rfl) hS ?_ (fun _ => rfl) ?_); (focus exact idsA (by rfl)); (simp only [putL, List.set_cons_succ, List.set_cons_zero])) | ((refine ADR_tellF (by rfl) hM ?_ (fun _ => rfl) ?_); (focus exact idsA (by rfl)); (simp only [putL, List.set_cons_succ, List.set_cons_zero])) | (first | refine XTL (by rfl) hP ?_ | refine ATL tyOK (by rfl) hP ?_ | refine XTL (by rfl) hPr ?_ | refine ATL tyOK (by rfl) hPr ?_ | refine XTL (by rfl) hT ?_ | refine ATL tyOK (by rfl) hT ?_ | refine XTL (by rfl) hS ?_ | refine ATL tyOK (by rfl) hS ?_ | refine XTL (by rfl) hM ?_ | refine ATL tyOK (by rfl) hM ?_ | refine XTL (by rfl) hSum ?_ | refine ATL tyOK (by rfl) hSum ?_)))); refine Wk.o ?_; (repeat revert hK K); exact h9)) : A := w h9
set_option maxRecDepth 100000 in
set_option maxHeartbeats 1000000 in
theorem pf_cAll (n m : Int) (l : List Op5) (hl : l.length ≤ 100) (hs : okS l) : PF Tryz.prog 21 [szA n m, .iv (iOps l)] fun r H' => r = lt (.int .i64 (cAll n m l)) ∧ H' = [] := by
  refine SF.forgetAll ?_
  have hs1 := trivial; have hs2 := trivial; have hs3 := trivial
  have hO := pf_oChk l (by omega) hs
  have hCk := pf_cMay n m
  have hE := pf_Pending l (by omega)
  have hP : PF Tryz.prog 61 [szA n m] fun r H' => r = lt (.int .i64 (qP n m)) ∧ H' = [] := pf_cPlaces n m
  have hPr := pf_PairsN l hl
  have hT : PF Tryz.prog 62 [szA n m, lt (.int .i64 (prN l))] fun r H' => r = lt (.int .i64 (qT n m (prN l))) ∧ H' = [] := pf_cTimes n m (prN l)
  have hS : PF Tryz.prog 63 [szA n m] fun r H' => r = lt (.int .i64 (qS n m)) ∧ H' = [] := pf_cStates n m
  have hM : PF Tryz.prog 64 [szA n m, lt (.int .i64 (enN l))] fun r H' => r = lt (.int .i64 (qM n m (enN l))) ∧ H' = [] := pf_cMoves n m (enN l)
  rw [show ((enN l : Nat) : Int) = (l.length : Int) - ((oPends l l.length).length : Int) by have := oPends_len l l.length; unfold enN; omega] at hM
  have l1 := qP_lim n m
  have l2 := qT_lim n m (prN l)
  have l3 := qS_lim n m
  have l4 := qM_lim n m (enN l)
  have hSum := pf_cSum (qP n m) (qT n m (prN l)) (qS n m) (qM n m (enN l)) l1 l2 l3 l4
  have hpl := oPends_len l l.length
  have hen : (enN l : Int) = (l.length : Int) - ((oPends l l.length).length : Int) := by unfold enN; omega
  have hpr : prN l ≤ 1000000000 := by have := pairs_le l l.length; have h2 : l.length * l.length ≤ 100 * 100 := Nat.mul_le_mul hl hl; unfold prN; omega
  by_cases h1 : oCE l = 0
  · by_cases h2 : nOk n m
    · rw [decide_eq_true h2] at hCk
      by_cases h3 : (l.length : Int) = n
      · have e : cAll n m l = qP n m + qT n m (prN l) + qS n m + qM n m (enN l) := by unfold cAll; rw [if_pos ⟨h1, h2, h3⟩]
        rw [e]
        rw [h1] at hO
        (refine SF_of_bodyX (aload tt) (aload_ok tyOK) Tryz.func21 rfl (by kernel_rfl) ?_; simp only [Tryz.ntmps21, List.length_cons, List.length_nil, Nat.reduceAdd, Nat.reduceSub, List.replicate_succ, List.replicate_zero, List.cons_append, List.nil_append])
        (refine Wk.o ?_; (repeat revert hK K); refine W103ea ?_; (repeat intro K hK); refine ⟨?_⟩)
        refine AX_freeze [0] [(2, .iv (.ptr (szG n m) 2))] (fun p hp => ?_) ?_
        · rw [List.mem_singleton.1 hp]; exact frz_sz (by decide) rfl
        simp only [setN, updS, List.set_cons_succ, List.set_cons_zero]
        repeat (first | (first | (with_reducible first | refine AX_block ?_ | refine AX_skip ?_ | refine AX_exit ?_ | refine AX_ret ?_ | refine AX_ift ?_ | refine AX_iff ?_ | refine AX_seq_k (fun K hK => ?_) | refine ContX.use (by assumption) ?_) | simp only [thenX, inBlockX, if_true, if_false, reduceCtorEq]) | (first | ((first | (with_reducible refine XRes_op tyOK ?_ ?_) | ((with_reducible first | refine ADF_op tyOK ?_ ?_ ?_ | refine ADX_op tyOK ?_ ?_ ?_); (focus rfl)) | (with_reducible refine ADR_alloc1 tyOK ?_ ?_) | ((with_reducible refine ADR_free1 tyOK ?_ ?_ ?_); (focus rfl)) | ((with_reducible refine ADR_free0 tyOK ?_ ?_ ?_); (focus rfl)) | ((with_reducible refine ADR_read1 tyOK ?_ ?_ ?_); (focus rfl)) | (with_reducible refine ADR_chg1 tyOK ?_ ?_)); (focus (first | (with_reducible rfl) | ((simp (disch := omega) only [go_sem]); done))); simp (disch := omega) only [go_sem , g4, szG, iOps, iFlat, iInts, eqRes, Int.toNat_zero, Int.toNat_one, hs1, hs2, hs3, rows_one, rows_take, List.length_nil]; (first | (with_reducible refine XRes_id ?_) | (with_reducible refine ADF_id ?_) | (with_reducible refine ADR_id1 ?_) | (with_reducible refine ADX_id ?_))) | ((first | (with_reducible refine XRes_skip ?_ ?_) | (with_reducible refine ADF_skip (b := true) ?_ ?_) | (with_reducible refine ADX_skip ?_ ?_) | ((with_reducible refine ADR_skip1 ?_ ?_ ?_); (focus rfl))); (focus (first | rfl | ((simp (disch := omega) only [go_sem]); done))); (simp only [putL, List.set_cons_succ, List.set_cons_zero]))) | ((first | (with_reducible refine XRes_nil ?_) | (with_reducible refine ADF_nil ?_) | (with_reducible refine ADR_nil ?_) | (with_reducible refine ADX_nil ?_)); (first | refine hK _ ?_ | refine hK _ _ ?_); clear hK K) | ((with_reducible refine AX_reg0 fun K hK => ?_); simp only [go_sem]) | ((refine AX_drawL tyOK (by kernel_rfl) (by decide +kernel) fun K hK => ?_); (simp only [go_sem, alL, kdOfL, kdOf, isApp, List.any_cons, List.any_nil, List.map_cons, List.map_nil, Bool.or_false, Bool.false_or, Bool.or_true, Bool.true_or, reduceCtorEq])) | (first | (first | refine XTL (by rfl) hO ?_ | refine ATL tyOK (by rfl) hO ?_ | refine XTL (by rfl) hCk ?_ | refine ATL tyOK (by rfl) hCk ?_ | refine XTL (by rfl) hE ?_ | refine ATL tyOK (by rfl) hE ?_) | ((refine ADR_tellF (by rfl) hP ?_ (fun _ => rfl) ?_); (focus exact idsA (by rfl)); (simp only [putL, List.set_cons_succ, List.set_cons_zero])) | ((refine ADR_tellF (by rfl) hPr ?_ (fun _ => rfl) ?_); (focus exact idsA (by rfl)); (simp only [putL, List.set_cons_succ, List.set_cons_zero])) | ((refine ADR_tellF (by rfl) hT ?_ (fun _ => rfl) ?_); (focus exact idsA (by rfl)); (simp only [putL, List.set_cons_succ, List.set_cons_zero])) | ((refine ADR_tellF (by rfl) hS ?_ (fun _ => rfl) ?_); (focus exact idsA (by rfl)); (simp only [putL, List.set_cons_succ, List.set_cons_zero])) | ((refine ADR_tellF (by rfl) hM ?_ (fun _ => rfl) ?_); (focus exact idsA (by rfl)); (simp only [putL, List.set_cons_succ, List.set_cons_zero])) | (first | refine XTL (by rfl) hP ?_ | refine ATL tyOK (by rfl) hP ?_ | refine XTL (by rfl) hPr ?_ | refine ATL tyOK (by rfl) hPr ?_ | refine XTL (by rfl) hT ?_ | refine ATL tyOK (by rfl) hT ?_ | refine XTL (by rfl) hS ?_ | refine ATL tyOK (by rfl) hS ?_ | refine XTL (by rfl) hM ?_ | refine ATL tyOK (by rfl) hM ?_ | refine XTL (by rfl) hSum ?_ | refine ATL tyOK (by rfl) hSum ?_)))
        refine AX_drawN tyOK (by kernel_rfl) 14 1 (by decide +kernel) fun K hK => ?_
        simp only [go_sem, alD, kdOf, isApp, List.any_cons, List.any_nil, List.map_cons, List.map_nil, Bool.or_false, Bool.false_or, Bool.or_true, Bool.true_or, reduceCtorEq]
        repeat (first | (first | ((first | (with_reducible refine XRes_op tyOK ?_ ?_) | ((with_reducible first | refine ADF_op tyOK ?_ ?_ ?_ | refine ADX_op tyOK ?_ ?_ ?_); (focus rfl)) | (with_reducible refine ADR_alloc1 tyOK ?_ ?_) | ((with_reducible refine ADR_free1 tyOK ?_ ?_ ?_); (focus rfl)) | ((with_reducible refine ADR_free0 tyOK ?_ ?_ ?_); (focus rfl)) | ((with_reducible refine ADR_read1 tyOK ?_ ?_ ?_); (focus rfl)) | (with_reducible refine ADR_chg1 tyOK ?_ ?_)); (focus (first | (with_reducible rfl) | ((simp (disch := omega) only [go_sem]); done))); simp (disch := omega) only [go_sem , g4, szG, iOps, iFlat, iInts, eqRes, Int.toNat_zero, Int.toNat_one, hs1, hs2, hs3, rows_one, rows_take, List.length_nil]; (first | (with_reducible refine XRes_id ?_) | (with_reducible refine ADF_id ?_) | (with_reducible refine ADR_id1 ?_) | (with_reducible refine ADX_id ?_))) | ((first | (with_reducible refine XRes_skip ?_ ?_) | (with_reducible refine ADF_skip (b := true) ?_ ?_) | (with_reducible refine ADX_skip ?_ ?_) | ((with_reducible refine ADR_skip1 ?_ ?_ ?_); (focus rfl))); (focus (first | rfl | ((simp (disch := omega) only [go_sem]); done))); (simp only [putL, List.set_cons_succ, List.set_cons_zero]))) | ((first | (with_reducible refine XRes_nil ?_) | (with_reducible refine ADF_nil ?_) | (with_reducible refine ADR_nil ?_) | (with_reducible refine ADX_nil ?_)); (first | refine hK _ ?_ | refine hK _ _ ?_); clear hK K) | (first | (first | refine XTL (by rfl) hO ?_ | refine ATL tyOK (by rfl) hO ?_ | refine XTL (by rfl) hCk ?_ | refine ATL tyOK (by rfl) hCk ?_ | refine XTL (by rfl) hE ?_ | refine ATL tyOK (by rfl) hE ?_) | ((refine ADR_tellF (by rfl) hP ?_ (fun _ => rfl) ?_); (focus exact idsA (by rfl)); (simp only [putL, List.set_cons_succ, List.set_cons_zero])) | ((refine ADR_tellF (by rfl) hPr ?_ (fun _ => rfl) ?_); (focus exact idsA (by rfl)); (simp only [putL, List.set_cons_succ, List.set_cons_zero])) | ((refine ADR_tellF (by rfl) hT ?_ (fun _ => rfl) ?_); (focus exact idsA (by rfl)); (simp only [putL, List.set_cons_succ, List.set_cons_zero])) | ((refine ADR_tellF (by rfl) hS ?_ (fun _ => rfl) ?_); (focus exact idsA (by rfl)); (simp only [putL, List.set_cons_succ, List.set_cons_zero])) | ((refine ADR_tellF (by rfl) hM ?_ (fun _ => rfl) ?_); (focus exact idsA (by rfl)); (simp only [putL, List.set_cons_succ, List.set_cons_zero])) | (first | refine XTL (by rfl) hP ?_ | refine ATL tyOK (by rfl) hP ?_ | refine XTL (by rfl) hPr ?_ | refine ATL tyOK (by rfl) hPr ?_ | refine XTL (by rfl) hT ?_ | refine ATL tyOK (by rfl) hT ?_ | refine XTL (by rfl) hS ?_ | refine ATL tyOK (by rfl) hS ?_ | refine XTL (by rfl) hM ?_ | refine ATL tyOK (by rfl) hM ?_ | refine XTL (by rfl) hSum ?_ | refine ATL tyOK (by rfl) hSum ?_)))
        refine ADR_leaf tyOK 1 ⟨98, [lint 0, lint 0, lint 0, lint 0]⟩ (fun n => .optr n 0) rfl (.inl fun _ => rfl) (fun j y h => ?_) (fun H => ?_) rfl (by decide) (by simp) ?_
        · rcases j with _ | _ | _ | _ | j <;> simp at h <;> subst h <;> exact .iv _
        · rfl
        refine ADR_nil ?_
        refine hK _ _ ?_
        clear hK K
        simp only [go_sem, dsts, List.drop_succ_cons, List.drop_zero, List.map_cons, List.map_nil, List.set_cons_succ, List.set_cons_zero, putL]
        (refine Wk.o ?_; (repeat revert hK K); refine W103ea ?_; (repeat intro K hK); refine ⟨?_⟩)
        refine XRes_nil ?_
        (repeat (first | (with_reducible first | refine AX_block ?_ | refine AX_skip ?_ | refine AX_exit ?_ | refine AX_ret ?_ | refine AX_ift ?_ | refine AX_iff ?_ | refine AX_seq_k (fun K hK => ?_) | refine ContX.use (by assumption) ?_) | simp only [thenX, inBlockX, if_true, if_false, reduceCtorEq]))
        refine AX_freeze [1] [(8, .iv (.ptr (g4 (qP n m) (qT n m (prN l)) (qS n m) (qM n m (enN l))) 4))] (fun p hp => ?_) ?_
        · rw [List.mem_singleton.1 hp]; exact frz_g4 (by decide) rfl
        simp only [setN, updS, List.set_cons_succ, List.set_cons_zero]
        (refine Wk.o ?_; (repeat revert hK K); refine W103ea ?_; (repeat intro K hK); refine ⟨?_⟩)
        refine XRes_slot (by rfl) rfl (PF.tells (fun a ha => by rw [List.mem_singleton.1 ha]; exact .iv _) (fun _ => rfl) hSum) ?_
        rintro r H' ⟨rfl, rfl⟩
        (simp only [putL, List.set_cons_succ, List.set_cons_zero])
        (refine Wk.o ?_; (repeat revert hK K); refine W103ea ?_; (repeat intro K hK); refine ⟨?_⟩)
        (simp only [bodyX]; refine ⟨_, by simp only [aresults, aresult, XS.as, Tryz.results21, aload, go_sem, Option.bind_some]; rfl, ?_⟩)
        exact ⟨.iv _, rfl, trivial⟩
      · have e : cAll n m l = 0 := by unfold cAll; rw [if_neg fun h => h3 h.2.2]
        rw [e]
        rw [h1] at hO
        (refine SF_of_bodyX (aload tt) (aload_ok tyOK) Tryz.func21 rfl (by kernel_rfl) ?_; simp only [Tryz.ntmps21, List.length_cons, List.length_nil, Nat.reduceAdd, Nat.reduceSub, List.replicate_succ, List.replicate_zero, List.cons_append, List.nil_append])
        (refine Wk.o ?_; (repeat revert hK K); refine W103ea ?_; (repeat intro K hK); refine ⟨?_⟩)
        (simp only [bodyX]; refine ⟨_, by simp only [aresults, aresult, XS.as, Tryz.results21, aload, go_sem, Option.bind_some]; rfl, ?_⟩)
        exact ⟨.iv _, rfl, trivial⟩
    · rw [decide_eq_false h2] at hCk
      have e : cAll n m l = 0 := by unfold cAll; rw [if_neg fun h => h2 h.2.1]
      rw [e]
      rw [h1] at hO
      (refine SF_of_bodyX (aload tt) (aload_ok tyOK) Tryz.func21 rfl (by kernel_rfl) ?_; simp only [Tryz.ntmps21, List.length_cons, List.length_nil, Nat.reduceAdd, Nat.reduceSub, List.replicate_succ, List.replicate_zero, List.cons_append, List.nil_append])
      (refine Wk.o ?_; (repeat revert hK K); refine W103ea ?_; (repeat intro K hK); refine ⟨?_⟩)
      (simp only [bodyX]; refine ⟨_, by simp only [aresults, aresult, XS.as, Tryz.results21, aload, go_sem, Option.bind_some]; rfl, ?_⟩)
      exact ⟨.iv _, rfl, trivial⟩
  · have e : cAll n m l = 0 := by unfold cAll; rw [if_neg fun h => h1 h.1]
    rw [e]
    (refine SF_of_bodyX (aload tt) (aload_ok tyOK) Tryz.func21 rfl (by kernel_rfl) ?_; simp only [Tryz.ntmps21, List.length_cons, List.length_nil, Nat.reduceAdd, Nat.reduceSub, List.replicate_succ, List.replicate_zero, List.cons_append, List.nil_append])
    (refine Wk.o ?_; (repeat revert hK K); refine W103ea ?_; (repeat intro K hK); refine ⟨?_⟩)
    (simp only [bodyX]; refine ⟨_, by simp only [aresults, aresult, XS.as, Tryz.results21, aload, go_sem, Option.bind_some]; rfl, ?_⟩)
    exact ⟨.iv _, rfl, trivial⟩
end Go.Proofs.YtcjnikkmjhagmaaGreatDoor
namespace Go.Proofs.YtcjnikkmjhagmaaGreatDoor
def lb (b : Bool) : AV := lt (.bool b)
theorem rnL_lb (r : Nat → Nat) (xs : List Bool) : rnL r (xs.map lb) = xs.map lb := by rw [rnL_map, List.map_map]; rfl
theorem idL_lb (p : Nat → Bool) (xs : List Bool) : idL p (xs.map lb) = true := by rw [idL_all, List.all_map, List.all_eq_true]; exact fun _ _ => rfl
theorem lb_at {xs : List Bool} {k : Nat} (h : k < xs.length) : (xs.map lb)[k]? = some (lt (.bool (xs.getD k false))) := by
  rw [List.getElem?_map, List.getElem?_eq_getElem h, List.getD_eq_getElem?_getD, List.getElem?_eq_getElem h]; rfl
theorem lb_set (xs : List Bool) (k : Nat) (v : Bool) : (xs.map lb).set k (lt (.bool v)) = (xs.set k v).map lb := by rw [List.map_set]; rfl
theorem lb_snoc (xs : List Bool) (v : Bool) : xs.map lb ++ [lt (.bool v)] = (xs ++ [v]).map lb := by rw [List.map_append]; rfl
theorem lb_one (xs : List Bool) : (xs.map lb).all AV.one = true := by rw [List.all_map, List.all_eq_true]; exact fun _ _ => rfl
theorem take_lb {xs : List Bool} {n : Nat} (h : xs.length ≤ n) : (xs.map lb).take n = xs.map lb := List.take_of_length_le (by simpa using h)
theorem rep_lb (n : Nat) : List.replicate n (AV.iv (IV.lit (Value.bool false))) = (List.replicate n false).map lb := by rw [List.map_replicate]; rfl
theorem Snap.twoP {H : AHeap} {x y x' y' : AV} (h : Snap H x x') (k : Snap H y y') : Snap H (.tup [x, y]) (.tup [x', y']) := .tup _ _ rfl fun i a b e1 e2 => by
  match i with
  | 0 => simp at e1 e2; subst e1 e2; exact h
  | 1 => simp at e1 e2; subst e1 e2; exact k
  | i + 2 => simp at e1
attribute [go_sem] rnL_lb idL_lb lb_at lb_set lb_snoc lb_one take_lb
end Go.Proofs.YtcjnikkmjhagmaaGreatDoor
namespace Go.Proofs.YtcjnikkmjhagmaaGreatDoor
open Go.RowKit
set_option linter.unusedVariables false
set_option linter.unusedSimpArgs false
theorem pf_nVars (o s : Int) : PF Tryz.prog 30 [szA o s] fun r H' => r = lt (.int .i64 (nVars o s)) ∧ H' = [] :=
  PF_of_walk ⟨_, Tryz.func30, by kernel_rfl, rfl⟩ fun G w vs hi hr => by
    obtain ⟨v1, us, rfl, r1, hr⟩ := hr.uncons
    rw [hr.unnil, ra_agg2 r1]
    exact num_Vars o s w
def ptI (n s : Int) (ord : List Int) (k : Nat) : Nat := (nVar n s 1 (ord.getD k 0) k - 1).toNat
def ptU (n s : Int) (ord : List Int) : Nat → List Bool
  | 0 => List.replicate (nVars n s).toNat false
  | k + 1 => (ptU n s ord k).set (ptI n s ord k) true
def tkU (n : Nat) (ord : List Int) : Nat → List Bool
  | 0 => List.replicate n false
  | k + 1 => (tkU n ord k).set (ord.getD k 0).toNat true
def ptG (n : Nat) (ord : List Int) (k : Nat) : Prop := 0 ≤ ord.getD k 0 ∧ ord.getD k 0 < n ∧ (tkU n ord k).getD (ord.getD k 0).toNat false = false
def ptOk (n s : Int) (ord : List Int) : Prop := nOk n s ∧ (ord.length : Int) = n ∧ ∀ k, k < ord.length → ptG n.toNat ord k
instance (n : Nat) (ord : List Int) (k : Nat) : Decidable (ptG n ord k) := by unfold ptG; infer_instance
instance (n s : Int) (ord : List Int) : Decidable (ptOk n s ord) := by unfold ptOk; infer_instance
def ptM (n s : Int) (ord : List Int) : List Bool := if ptOk n s ord then ptU n s ord ord.length else []
def ptB (n s : Int) (ord : List Int) : Bool := decide (ptOk n s ord)
theorem nName_1 {n m a b : Int} (h : nOk n m) (h1 : 0 ≤ a) (h2 : a < n) (h3 : 0 ≤ b) (h4 : b < n) : nName n m 1 a b := ⟨h, by decide, by decide, h1, h2, h3, h4⟩
end Go.Proofs.YtcjnikkmjhagmaaGreatDoor
