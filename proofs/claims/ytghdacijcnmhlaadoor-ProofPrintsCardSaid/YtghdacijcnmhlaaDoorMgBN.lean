import Derived.Test.YtghdacijcnmhlaaDoorMgBI
import Derived.Test.YtghdacijcnmhlaaDoorMgBM
import Derived.Test.YtghdacijcnmhlaaDoorMgBG
import Derived.Test.YtghdacijcnmhlaaDoorMgBH
import Derived.Test.YtghdacijcnmhlaaDoorMgBE
import Derived.Test.YtghdacijcnmhlaaDoorMgBD
namespace Go.Proofs.YtghdacijcnmhlaaDoor
open Go.RowKit Go.Lib
set_option linter.unusedVariables false
set_option linter.unusedSimpArgs false
theorem stsGo_at {z : Int} {L : List (List Tok3)} {i : Nat} {xs : List Stp} (hi : i < L.length) : stsGo z (L.drop i) xs = if (L.getD i []).length = 0 then stsGo z (L.drop (i + 1)) xs else if (stepP (L.getD i [])).2.2 ≠ 0 then ([], (stepP (L.getD i [])).2.1, (stepP (L.getD i [])).2.2) else stsGo z (L.drop (i + 1)) (xs ++ [(stepP (L.getD i [])).1]) := by
  have e : L.drop i = L.getD i [] :: L.drop (i + 1) := by
    rw [List.drop_eq_getElem_cons hi, List.getD_eq_getElem?_getD, List.getElem?_eq_getElem hi]; rfl
  rw [e, stsGo]
theorem StpV.frz {HD : AHeap} {r : AV} {s : Stp} (h : StpV r s) : FrzV HD r (stpA s) := by
  rcases h with rfl | ⟨h1, rfl⟩
  · exact .same _
  · refine .agg _ _ rfl (fun i x y hx hy => ?_) rfl
    unfold stpC at hy
    rcases i with _ | _ | _ | _ | i
    · simp at hx hy; subst hx hy; exact .same _
    · simp at hx hy; subst hx hy; exact .same _
    · simp at hx hy; subst hx hy; rw [h1]; exact .iv _ _ (.nil _ _)
    · simp at hx hy; subst hx hy; exact .same _
    · simp at hx
theorem snap_sts0 {H : AHeap} : Snap H (lt (.slice none 0 0)) (.iv (iSts [])) := .iv _ _ (.nil _ _)
theorem W9356a {A B : Prop} (h9 : B) (w : B → A := by (intro h9; (repeat intro K hK); refine ⟨?_⟩; (repeat (first | (first | (with_reducible first | refine AX_block ?_ | refine AX_skip ?_ | refine AX_exit ?_ | refine AX_ret ?_ | refine AX_ift ?_ | refine AX_iff ?_ | refine AX_seq_k (fun K hK => ?_) | refine ContX.use (by assumption) ?_) | simp only [thenX, inBlockX, if_true, if_false, reduceCtorEq]) | (first | ((first | (with_reducible refine XRes_op tyOK ?_ ?_) | ((with_reducible first | refine ADF_op tyOK ?_ ?_ ?_ | refine ADX_op tyOK ?_ ?_ ?_); (focus rfl)) | (with_reducible refine ADR_alloc1 tyOK ?_ ?_) | ((with_reducible refine ADR_free1 tyOK ?_ ?_ ?_); (focus rfl)) | ((with_reducible refine ADR_free0 tyOK ?_ ?_ ?_); (focus rfl)) | ((with_reducible refine ADR_read1 tyOK ?_ ?_ ?_); (focus rfl)) | (with_reducible refine ADR_chg1 tyOK ?_ ?_)); (focus (first | (with_reducible rfl) | ((simp (disch := omega) only [go_sem]); done))); simp (disch := omega) only [go_sem , iInts, hs1, hs2, hs3, hs4, hs5, hs6, hs7, hs8, hs9, Int.toNat_zero, Int.toNat_one, Int.reduceToNat, Nat.zero_add, Int.toNat_natCast, ba_size]; (first | (with_reducible refine XRes_id ?_) | (with_reducible refine ADF_id ?_) | (with_reducible refine ADR_id1 ?_) | (with_reducible refine ADX_id ?_))) | ((first | (with_reducible refine XRes_skip ?_ ?_) | (with_reducible refine ADF_skip (b := true) ?_ ?_) | (with_reducible refine ADX_skip ?_ ?_) | ((with_reducible refine ADR_skip1 ?_ ?_ ?_); (focus rfl))); (focus (first | rfl | ((simp (disch := omega) only [go_sem]); done))); (simp only [putL, List.set_cons_succ, List.set_cons_zero]))) | ((first | (with_reducible refine XRes_nil ?_) | (with_reducible refine ADF_nil ?_) | (with_reducible refine ADR_nil ?_) | (with_reducible refine ADX_nil ?_)); (first | refine hK _ ?_ | refine hK _ _ ?_); clear hK K) | (first | (first | refine XTL (by rfl) hLn ?_ | refine ATL tyOK (by rfl) hLn ?_)) | ((with_reducible refine AX_reg0 fun K hK => ?_); simp only [go_sem]) | ((refine AX_drawG1 tyOK (by kernel_rfl) (by rfl) (by kernel_rfl) fun K hK => ?_); (first | simp only [go_sem, preN, effOp, runF, alM, mapOp, alD2, kdOf2, Bool.not_false, Bool.not_true, reduceCtorEq] | simp only [go_sem, preN, effOp, runF, alM, mapOp, Bool.not_false, Bool.not_true, reduceCtorEq] | simp only [go_sem, preN, effOp, runF, alD2, kdOf2, Bool.not_false, Bool.not_true, reduceCtorEq] | simp only [go_sem, alD2, kdOf2, Bool.not_false, Bool.not_true, reduceCtorEq] | simp only [go_sem, preN, effOp, runF, Bool.not_false, Bool.not_true, reduceCtorEq] | simp only [go_sem])))); refine Wk.o ?_; (repeat revert hK K); exact h9)) : A := w h9
set_option maxRecDepth 100000 in
set_option maxHeartbeats 8000000 in
theorem pf_prParse (l : List UInt8) (hl : l.length ≤ 1000000) (hok : LsOK (lnsT l)) : PF Tryd.prog 8 [lt (.string (ba l))] fun r H' => r = .tup [.iv (iSts (prp l).1), lt (.int .i64 (prp l).2.1), lt (.int .i64 (prp l).2.2)] ∧ H' = [] := by
  refine SF.frozen ?_
  have hs1 := trivial; have hs2 := trivial; have hs3 := trivial; have hs4 := trivial; have hs5 := trivial; have hs6 := trivial; have hs7 := trivial; have hs8 := trivial; have hs9 := trivial; have hLn := trivial
  have hLn := pf_LinesT l (by omega)
  have hs1 : decide ((1000000 : Int) < (l.length : Int)) = false := decide_eq_false (by omega)
  have hlen := hok.len
  have hget := hok.get
  unfold prp
  generalize lnsT l = L at *
  have hs2 : iLs L = .sl (fun j => iTokL (L.getD j [])) L.length 1 := rfl
  generalize hG : stsGo l.length L [] = G at *
  (refine SF_of_bodyX (aload tt) (aload_ok tyOK) Tryd.func8 rfl (by kernel_rfl) ?_; simp only [Tryd.ntmps8, List.length_cons, List.length_nil, Nat.reduceAdd, Nat.reduceSub, List.replicate_succ, List.replicate_zero, List.cons_append, List.nil_append])
  (refine Wk.o ?_; (repeat revert hK K); refine W9356a ?_; (repeat intro K hK); refine ⟨?_⟩)
  refine AX_nil 2 52 4 rfl ?_
  have hinit : stL [] = [] := rfl
  (refine AX_wh (σ := Nat × List Stp) [16, 17, 18, 6, 19, 20, 21, 22, 23, 7, 24, 25, 26, 27, 28, 29, 30, 31, 32, 8, 33, 34, 35, 36, 37, 38, 39, 3, 4, 40, 41, 42, 43, 44] (fun (i, xs) => [(15, lint i), (2, .osl 0 0 xs.length 4)]) (fun (i, xs) => [some ⟨52, stL xs⟩]) (fun (i, xs) => []) (fun (i, xs) => i ≤ L.length ∧ G = stsGo l.length (L.drop i) xs ∧ xs.length ≤ i) (fun (i, xs) => L.length - i) (0, []) (fun d => by first | ((simp only [deadS, updS, List.set_cons_succ, List.set_cons_zero, lint, List.length_nil, List.length_cons]); done) | ((simp only [deadS, updS, List.set_cons_succ, List.set_cons_zero, lint, List.length_nil, List.length_cons]); rfl) | rfl) (by first | (with_reducible rfl) | (simp only [hinit]; done) | rfl) (by first | (with_reducible rfl) | rfl) (by first | exact ⟨Nat.zero_le _, by rw [List.drop_zero]; exact hG.symm, by simp⟩) ?_; rintro ⟨i, xs⟩ d fr hfr ⟨hi, hgo, hxl⟩; simp only [updS, deadS, List.set_cons_succ, List.set_cons_zero, lint] at hfr; subst hfr; (try dsimp only))
  by_cases hlt : i < L.length
  · have hs3 : decide ((i : Int) < (L.length : Int)) = true := decide_eq_true (by omega)
    rw [stsGo_at hlt] at hgo
    have hT := hget i
    have hs4 : iTokL (L.getD i []) = .sl (fun j => .lit ((tokL (L.getD i [])).getD j undef)) (L.getD i []).length 3 := rfl
    have hTl := hT.len
    by_cases h0 : (L.getD i []).length = 0
    · rw [if_pos h0] at hgo
      have hs5 : (((L.getD i []).length : Int) == 0) = true := by simpa using h0
      (refine Wk.o ?_; (repeat revert hK K); refine W9356a ?_; (repeat intro K hK); refine ⟨?_⟩)
      exact whx_ren [0] (i + 1, xs) ⟨by dsimp only; omega, hgo, by dsimp only; omega⟩ (by dsimp only; omega) rfl (by decide) (by decide) (by (simp (disch := omega) only [go_sem, lint, Nat.reduceEqDiff, List.length_map])) (by (simp (disch := omega) only [go_sem, lint, Nat.reduceEqDiff, List.length_map])) (by (simp (disch := omega) only [go_sem, lint, Nat.reduceEqDiff, List.length_map])) (fun d => by first | ((simp (disch := omega) only [go_sem, lint, Nat.reduceEqDiff, List.length_map]); done) | ((simp (disch := omega) only [go_sem, lint, Nat.reduceEqDiff, List.length_map]); rfl))
    · rw [if_neg h0] at hgo
      have hs5 : (((L.getD i []).length : Int) == 0) = false := by simpa using h0
      have hs6 : ((xs.length : Int) == 1000000) = false := by rw [beq_eq_false_iff_ne]; omega
      have hS := sf_step (L.getD i []) 0 (some ⟨52, stL xs⟩) (fun m sel => ⟨fun H => by simp only [okH, idL_stL, Bool.true_and], by simp only [AObj.rn, rnL_stL, Option.map_some]⟩) hT h0
      (refine Wk.o ?_; (repeat revert hK K); refine W9356a ?_; (repeat intro K hK); refine ⟨?_⟩)
      refine XRes_fn (by rfl) hS ?_
      rintro r H' ⟨s, k, a, f, Y1, Y2, hv, rfl, h1, h2, h3⟩
      (simp only [putL, List.set_cons_succ, List.set_cons_zero])
      refine XRes_freeze [] [(32, .agg [lt (.int .i64 s.k), lt (.int .i64 s.i), .iv (iInts s.L), .iv (iInts s.H)])] (fun p hp => ?_) ?_
      · simp only [List.mem_cons, List.not_mem_nil, or_false] at hp
        subst hp
        exact hv.frz
      simp only [setN, updS, List.set_cons_succ, List.set_cons_zero]
      by_cases cf : f = 0
      · have hs8 : (f != 0) = false := by simpa using cf
        rw [if_neg (by rw [← h1, cf]; simp), ← h2 cf] at hgo
        have hs9 : stL xs ++ [lt (.int .i64 s.k), lt (.int .i64 s.i), .iv (.sl (fun j => .lit (.int .i64 (s.L.getD j 0))) s.L.length 1), .iv (.sl (fun j => .lit (.int .i64 (s.H.getD j 0))) s.H.length 1)] = stL (xs ++ [s]) := stL_snoc xs s
        (refine Wk.o ?_; (repeat revert hK K); refine W9356a ?_; (repeat intro K hK); refine ⟨?_⟩)
        exact whx_ren [6] (i + 1, xs ++ [s]) ⟨by dsimp only; omega, hgo, by rw [List.length_append, List.length_singleton]; omega⟩ (by dsimp only; omega) rfl (by decide) (by decide) (by (simp (disch := omega) only [go_sem, lint, Nat.reduceEqDiff, List.length_map])) (by (simp (disch := omega) only [go_sem, lint, Nat.reduceEqDiff, List.length_map])) (by (simp (disch := omega) only [go_sem, lint, Nat.reduceEqDiff, List.length_map])) (fun d => by first | ((simp (disch := omega) only [go_sem, lint, Nat.reduceEqDiff, List.length_map]); done) | ((simp (disch := omega) only [go_sem, lint, Nat.reduceEqDiff, List.length_map]); rfl))
      · have hs8 : (f != 0) = true := by simpa using cf
        rw [if_pos (by rw [← h1]; exact cf), ← h1, ← h3 cf] at hgo
        (refine Wk.o ?_; (repeat revert hK K); refine W9356a ?_; (repeat intro K hK); refine ⟨?_⟩)
        (simp only [bodyX]; refine ⟨_, by simp only [aresults, aresult, XS.as, Tryd.results8, aload, go_sem, Option.bind_some]; rfl, ?_⟩)
        exact ⟨_, Snap.tri snap_sts0 (.same _ (.iv _)) (.same _ (.iv _)), by rw [hgo], trivial⟩
  · obtain rfl : i = L.length := by omega
    rw [List.drop_length] at hgo
    have hgo : G = (xs, (l.length : Int), 0) := hgo
    have hs3 : decide ((L.length : Int) < (L.length : Int)) = false := decide_eq_false (by omega)
    (refine Wk.o ?_; (repeat revert hK K); refine W9356a ?_; (repeat intro K hK); refine ⟨?_⟩)
    (simp only [bodyX]; refine ⟨_, by simp only [aresults, aresult, XS.as, Tryd.results8, aload, go_sem, Option.bind_some]; rfl, ?_⟩)
    exact ⟨_, Snap.tri (.iv _ _ (snapC_sts rfl rfl)) (.same _ (.iv _)) (.same _ (.iv _)), by first | rfl | (rw [hgo]; done) | (rw [hgo]; rfl), trivial⟩
end Go.Proofs.YtghdacijcnmhlaaDoor
namespace Go.Proofs.YtghdacijcnmhlaaDoor
open Go.RowKit Go.Lib
set_option linter.unusedVariables false
set_option linter.unusedSimpArgs false
def rowA (Q : List Int × Nat × Int × Int) (k : Nat) : AV := .agg [.iv (iInts Q.1), lt (.int .i64 (if Q.2.2.2 = 0 then (Q.2.1 : Int) - k else 0)), lt (.int .i64 Q.2.2.1), lt (.int .i64 Q.2.2.2)]
end Go.Proofs.YtghdacijcnmhlaaDoor
namespace Go.Proofs.YtghdacijcnmhlaaDoor
open Go.RowKit Go.Lib
set_option linter.unusedVariables false
set_option linter.unusedSimpArgs false
abbrev LkS1 (i : Nat) (X : Option AObj) (H : AHeap) : Prop := H[i]? = some X
abbrev LkS2 (i j : Nat) (X Y : Option AObj) (H : AHeap) : Prop := H[i]? = some X ∧ H[j]? = some Y
end Go.Proofs.YtghdacijcnmhlaaDoor
namespace Go.Proofs.YtghdacijcnmhlaaDoor
open Go.RowKit Go.Lib
set_option linter.unusedVariables false
set_option linter.unusedSimpArgs false
end Go.Proofs.YtghdacijcnmhlaaDoor
