import Derived.Test.YtghdacijcnmhlaaDoorMgBI
import Derived.Test.YtghdacijcnmhlaaDoorMgBM
import Derived.Test.YtghdacijcnmhlaaDoorMgBG
import Derived.Test.YtghdacijcnmhlaaDoorMgBH
import Derived.Test.YtghdacijcnmhlaaDoorMgBE
import Derived.Test.YtghdacijcnmhlaaDoorMgBD
namespace Go.Proofs.YtghdacijcnmhlaaDoor
open Go.RowKit Go.Lib
set_option linter.unusedVariables false
set_option linter.unusedSimpArgs false
theorem stsGo_at {z : Int} {L : List (List Tok3)} {i : Nat} {xs : List Stp} (hi : i < L.length) : stsGo z (L.drop i) xs = if (L.getD i []).length = 0 then stsGo z (L.drop (i + 1)) xs else if (stepP (L.getD i [])).2.2 ≠ 0 then ([], (stepP (L.getD i [])).2.1, (stepP (L.getD i [])).2.2) else stsGo z (L.drop (i + 1)) (xs ++ [(stepP (L.getD i [])).1]) := by
  have e : L.drop i = L.getD i [] :: L.drop (i + 1) := by
    rw [List.drop_eq_getElem_cons hi, List.getD_eq_getElem?_getD, List.getElem?_eq_getElem hi]; rfl
  rw [e, stsGo]
theorem StpV.frz {HD : AHeap} {r : AV} {s : Stp} (h : StpV r s) : FrzV HD r (stpA s) := by
  rcases h with rfl | ⟨h1, rfl⟩
  · exact .same _
  · refine .agg _ _ rfl (fun i x y hx hy => ?_) rfl
    unfold stpC at hy
    rcases i with _ | _ | _ | _ | i
    · simp at hx hy; subst hx hy; exact .same _
    · simp at hx hy; subst hx hy; exact .same _
    · simp at hx hy; subst hx hy; rw [h1]; exact .iv _ _ (.nil _ _)
    · simp at hx hy; subst hx hy; exact .same _
    · simp at hx
theorem snap_sts0 {H : AHeap} : Snap H (lt (.slice none 0 0)) (.iv (iSts [])) := .iv _ _ (.nil _ _)
theorem W9356a {A B : Prop} (h9 : B) (w : B → A := by (intro h9; (repeat intro K hK); refine ⟨?_⟩; (repeat (first | (first | (with_reducible first | refine AX_block ?_ | refine AX_skip ?_ | refine AX_exit ?_ | refine AX_ret ?_ | refine AX_ift ?_ | refine AX_iff ?_ | refine AX_seq_k (fun K hK => ?_) | refine ContX.use (by assumption) ?_) | simp only [thenX, inBlockX, if_true, if_false, reduceCtorEq]) | (first | ((first | (with_reducible refine XRes_op tyOK ?_ ?_) | ((with_reducible first | refine ADF_op tyOK ?_ ?_ ?_ | refine ADX_op tyOK ?_ ?_ ?_); (focus rfl)) | (with_reducible refine ADR_alloc1 tyOK ?_ ?_) | ((with_reducible refine ADR_free1 tyOK ?_ ?_ ?_); (focus rfl)) | ((with_reducible refine ADR_free0 tyOK ?_ ?_ ?_); (focus rfl)) | ((with_reducible refine ADR_read1 tyOK ?_ ?_ ?_); (focus rfl)) | (with_reducible refine ADR_chg1 tyOK ?_ ?_)); (focus (first | (with_reducible rfl) | ((simp (disch := omega) only [go_sem]); done))); simp (disch := omega) only [go_sem , iInts, hs1, hs2, hs3, hs4, hs5, hs6, hs7, hs8, hs9, Int.toNat_zero, Int.toNat_one, Int.reduceToNat, Nat.zero_add, Int.toNat_natCast, ba_size]; (first | (with_reducible refine XRes_id ?_) | (with_reducible refine ADF_id ?_) | (with_reducible refine ADR_id1 ?_) | (with_reducible refine ADX_id ?_))) | ((first | (with_reducible refine XRes_skip ?_ ?_) | (with_reducible refine ADF_skip (b := true) ?_ ?_) | (with_reducible refine ADX_skip ?_ ?_) | ((with_reducible refine ADR_skip1 ?_ ?_ ?_); (focus rfl))); (focus (first | rfl | ((simp (disch := omega) only [go_sem]); done))); (simp only [putL, List.set_cons_succ, List.set_cons_zero]))) | ((first | (with_reducible refine XRes_nil ?_) | (with_reducible refine ADF_nil ?_) | (with_reducible refine ADR_nil ?_) | (with_reducible refine ADX_nil ?_)); (first | refine hK _ ?_ | refine hK _ _ ?_); clear hK K) | (first | (first | refine XTL (by rfl) hLn ?_ | refine ATL tyOK (by rfl) hLn ?_)) | ((with_reducible refine AX_reg0 fun K hK => ?_); simp only [go_sem]) | ((refine AX_drawG1 tyOK (by kernel_rfl) (by rfl) (by kernel_rfl) fun K hK => ?_); (first | simp only [go_sem, preN, effOp, runF, alM, mapOp, alD2, kdOf2, Bool.not_false, Bool.not_true, reduceCtorEq] | simp only [go_sem, preN, effOp, runF, alM, mapOp, Bool.not_false, Bool.not_true, reduceCtorEq] | simp only [go_sem, preN, effOp, runF, alD2, kdOf2, Bool.not_false, Bool.not_true, reduceCtorEq] | simp only [go_sem, alD2, kdOf2, Bool.not_false, Bool.not_true, reduceCtorEq] | simp only [go_sem, preN, effOp, runF, Bool.not_false, Bool.not_true, reduceCtorEq] | simp only [go_sem])))); refine Wk.o ?_; (repeat revert hK K); exact h9)) : A := w h9
set_option maxRecDepth 100000 in
set_option maxHeartbeats 8000000 in
theorem pf_prParse (l : List UInt8) (hl : l.length ≤ 1000000) (hok : LsOK (lnsT l)) : PF Tryd.prog 8 [lt (.string (ba l))] fun r H' => r = .tup [.iv (iSts (prp l).1), lt (.int .i64 (prp l).2.1), lt (.int .i64 (prp l).2.2)] ∧ H' = [] := by
  refine SF.frozen ?_
  have hs1 := trivial; have hs2 := trivial; have hs3 := trivial; have hs4 := trivial; have hs5 := trivial; have hs6 := trivial; have hs7 := trivial; have hs8 := trivial; have hs9 := trivial; have hLn := trivial
  have hLn := pf_LinesT l (by omega)
  have hs1 : decide ((1000000 : Int) < (l.length : Int)) = false := decide_eq_false (by omega)
  have hlen := hok.len
  have hget := hok.get
  unfold prp
  generalize lnsT l = L at *
  have hs2 : iLs L = .sl (fun j => iTokL (L.getD j [])) L.length 1 := rfl
  generalize hG : stsGo l.length L [] = G at *
  (refine SF_of_bodyX (aload tt) (aload_ok tyOK) Tryd.func8 rfl (by kernel_rfl) ?_; simp only [Tryd.ntmps8, List.length_cons, List.length_nil, Nat.reduceAdd, Nat.reduceSub, List.replicate_succ, List.replicate_zero, List.cons_append, List.nil_append])
  (refine Wk.o ?_; (repeat revert hK K); refine W9356a ?_; (repeat intro K hK); refine ⟨?_⟩)
  refine AX_nil 2 52 4 rfl ?_
  have hinit : stL [] = [] := rfl
  (refine AX_wh (σ := Nat × List Stp) [16, 17, 18, 6, 19, 20, 21, 22, 23, 7, 24, 25, 26, 27, 28, 29, 30, 31, 32, 8, 33, 34, 35, 36, 37, 38, 39, 3, 4, 40, 41, 42, 43, 44] (fun (i, xs) => [(15, lint i), (2, .osl 0 0 xs.length 4)]) (fun (i, xs) => [some ⟨52, stL xs⟩]) (fun (i, xs) => []) (fun (i, xs) => i ≤ L.length ∧ G = stsGo l.length (L.drop i) xs ∧ xs.length ≤ i) (fun (i, xs) => L.length - i) (0, []) (fun d => by first | ((simp only [deadS, updS, List.set_cons_succ, List.set_cons_zero, lint, List.length_nil, List.length_cons]); done) | ((simp only [deadS, updS, List.set_cons_succ, List.set_cons_zero, lint, List.length_nil, List.length_cons]); rfl) | rfl) (by first | (with_reducible rfl) | (simp only [hinit]; done) | rfl) (by first | (with_reducible rfl) | rfl) (by first | exact ⟨Nat.zero_le _, by rw [List.drop_zero]; exact hG.symm, by simp⟩) ?_; rintro ⟨i, xs⟩ d fr hfr ⟨hi, hgo, hxl⟩; simp only [updS, deadS, List.set_cons_succ, List.set_cons_zero, lint] at hfr; subst hfr; (try dsimp only))
  by_cases hlt : i < L.length
  · have hs3 : decide ((i : Int) < (L.length : Int)) = true := decide_eq_true (by omega)
    rw [stsGo_at hlt] at hgo
    have hT := hget i
    have hs4 : iTokL (L.getD i []) = .sl (fun j => .lit ((tokL (L.getD i [])).getD j undef)) (L.getD i []).length 3 := rfl
    have hTl := hT.len
    by_cases h0 : (L.getD i []).length = 0
    · rw [if_pos h0] at hgo
      have hs5 : (((L.getD i []).length : Int) == 0) = true := by simpa using h0
      (refine Wk.o ?_; (repeat revert hK K); refine W9356a ?_; (repeat intro K hK); refine ⟨?_⟩)
      exact whx_ren [0] (i + 1, xs) ⟨by dsimp only; omega, hgo, by dsimp only; omega⟩ (by dsimp only; omega) rfl (by decide) (by decide) (by (simp (disch := omega) only [go_sem, lint, Nat.reduceEqDiff, List.length_map])) (by (simp (disch := omega) only [go_sem, lint, Nat.reduceEqDiff, List.length_map])) (by (simp (disch := omega) only [go_sem, lint, Nat.reduceEqDiff, List.length_map])) (fun d => by first | ((simp (disch := omega) only [go_sem, lint, Nat.reduceEqDiff, List.length_map]); done) | ((simp (disch := omega) only [go_sem, lint, Nat.reduceEqDiff, List.length_map]); rfl))
    · rw [if_neg h0] at hgo
      have hs5 : (((L.getD i []).length : Int) == 0) = false := by simpa using h0
      have hs6 : ((xs.length : Int) == 1000000) = false := by rw [beq_eq_false_iff_ne]; omega
      have hS := sf_step (L.getD i []) 0 (some ⟨52, stL xs⟩) (fun m sel => ⟨fun H => by simp only [okH, idL_stL, Bool.true_and], by simp only [AObj.rn, rnL_stL, Option.map_some]⟩) hT h0
      (refine Wk.o ?_; (repeat revert hK K); refine W9356a ?_; (repeat intro K hK); refine ⟨?_⟩)
      refine XRes_fn (by rfl) hS ?_
      rintro r H' ⟨s, k, a, f, Y1, Y2, hv, rfl, h1, h2, h3⟩
      (simp only [putL, List.set_cons_succ, List.set_cons_zero])
      refine XRes_freeze [] [(32, .agg [lt (.int .i64 s.k), lt (.int .i64 s.i), .iv (iInts s.L), .iv (iInts s.H)])] (fun p hp => ?_) ?_
      · simp only [List.mem_cons, List.not_mem_nil, or_false] at hp
        subst hp
        exact hv.frz
      simp only [setN, updS, List.set_cons_succ, List.set_cons_zero]
      by_cases cf : f = 0
      · have hs8 : (f != 0) = false := by simpa using cf
        rw [if_neg (by rw [← h1, cf]; simp), ← h2 cf] at hgo
        have hs9 : stL xs ++ [lt (.int .i64 s.k), lt (.int .i64 s.i), .iv (.sl (fun j => .lit (.int .i64 (s.L.getD j 0))) s.L.length 1), .iv (.sl (fun j => .lit (.int .i64 (s.H.getD j 0))) s.H.length 1)] = stL (xs ++ [s]) := stL_snoc xs s
        (refine Wk.o ?_; (repeat revert hK K); refine W9356a ?_; (repeat intro K hK); refine ⟨?_⟩)
        exact whx_ren [6] (i + 1, xs ++ [s]) ⟨by dsimp only; omega, hgo, by rw [List.length_append, List.length_singleton]; omega⟩ (by dsimp only; omega) rfl (by decide) (by decide) (by (simp (disch := omega) only [go_sem, lint, Nat.reduceEqDiff, List.length_map])) (by (simp (disch := omega) only [go_sem, lint, Nat.reduceEqDiff, List.length_map])) (by (simp (disch := omega) only [go_sem, lint, Nat.reduceEqDiff, List.length_map])) (fun d => by first | ((simp (disch := omega) only [go_sem, lint, Nat.reduceEqDiff, List.length_map]); done) | ((simp (disch := omega) only [go_sem, lint, Nat.reduceEqDiff, List.length_map]); rfl))
      · have hs8 : (f != 0) = true := by simpa using cf
        rw [if_pos (by rw [← h1]; exact cf), ← h1, ← h3 cf] at hgo
        (refine Wk.o ?_; (repeat revert hK K); refine W9356a ?_; (repeat intro K hK); refine ⟨?_⟩)
        (simp only [bodyX]; refine ⟨_, by simp only [aresults, aresult, XS.as, Tryd.results8, aload, go_sem, Option.bind_some]; rfl, ?_⟩)
        exact ⟨_, Snap.tri snap_sts0 (.same _ (.iv _)) (.same _ (.iv _)), by rw [hgo], trivial⟩
  · obtain rfl : i = L.length := by omega
    rw [List.drop_length] at hgo
    have hgo : G = (xs, (l.length : Int), 0) := hgo
    have hs3 : decide ((L.length : Int) < (L.length : Int)) = false := decide_eq_false (by omega)
    (refine Wk.o ?_; (repeat revert hK K); refine W9356a ?_; (repeat intro K hK); refine ⟨?_⟩)
    (simp only [bodyX]; refine ⟨_, by simp only [aresults, aresult, XS.as, Tryd.results8, aload, go_sem, Option.bind_some]; rfl, ?_⟩)
    exact ⟨_, Snap.tri (.iv _ _ (snapC_sts rfl rfl)) (.same _ (.iv _)) (.same _ (.iv _)), by first | rfl | (rw [hgo]; done) | (rw [hgo]; rfl), trivial⟩
end Go.Proofs.YtghdacijcnmhlaaDoor
namespace Go.Proofs.YtghdacijcnmhlaaDoor
open Go.RowKit Go.Lib
set_option linter.unusedVariables false
set_option linter.unusedSimpArgs false
def rowA (Q : List Int × Nat × Int × Int) (k : Nat) : AV := .agg [.iv (iInts Q.1), lt (.int .i64 (if Q.2.2.2 = 0 then (Q.2.1 : Int) - k else 0)), lt (.int .i64 Q.2.2.1), lt (.int .i64 Q.2.2.2)]
theorem snap_row0 {H : AHeap} {a b : Int} : Snap H (.agg [lt (.slice none 0 0), lt (.int .i64 0), lt (.int .i64 a), lt (.int .i64 b)]) (.agg [.iv (iInts []), lt (.int .i64 0), lt (.int .i64 a), lt (.int .i64 b)]) :=
  .agg _ _ rfl (fun i x y hx hy => by
    rcases i with _ | _ | _ | _ | i
    · simp at hx hy; subst hx hy; exact snap_i0
    · simp at hx hy; subst hx hy; exact .same _ (.iv _)
    · simp at hx hy; subst hx hy; exact .same _ (.iv _)
    · simp at hx hy; subst hx hy; exact .same _ (.iv _)
    · simp at hx) rfl
theorem snap_rowI {H : AHeap} {o : Nat} {t : TypeId} {c : List Int} {v a b : Int} (h : H[o]? = some (some ⟨t, c.map lint⟩)) : Snap H (.agg [.osl o 0 c.length 1, lt (.int .i64 v), lt (.int .i64 a), lt (.int .i64 b)]) (.agg [.iv (iInts c), lt (.int .i64 v), lt (.int .i64 a), lt (.int .i64 b)]) :=
  .agg _ _ rfl (fun i x y hx hy => by
    rcases i with _ | _ | _ | _ | i
    · simp at hx hy; subst hx hy; exact snap_i h rfl
    · simp at hx hy; subst hx hy; exact .same _ (.iv _)
    · simp at hx hy; subst hx hy; exact .same _ (.iv _)
    · simp at hx hy; subst hx hy; exact .same _ (.iv _)
    · simp at hx) rfl
theorem Wdaa0a {A B : Prop} (h9 : B) (w : B → A := by (intro h9; (repeat intro K hK); refine ⟨?_⟩; (repeat (first | (first | (with_reducible first | refine AX_block ?_ | refine AX_skip ?_ | refine AX_exit ?_ | refine AX_ret ?_ | refine AX_ift ?_ | refine AX_iff ?_ | refine AX_seq_k (fun K hK => ?_) | refine ContX.use (by assumption) ?_) | simp only [thenX, inBlockX, if_true, if_false, reduceCtorEq]) | (first | ((first | (with_reducible refine XRes_op tyOK ?_ ?_) | ((with_reducible first | refine ADF_op tyOK ?_ ?_ ?_ | refine ADX_op tyOK ?_ ?_ ?_); (focus rfl)) | (with_reducible refine ADR_alloc1 tyOK ?_ ?_) | ((with_reducible refine ADR_free1 tyOK ?_ ?_ ?_); (focus rfl)) | ((with_reducible refine ADR_free0 tyOK ?_ ?_ ?_); (focus rfl)) | ((with_reducible refine ADR_read1 tyOK ?_ ?_ ?_); (focus rfl)) | (with_reducible refine ADR_chg1 tyOK ?_ ?_)); (focus (first | (with_reducible rfl) | ((simp (disch := omega) only [go_sem]); done))); simp (disch := omega) only [go_sem , hs1, hs2, hs3, hs4, hs5, hs6, hs7, hs8, hs9, Int.toNat_zero, Int.toNat_one, Int.reduceToNat, Nat.zero_add, Int.toNat_natCast, ba_size, List.length_map, Nat.reduceEqDiff]; (first | (with_reducible refine XRes_id ?_) | (with_reducible refine ADF_id ?_) | (with_reducible refine ADR_id1 ?_) | (with_reducible refine ADX_id ?_))) | ((first | (with_reducible refine XRes_skip ?_ ?_) | (with_reducible refine ADF_skip (b := true) ?_ ?_) | (with_reducible refine ADX_skip ?_ ?_) | ((with_reducible refine ADR_skip1 ?_ ?_ ?_); (focus rfl))); (focus (first | rfl | ((simp (disch := omega) only [go_sem]); done))); (simp only [putL, List.set_cons_succ, List.set_cons_zero]))) | ((first | (with_reducible refine XRes_nil ?_) | (with_reducible refine ADF_nil ?_) | (with_reducible refine ADR_nil ?_) | (with_reducible refine ADX_nil ?_)); (first | refine hK _ ?_ | refine hK _ _ ?_); clear hK K) | (first | (first | refine XTL (by rfl) hN ?_ | refine ATL tyOK (by rfl) hN ?_) | ((refine XRes_say rfl hM (SnapL.cons (snap_i rfl rfl) (SnapL.cons (.same _ (.iv _)) (SnapL.nil _))) ?_); (simp only [putL, List.set_cons_succ, List.set_cons_zero]))) | ((with_reducible refine AX_reg0 fun K hK => ?_); simp only [go_sem]) | ((refine AX_drawG1 tyOK (by kernel_rfl) (by rfl) (by kernel_rfl) fun K hK => ?_); (first | simp only [go_sem, preN, effOp, runF, alM, mapOp, alD2, kdOf2, Bool.not_false, Bool.not_true, reduceCtorEq] | simp only [go_sem, preN, effOp, runF, alM, mapOp, Bool.not_false, Bool.not_true, reduceCtorEq] | simp only [go_sem, preN, effOp, runF, alD2, kdOf2, Bool.not_false, Bool.not_true, reduceCtorEq] | simp only [go_sem, alD2, kdOf2, Bool.not_false, Bool.not_true, reduceCtorEq] | simp only [go_sem, preN, effOp, runF, Bool.not_false, Bool.not_true, reduceCtorEq] | simp only [go_sem])))); refine Wk.o ?_; (repeat revert hK K); exact h9)) : A := w h9
set_option maxRecDepth 100000 in
set_option maxHeartbeats 8000000 in
theorem pf_rrow (T : List Tok3) (k0 : Nat) (e0 lo hi : Int) (once : Bool) (hT : TokOK T) (h0 : T.length ≠ 0) (hk0 : k0 ≤ T.length) (he0 : k0 = T.length → e0 = lastEnd T) (hlo : -10000000 ≤ lo ∧ lo ≤ 0) (hhi : 0 ≤ hi ∧ hi ≤ 10000000) :
    PF Tryd.prog 46 [.iv (iTokL T), lt (.int .i64 (k0 : Int)), lt (.int .i64 e0), lt (.int .i64 lo), lt (.int .i64 hi), lt (.bool once)] fun r H' => r = rowA (nrow lo hi once (lastEnd T) (T.drop k0) k0 []) k0 ∧ H' = [] := by
  refine SF.frozen ?_
  have hs1 := trivial; have hs2 := trivial; have hs3 := trivial; have hs4 := trivial; have hs5 := trivial; have hs6 := trivial; have hs7 := trivial; have hs8 := trivial; have hs9 := trivial; have hN := trivial; have hM := trivial
  have hlen := hT.len
  generalize hQ : nrow lo hi once (lastEnd T) (T.drop k0) k0 [] = Q at *
  have hs1 : iTokL T = .sl (fun j => .lit ((tokL T).getD j undef)) T.length 3 := rfl
  (refine SF_of_bodyX (aload tt) (aload_ok tyOK) Tryd.func46 rfl (by kernel_rfl) ?_; simp only [Tryd.ntmps46, List.length_cons, List.length_nil, Nat.reduceAdd, Nat.reduceSub, List.replicate_succ, List.replicate_zero, List.cons_append, List.nil_append])
  (refine Wk.o ?_; (repeat revert hK K); refine Wdaa0a ?_; (repeat intro K hK); refine ⟨?_⟩)
  refine AX_cellNew 1 3 1 0 _ rfl rfl ?_
  simp only [List.length_cons, List.length_nil, List.cons_append, List.nil_append, Nat.zero_add, Nat.reduceAdd, List.set_cons_succ, List.set_cons_zero]
  have hinit : ([] : List Int).map lint = [] := rfl
  (refine AX_wh (σ := Nat × List Int × Int × Int) [18, 19, 20, 21, 25, 26, 27, 28, 29, 30, 31, 32, 24, 33, 34, 15, 16, 35, 36, 37, 38, 39, 40, 41, 42, 43, 44, 45, 46, 47, 48, 49, 50, 51, 52, 53, 54, 55, 56, 57, 58, 59, 60, 61, 62, 63, 64, 65, 66, 67, 68, 69, 70, 71, 72, 73, 74, 75, 76, 77, 78, 79, 80, 81, 82, 83, 84, 85, 86, 87, 88, 89, 90, 91, 22, 23] (fun (i, c, e, v) => [(14, lint i), (2, lt (.int .i64 e))]) (fun (i, c, e, v) => [some ⟨94, [lt (.slice none 0 0), lt (.int .i64 0), lt (.int .i64 0), lt (.int .i64 0)]⟩, some ⟨94, [.osl 2 0 c.length 1, lt (.int .i64 v), lt (.int .i64 0), lt (.int .i64 0)]⟩, some ⟨3, c.map lint⟩]) (fun (i, c, e, v) => []) (fun (i, c, e, v) => k0 ≤ i ∧ i ≤ T.length ∧ Q = nrow lo hi once (lastEnd T) (T.drop i) i c ∧ c.length ≤ 1000 ∧ (i = T.length → e = lastEnd T) ∧ v = (i : Int) - k0) (fun (i, c, e, v) => T.length - i) (k0, [], e0, 0) (fun d => by first | ((simp only [deadS, updS, List.set_cons_succ, List.set_cons_zero, lint, List.length_nil, List.length_cons]); done) | ((simp only [deadS, updS, List.set_cons_succ, List.set_cons_zero, lint, List.length_nil, List.length_cons]); rfl) | rfl) (by first | (with_reducible rfl) | (simp only [hinit]; done) | rfl) (by first | (with_reducible rfl) | rfl) (by first | exact ⟨Nat.le_refl _, hk0, hQ.symm, by simp, he0, by omega⟩) ?_; rintro ⟨i, c, e, v⟩ d fr hfr ⟨hki, hiT, hq, hcl, he, hv⟩; simp only [updS, deadS, List.set_cons_succ, List.set_cons_zero, lint] at hfr; subst hfr; (try dsimp only))
  by_cases hlt : i < T.length
  · have hs3 : decide ((i : Int) < (T.length : Int)) = true := decide_eq_true (by omega)
    rw [nrow_at hlt] at hq
    have hN := pf_rNumber (T.getD i tok0).2.2 lo hi (hT.txt i)
    obtain ⟨f1, f2, f3⟩ := tokL_atL (T := T) (k := i) hlt
    have hs4 := f2
    have hs5 := f3
    clear f1 f2 f3
    have hpos := hT.pos i
    have htxt := hT.txt i
    have hnb0 := numR_b (l := (T.getD i tok0).2.2) hlo hhi
    have hle : i + 1 = T.length → (T.getD i tok0).2.1 + (((T.getD i tok0).2.2.length : Nat) : Int) = lastEnd T := fun h => by unfold lastEnd; rw [← h, Nat.add_sub_cancel]
    generalize (T.getD i tok0).2.1 = tp at *
    generalize (T.getD i tok0).2.2 = tx at *
    generalize numR tx lo hi = q at *
    obtain ⟨n, f⟩ := q
    dsimp only at hq hN hnb0
    by_cases c1 : f ≠ 0
    · rw [if_pos c1] at hq
      have hs6 : (f != 0) = true := by simpa using c1
      (refine Wk.o ?_; (repeat revert hK K); refine Wdaa0a ?_; (repeat intro K hK); refine ⟨?_⟩)
      (simp only [bodyX]; refine ⟨_, by simp only [aresults, aresult, XS.as, Tryd.results46, aload, go_sem, Option.bind_some]; rfl, ?_⟩)
      exact ⟨_, snap_row0, by rw [hq]; unfold rowA; rw [if_neg c1], trivial⟩
    · rw [if_neg c1] at hq
      obtain rfl : f = 0 := Classical.not_not.1 c1
      by_cases c2 : n = 0
      · subst c2
        rw [if_pos rfl] at hq
        (refine Wk.o ?_; (repeat revert hK K); refine Wdaa0a ?_; (repeat intro K hK); refine ⟨?_⟩)
        (simp only [bodyX]; refine ⟨_, by simp only [aresults, aresult, XS.as, Tryd.results46, aload, go_sem, Option.bind_some]; rfl, ?_⟩)
        exact ⟨_, snap_rowI rfl, by
          rw [hq]
          show _ = AV.agg [.iv (iInts c), lt (.int .i64 (if (0 : Int) = 0 then ((i + 1 : Nat) : Int) - k0 else 0)), lt (.int .i64 0), lt (.int .i64 0)]
          rw [if_pos rfl, show ((i + 1 : Nat) : Int) - k0 = v + 1 by omega], trivial⟩
      · rw [if_neg c2] at hq
        have hs6 : (n == 0) = false := by simpa using c2
        by_cases c3 : c.length = 1000
        · rw [if_pos c3] at hq
          have hs7 : ((c.length : Int) == 1000) = true := by rw [beq_iff_eq]; omega
          (refine Wk.o ?_; (repeat revert hK K); refine Wdaa0a ?_; (repeat intro K hK); refine ⟨?_⟩)
          (simp only [bodyX]; refine ⟨_, by simp only [aresults, aresult, XS.as, Tryd.results46, aload, go_sem, Option.bind_some]; rfl, ?_⟩)
          exact ⟨_, snap_row0, by rw [hq]; unfold rowA; rw [if_neg (show ¬((3 : Int) = 0) by decide)], trivial⟩
        · rw [if_neg c3] at hq
          have hs7 : ((c.length : Int) == 1000) = false := by rw [beq_eq_false_iff_ne]; omega
          have hM := pf_has c n (by omega)
          by_cases c4 : once = true ∧ n ∈ c
          · rw [if_pos c4] at hq
            obtain ⟨rfl, hm⟩ := c4
            rw [decide_eq_true hm] at hM
            (refine Wk.o ?_; (repeat revert hK K); refine Wdaa0a ?_; (repeat intro K hK); refine ⟨?_⟩)
            (simp only [bodyX]; refine ⟨_, by simp only [aresults, aresult, XS.as, Tryd.results46, aload, go_sem, Option.bind_some]; rfl, ?_⟩)
            exact ⟨_, snap_row0, by rw [hq]; unfold rowA; rw [if_neg (show ¬((21 : Int) = 0) by decide)], trivial⟩
          · rw [if_neg c4] at hq
            cases once with
            | true =>
              have hm : ¬ n ∈ c := fun h => c4 ⟨rfl, h⟩
              rw [decide_eq_false hm] at hM
              (refine Wk.o ?_; (repeat revert hK K); refine Wdaa0a ?_; (repeat intro K hK); refine ⟨?_⟩)
              exact whx_ren [0, 1, 4] (i + 1, c ++ [n], tp + (tx.length : Int), v + 1) ⟨by omega, by omega, hq, by rw [List.length_append, List.length_singleton]; omega, hle, by dsimp only; omega⟩ (by dsimp only; omega) rfl (by decide) (by decide) (by (simp (disch := omega) only [go_sem, lint, Nat.reduceEqDiff, List.length_map])) (by (simp (disch := omega) only [go_sem, lint, Nat.reduceEqDiff, List.length_map])) (by (simp (disch := omega) only [go_sem, lint, Nat.reduceEqDiff, List.length_map])) (fun d => by first | ((simp (disch := omega) only [go_sem, lint, Nat.reduceEqDiff, List.length_map]); done) | ((simp (disch := omega) only [go_sem, lint, Nat.reduceEqDiff, List.length_map]); rfl))
            | false =>
              (refine Wk.o ?_; (repeat revert hK K); refine Wdaa0a ?_; (repeat intro K hK); refine ⟨?_⟩)
              exact whx_ren [0, 1, 4] (i + 1, c ++ [n], tp + (tx.length : Int), v + 1) ⟨by omega, by omega, hq, by rw [List.length_append, List.length_singleton]; omega, hle, by dsimp only; omega⟩ (by dsimp only; omega) rfl (by decide) (by decide) (by (simp (disch := omega) only [go_sem, lint, Nat.reduceEqDiff, List.length_map])) (by (simp (disch := omega) only [go_sem, lint, Nat.reduceEqDiff, List.length_map])) (by (simp (disch := omega) only [go_sem, lint, Nat.reduceEqDiff, List.length_map])) (fun d => by first | ((simp (disch := omega) only [go_sem, lint, Nat.reduceEqDiff, List.length_map]); done) | ((simp (disch := omega) only [go_sem, lint, Nat.reduceEqDiff, List.length_map]); rfl))
  · obtain rfl : i = T.length := by omega
    rw [List.drop_length] at hq
    have hq : Q = ([], T.length, lastEnd T, 4) := hq
    have he := he rfl
    subst he
    have hs3 : decide ((T.length : Int) < (T.length : Int)) = false := decide_eq_false (by omega)
    (refine Wk.o ?_; (repeat revert hK K); refine Wdaa0a ?_; (repeat intro K hK); refine ⟨?_⟩)
    (simp only [bodyX]; refine ⟨_, by simp only [aresults, aresult, XS.as, Tryd.results46, aload, go_sem, Option.bind_some]; rfl, ?_⟩)
    exact ⟨_, snap_row0, by rw [hq]; unfold rowA; rw [if_neg (show ¬((4 : Int) = 0) by decide)], trivial⟩
end Go.Proofs.YtghdacijcnmhlaaDoor
namespace Go.Proofs.YtghdacijcnmhlaaDoor
open Go.RowKit Go.Lib
set_option linter.unusedVariables false
set_option linter.unusedSimpArgs false
abbrev LkS1 (i : Nat) (X : Option AObj) (H : AHeap) : Prop := H[i]? = some X
abbrev LkS2 (i j : Nat) (X Y : Option AObj) (H : AHeap) : Prop := H[i]? = some X ∧ H[j]? = some Y
theorem Wd661a {A B : Prop} (h9 : B) (w : B → A := by (intro h9; (repeat intro K hK); refine ⟨?_⟩; (repeat (first | (first | (with_reducible first | refine AX_block ?_ | refine AX_skip ?_ | refine AX_exit ?_ | refine AX_ret ?_ | refine AX_ift ?_ | refine AX_iff ?_ | refine AX_seq_k (fun K hK => ?_) | refine ContX.use (by assumption) ?_) | simp only [thenX, inBlockX, if_true, if_false, reduceCtorEq]) | (first | ((first | (with_reducible refine XRes_op tyOK ?_ ?_) | ((with_reducible first | refine ADF_op tyOK ?_ ?_ ?_ | refine ADX_op tyOK ?_ ?_ ?_); (focus rfl)) | (with_reducible refine ADR_alloc1 tyOK ?_ ?_) | ((with_reducible refine ADR_free1 tyOK ?_ ?_ ?_); (focus rfl)) | ((with_reducible refine ADR_free0 tyOK ?_ ?_ ?_); (focus rfl)) | ((with_reducible refine ADR_read1 tyOK ?_ ?_ ?_); (focus rfl)) | (with_reducible refine ADR_chg1 tyOK ?_ ?_)); (focus (first | (with_reducible rfl) | ((simp (disch := omega) only [go_sem]); done))); simp (disch := omega) only [go_sem , iInts, hs1, hs2, hs3, hs4, hs5, hs6, hs7, hs8, hs9, hs10, hs11, hs12, hs13, hs14, hs15, hs16, hs17, Int.toNat_zero, Int.toNat_one, Int.reduceToNat, Nat.zero_add, Int.toNat_natCast, ba_size, List.length_map, Nat.reduceEqDiff, Nat.reduceMul, Nat.reduceAdd, Nat.one_mul, Nat.zero_mul]; (first | (with_reducible refine XRes_id ?_) | (with_reducible refine ADF_id ?_) | (with_reducible refine ADR_id1 ?_) | (with_reducible refine ADX_id ?_))) | ((first | (with_reducible refine XRes_skip ?_ ?_) | (with_reducible refine ADF_skip (b := true) ?_ ?_) | (with_reducible refine ADX_skip ?_ ?_) | ((with_reducible refine ADR_skip1 ?_ ?_ ?_); (focus rfl))); (focus (first | rfl | ((simp (disch := omega) only [go_sem]); done))); (simp only [putL, List.set_cons_succ, List.set_cons_zero]))) | ((first | (with_reducible refine XRes_nil ?_) | (with_reducible refine ADF_nil ?_) | (with_reducible refine ADR_nil ?_) | (with_reducible refine ADX_nil ?_)); (first | refine hK _ ?_ | refine hK _ _ ?_); clear hK K) | (first | (first | refine XTL (by rfl) hN ?_ | refine ATL tyOK (by rfl) hN ?_ | refine XTL (by rfl) hB ?_ | refine ATL tyOK (by rfl) hB ?_ | refine XTL (by rfl) hL ?_ | refine ATL tyOK (by rfl) hL ?_ | refine XTL (by rfl) hB2 ?_ | refine ATL tyOK (by rfl) hB2 ?_ | refine XTL (by rfl) hH ?_ | refine ATL tyOK (by rfl) hH ?_)) | ((with_reducible refine AX_reg0 fun K hK => ?_); simp only [go_sem]))); refine Wk.o ?_; (repeat revert hK K); exact h9)) : A := w h9
set_option maxRecDepth 100000 in
set_option maxHeartbeats 4000000 in
theorem pf_rbehind (a p : Int) (l : List UInt8) (hp : 0 ≤ p ∧ p ≤ 1000000000) (hl : l.length ≤ 1000000) : PF Tryd.prog 47 [.agg [lt (.int .i64 a), lt (.int .i64 p), lt (.string (ba l))]] fun r H' => r = lt (.int .i64 (p + (l.length : Int))) ∧ H' = [] := by
  refine SF.forgetAll ?_
  have hs1 := trivial; have hs2 := trivial; have hs3 := trivial; have hs4 := trivial; have hs5 := trivial; have hs6 := trivial; have hs7 := trivial; have hs8 := trivial; have hs9 := trivial; have hs10 := trivial; have hs11 := trivial; have hs12 := trivial; have hs13 := trivial; have hs14 := trivial; have hs15 := trivial; have hs16 := trivial; have hs17 := trivial; have hN := trivial; have hB := trivial; have hL := trivial; have hB2 := trivial; have hH := trivial
  (refine SF_of_bodyX (aload tt) (aload_ok tyOK) Tryd.func47 rfl (by kernel_rfl) ?_; simp only [Tryd.ntmps47, List.length_cons, List.length_nil, Nat.reduceAdd, Nat.reduceSub, List.replicate_succ, List.replicate_zero, List.cons_append, List.nil_append])
  (refine Wk.o ?_; (repeat revert hK K); refine Wd661a ?_; (repeat intro K hK); refine ⟨?_⟩)
  (simp only [bodyX]; refine ⟨_, by simp only [aresults, aresult, XS.as, Tryd.results47, aload, go_sem, Option.bind_some]; rfl, ?_⟩)
  exact ⟨ids_idB rfl, rfl, trivial⟩
theorem snap_st {H : AHeap} {a b : Int} {x y : AV} {L M : List Int} (hx : Snap H x (.iv (iInts L))) (hy : Snap H y (.iv (iInts M))) : Snap H (.agg [lt (.int .i64 a), lt (.int .i64 b), x, y]) (stpA ⟨a, b, L, M⟩) :=
  .agg _ _ rfl (fun i u v hu hv => by
    unfold stpC at hv
    rcases i with _ | _ | _ | _ | i
    · simp at hu hv; subst hu hv; exact .same _ (.iv _)
    · simp at hu hv; subst hu hv; exact .same _ (.iv _)
    · simp at hu hv; subst hu hv; exact hx
    · simp at hu hv; subst hu hv; exact hy
    · simp at hu) rfl
theorem snap_iI {H : AHeap} {L : List Int} : Snap H (.iv (iInts L)) (.iv (iInts L)) := .same _ (.iv _)
set_option maxRecDepth 100000 in
set_option maxHeartbeats 8000000 in
theorem pf_rstep (T : List Tok3) (hT : TokOK T) (h0 : T.length ≠ 0) : PF Tryd.prog 25 [.iv (iTokL T)] fun r H' => ∃ s, r = .tup [stpA s, lt (.int .i64 (stepP T).2.1), lt (.int .i64 (stepP T).2.2)] ∧ ((stepP T).2.2 = 0 → s = (stepP T).1) ∧ H' = [] := by
  refine SF.frozen ?_
  have hs1 := trivial; have hs2 := trivial; have hs3 := trivial; have hs4 := trivial; have hs5 := trivial; have hs6 := trivial; have hs7 := trivial; have hs8 := trivial; have hs9 := trivial; have hs10 := trivial; have hs11 := trivial; have hs12 := trivial; have hs13 := trivial; have hs14 := trivial; have hs15 := trivial; have hs16 := trivial; have hs17 := trivial; have hN := trivial; have hB := trivial; have hL := trivial; have hB2 := trivial; have hH := trivial
  have hlen := hT.len
  have hs1 : iTokL T = .sl (fun j => .lit ((tokL T).getD j undef)) T.length 3 := rfl
  have hN := pf_rNumber (T.getD 0 tok0).2.2 0 10000000 (hT.txt 0)
  have hid : idQ T = numR (T.getD 0 tok0).2.2 0 10000000 := rfl
  rw [← hid] at hN
  have hsp : stepP T = stepP T := rfl
  conv at hsp => rhs; unfold stepP
  generalize stepP T = SP at *
  obtain ⟨f1, f2, f3⟩ := tokL_atL (T := T) (k := 0) (by omega)
  have hs2 : (tokL T).getD 0 undef = _ := f1
  have hs3 : (tokL T).getD 1 undef = _ := f2
  have hs4 : (tokL T).getD 2 undef = _ := f3
  clear f1 f2 f3
  have hB := pf_rbehind (T.getD 0 tok0).1 (T.getD 0 tok0).2.1 (T.getD 0 tok0).2.2 (hT.pos 0) (hT.txt 0)
  have hlitq : litQ T = nrow (-100000) 100000 true (lastEnd T) (T.drop 1) 1 [] := rfl
  have hL := pf_rrow T 1 ((T.getD 0 tok0).2.1 + ((T.getD 0 tok0).2.2.length : Int)) (-100000) 100000 true hT h0 (by omega) (fun h => by unfold lastEnd; rw [← h]) (by decide) (by decide)
  rw [← hlitq] at hL
  have hkb : (litQ T).2.2.2 = 0 → 2 ≤ (litQ T).2.1 ∧ (litQ T).2.1 ≤ T.length := fun h => by
    have h9 := nrow_ok (T.drop 1) 1 [] (show (litQ T).2.2.2 = 0 from h) (by simp) (by simp) (by simp)
    have := h9.2.2.2.1
    have := h9.2.2.2.2.1
    rw [List.length_drop, ← hlitq] at this
    rw [hlitq] at *
    omega
  have hB2 : (litQ T).2.2.2 = 0 → _ := fun _ => pf_rbehind (T.getD ((litQ T).2.1 - 1) tok0).1 (T.getD ((litQ T).2.1 - 1) tok0).2.1 (T.getD ((litQ T).2.1 - 1) tok0).2.2 (hT.pos _) (hT.txt _)
  have hH : (litQ T).2.2.2 = 0 → _ := fun h => pf_rrow T (litQ T).2.1 ((T.getD ((litQ T).2.1 - 1) tok0).2.1 + ((T.getD ((litQ T).2.1 - 1) tok0).2.2.length : Int)) (-10000000) 10000000 false hT h0 (hkb h).2 (fun h2 => by unfold lastEnd; rw [← h2]) (by decide) (by decide)
  have hhq : hinQ T = nrow (-10000000) 10000000 false (lastEnd T) (T.drop (litQ T).2.1) (litQ T).2.1 [] := rfl
  have hhk : (litQ T).2.2.2 = 0 → (hinQ T).2.2.2 = 0 → (hinQ T).2.1 ≤ T.length := fun h h2 => by
    have h9 := (nrow_ok (T.drop (litQ T).2.1) (litQ T).2.1 [] (show (hinQ T).2.2.2 = 0 from h2) (by simp) (by simp) (by simp)).2.2.2.2.1
    have := (hkb h).2
    rw [List.length_drop, ← hhq] at h9
    omega
  rw [← hhq] at hH
  clear hhq
  generalize hidg : idQ T = iq at *
  obtain ⟨n, e⟩ := iq
  dsimp only at hsp hN
  by_cases c1 : e = 0
  · subst c1
    rw [if_neg (by simp)] at hsp
    by_cases c0 : 1 < T.length
    · obtain ⟨f1, f2, f3⟩ := tokL_atL (T := T) (k := 1) c0
      have hs5 : (tokL T).getD 5 undef = _ := f3
      have hs8 : (tokL T).getD 3 undef = _ := f1
      have hs9 : (tokL T).getD 4 undef = _ := f2
      clear f1 f2 f3
      have hs6 : decide ((1 : Int) < (T.length : Int)) = true := decide_eq_true (by omega)
      by_cases cd : (T.getD 1 tok0).2.2 = wD
      · rw [cd] at hs5
        have hs5 : (tokL T).getD 5 undef = .string ⟨#[100]⟩ := hs5
        rw [if_pos ⟨c0, cd⟩] at hsp
        have hB := pf_rbehind (T.getD 1 tok0).1 (T.getD 1 tok0).2.1 wD (hT.pos 1) (by decide)
        have hL := pf_rrow T 2 ((T.getD 1 tok0).2.1 + (wD.length : Int)) 0 10000000 false hT h0 (by omega) (fun h => by unfold lastEnd; rw [← h, show 2 - 1 = 1 from rfl, cd]) (by decide) (by decide)
        have hd : delQ T = nrow 0 10000000 false (lastEnd T) (T.drop 2) 2 [] := rfl
        have hkd : (delQ T).2.2.2 = 0 → (delQ T).2.1 ≤ T.length := fun h => by
          have h9 := (nrow_ok (T.drop 2) 2 [] (show (delQ T).2.2.2 = 0 from h) (by simp) (by simp) (by simp)).2.2.2.2.1
          rw [List.length_drop, ← hd] at h9
          omega
        rw [← hd] at hL
        generalize delQ T = lq at *
        unfold rowA iInts at hL
        generalize hv : (if lq.2.2.2 = 0 then (lq.2.1 : Int) - (2 : Nat) else 0) = v at hL
        have hB : PF Tryd.prog 47 [.agg [lt (.int .i64 (T.getD 1 tok0).1), lt (.int .i64 (T.getD 1 tok0).2.1), lt (.string ⟨#[100]⟩)]] fun r H' => r = lt (.int .i64 ((T.getD 1 tok0).2.1 + (wD.length : Int))) ∧ H' = [] := hB
        generalize (T.getD 1 tok0).2.1 + (wD.length : Int) = ee at hB hL
        (refine SF_of_bodyX (aload tt) (aload_ok tyOK) Tryd.func25 rfl (by kernel_rfl) ?_; simp only [Tryd.ntmps25, List.length_cons, List.length_nil, Nat.reduceAdd, Nat.reduceSub, List.replicate_succ, List.replicate_zero, List.cons_append, List.nil_append])
        (refine Wk.o ?_; (repeat revert hK K); refine Wd661a ?_; (repeat intro K hK); refine ⟨?_⟩)
        by_cases cf : lq.2.2.2 = 0
        · rw [if_pos cf] at hv
          rw [if_neg (by rw [cf]; simp)] at hsp
          have hs7 : (lq.2.2.2 != 0) = false := by simpa using cf
          try simp only [hs7]
          have hkd := hkd cf
          have hs8 : (2 : Int) + v = (lq.2.1 : Int) := by omega
          by_cases c3 : lq.2.1 < T.length
          · rw [if_pos c3] at hsp
            have hs9 : decide ((lq.2.1 : Int) < (T.length : Int)) = true := decide_eq_true (by omega)
            have hs10 := (tokL_atL (T := T) (k := lq.2.1) c3).2.1
            (refine Wk.o ?_; (repeat revert hK K); refine Wd661a ?_; (repeat intro K hK); refine ⟨?_⟩)
            refine AX_drawLk (LkS1 1 _) 9 [.free, .free, .free, .free, .free, .free, .chg, .free, .free] [true, false, false, false, false, true, true, false, false] (by kernel_rfl) (by decide +kernel) (by decide +kernel) rfl fun K hK => ?_
            simp only [go_sem]
            repeat (first | (first | ((with_reducible refine ADL_free tyOK ?_ ?_ ?_); (focus rfl); (focus (first | (with_reducible rfl) | ((simp (disch := omega) only [go_sem]); done))); simp (disch := omega) only [go_sem , iInts, hs1, hs2, hs3, hs4, hs5, hs6, hs7, hs8, hs9, hs10, hs11, hs12, hs13, hs14, hs15, hs16, hs17, Int.toNat_zero, Int.toNat_one, Int.reduceToNat, Nat.zero_add, Int.toNat_natCast, ba_size, List.length_map, Nat.reduceEqDiff, Nat.reduceMul, Nat.reduceAdd, Nat.one_mul, Nat.zero_mul]; (with_reducible refine ADL_id ?_)) | ((refine ADL_look tyOK (by rfl) (by rfl) (fun H hS => by first | (simp only [go_sem, hS , iInts, hs1, hs2, hs3, hs4, hs5, hs6, hs7, hs8, hs9, hs10, hs11, hs12, hs13, hs14, hs15, hs16, hs17, Int.toNat_zero, Int.toNat_one, Int.reduceToNat, Nat.zero_add, Int.toNat_natCast, ba_size, List.length_map, Nat.reduceEqDiff, Nat.reduceMul, Nat.reduceAdd, Nat.one_mul, Nat.zero_mul]; rfl) | (simp (disch := omega) only [go_sem , iInts, hs1, hs2, hs3, hs4, hs5, hs6, hs7, hs8, hs9, hs10, hs11, hs12, hs13, hs14, hs15, hs16, hs17, Int.toNat_zero, Int.toNat_one, Int.reduceToNat, Nat.zero_add, Int.toNat_natCast, ba_size, List.length_map, Nat.reduceEqDiff, Nat.reduceMul, Nat.reduceAdd, Nat.one_mul, Nat.zero_mul]; rfl)) ?_); (simp only [putL, List.set_cons_succ, List.set_cons_zero])) | ((with_reducible refine ADL_chg tyOK ?_ ?_ ?_); (exact Nat.le_of_ble_eq_true rfl); (focus (first | (with_reducible rfl) | ((simp (disch := omega) only [go_sem]); done))); simp (disch := omega) only [go_sem , iInts, hs1, hs2, hs3, hs4, hs5, hs6, hs7, hs8, hs9, hs10, hs11, hs12, hs13, hs14, hs15, hs16, hs17, Int.toNat_zero, Int.toNat_one, Int.reduceToNat, Nat.zero_add, Int.toNat_natCast, ba_size, List.length_map, Nat.reduceEqDiff, Nat.reduceMul, Nat.reduceAdd, Nat.one_mul, Nat.zero_mul]; (first | (refine ⟨(by decide), (fun hh => by first | exact ⟨rfl, rfl⟩ | trivial | rfl | cases hh), ?_⟩) | (refine ⟨(by decide), ?_⟩) | (refine ⟨(fun hh => by first | exact ⟨rfl, rfl⟩ | trivial | rfl | cases hh), ?_⟩) | skip); (with_reducible refine ADL_id ?_))) | ((refine ADL_nil ?_); (refine hK _ _ _ (Nat.le_of_ble_eq_true rfl) ?_); clear hK K))
            (refine Wk.o ?_; (repeat revert hK K); refine Wd661a ?_; (repeat intro K hK); refine ⟨?_⟩)
            (simp only [bodyX]; refine ⟨_, by simp only [aresults, aresult, XS.as, Tryd.results25, aload, go_sem, Option.bind_some]; rfl, ?_⟩)
            exact ⟨_, Snap.tri (snap_st snap_i0 snap_iI) (.same _ (.iv _)) (.same _ (.iv _)), _, by rw [hsp], fun h => absurd (by rw [hsp] at h; exact h) (show ¬((6 : Int) = 0) by decide), trivial⟩
          · rw [if_neg c3] at hsp
            have hs9 : decide ((lq.2.1 : Int) < (T.length : Int)) = false := decide_eq_false (by omega)
            (refine Wk.o ?_; (repeat revert hK K); refine Wd661a ?_; (repeat intro K hK); refine ⟨?_⟩)
            (simp only [bodyX]; refine ⟨_, by simp only [aresults, aresult, XS.as, Tryd.results25, aload, go_sem, Option.bind_some]; rfl, ?_⟩)
            exact ⟨_, Snap.tri (snap_st snap_i0 snap_iI) (.same _ (.iv _)) (.same _ (.iv _)), _, by rw [hsp], fun _ => by rw [hsp], trivial⟩
        · have hs7 : (lq.2.2.2 != 0) = true := by simpa using cf
          try simp only [hs7]
          rw [if_pos cf] at hsp
          (refine Wk.o ?_; (repeat revert hK K); refine Wd661a ?_; (repeat intro K hK); refine ⟨?_⟩)
          refine AX_drawLk (LkS2 1 2 _ _) 8 [.free, .free, .free, .free, .free, .chg, .free, .free] [true, false, true, false, true, true, false, false] (by kernel_rfl) (by decide +kernel) (by decide +kernel) ⟨rfl, rfl⟩ fun K hK => ?_
          simp only [go_sem]
          repeat (first | (first | ((with_reducible refine ADL_free tyOK ?_ ?_ ?_); (focus rfl); (focus (first | (with_reducible rfl) | ((simp (disch := omega) only [go_sem]); done))); simp (disch := omega) only [go_sem , iInts, hs1, hs2, hs3, hs4, hs5, hs6, hs7, hs8, hs9, hs10, hs11, hs12, hs13, hs14, hs15, hs16, hs17, Int.toNat_zero, Int.toNat_one, Int.reduceToNat, Nat.zero_add, Int.toNat_natCast, ba_size, List.length_map, Nat.reduceEqDiff, Nat.reduceMul, Nat.reduceAdd, Nat.one_mul, Nat.zero_mul]; (with_reducible refine ADL_id ?_)) | ((refine ADL_look tyOK (by rfl) (by rfl) (fun H hS => by first | (simp only [go_sem, hS , iInts, hs1, hs2, hs3, hs4, hs5, hs6, hs7, hs8, hs9, hs10, hs11, hs12, hs13, hs14, hs15, hs16, hs17, Int.toNat_zero, Int.toNat_one, Int.reduceToNat, Nat.zero_add, Int.toNat_natCast, ba_size, List.length_map, Nat.reduceEqDiff, Nat.reduceMul, Nat.reduceAdd, Nat.one_mul, Nat.zero_mul]; rfl) | (simp (disch := omega) only [go_sem , iInts, hs1, hs2, hs3, hs4, hs5, hs6, hs7, hs8, hs9, hs10, hs11, hs12, hs13, hs14, hs15, hs16, hs17, Int.toNat_zero, Int.toNat_one, Int.reduceToNat, Nat.zero_add, Int.toNat_natCast, ba_size, List.length_map, Nat.reduceEqDiff, Nat.reduceMul, Nat.reduceAdd, Nat.one_mul, Nat.zero_mul]; rfl)) ?_); (simp only [putL, List.set_cons_succ, List.set_cons_zero])) | ((with_reducible refine ADL_chg tyOK ?_ ?_ ?_); (exact Nat.le_of_ble_eq_true rfl); (focus (first | (with_reducible rfl) | ((simp (disch := omega) only [go_sem]); done))); simp (disch := omega) only [go_sem , iInts, hs1, hs2, hs3, hs4, hs5, hs6, hs7, hs8, hs9, hs10, hs11, hs12, hs13, hs14, hs15, hs16, hs17, Int.toNat_zero, Int.toNat_one, Int.reduceToNat, Nat.zero_add, Int.toNat_natCast, ba_size, List.length_map, Nat.reduceEqDiff, Nat.reduceMul, Nat.reduceAdd, Nat.one_mul, Nat.zero_mul]; (first | (refine ⟨(by decide), (fun hh => by first | exact ⟨rfl, rfl⟩ | trivial | rfl | cases hh), ?_⟩) | (refine ⟨(by decide), ?_⟩) | (refine ⟨(fun hh => by first | exact ⟨rfl, rfl⟩ | trivial | rfl | cases hh), ?_⟩) | skip); (with_reducible refine ADL_id ?_))) | ((refine ADL_nil ?_); (refine hK _ _ _ (Nat.le_of_ble_eq_true rfl) ?_); clear hK K))
          (refine Wk.o ?_; (repeat revert hK K); refine Wd661a ?_; (repeat intro K hK); refine ⟨?_⟩)
          (simp only [bodyX]; refine ⟨_, by simp only [aresults, aresult, XS.as, Tryd.results25, aload, go_sem, Option.bind_some]; rfl, ?_⟩)
          exact ⟨_, Snap.tri (snap_st snap_i0 snap_i0) (.same _ (.iv _)) (.same _ (.iv _)), _, by rw [hsp], fun h => absurd (by rw [hsp] at h; exact h) cf, trivial⟩
      · have hs12 : ((ba (T.getD 1 tok0).2.2).toList == (⟨#[100]⟩ : ByteArray).toList) = false := by
          rw [show (⟨#[100]⟩ : ByteArray) = ba wD from rfl, ba_toList, ba_toList]; simpa using cd
        rw [if_neg fun h => cd h.2] at hsp
        generalize litQ T = lq at *
        unfold rowA iInts at hL
        generalize hv : (if lq.2.2.2 = 0 then (lq.2.1 : Int) - (1 : Nat) else 0) = v at hL
        (refine SF_of_bodyX (aload tt) (aload_ok tyOK) Tryd.func25 rfl (by kernel_rfl) ?_; simp only [Tryd.ntmps25, List.length_cons, List.length_nil, Nat.reduceAdd, Nat.reduceSub, List.replicate_succ, List.replicate_zero, List.cons_append, List.nil_append])
        (refine Wk.o ?_; (repeat revert hK K); refine Wd661a ?_; (repeat intro K hK); refine ⟨?_⟩)
        by_cases cf : lq.2.2.2 = 0
        · rw [if_pos cf] at hv
          rw [if_neg (by rw [cf]; simp)] at hsp
          have hkb := hkb cf
          have hH := hH cf
          have hB2 := hB2 cf
          have hs7 : (lq.2.2.2 != 0) = false := by simpa using cf
          try simp only [hs7]
          have hs9 : (1 : Int) + v = (lq.2.1 : Int) := by omega
          have hs10 : ((lq.2.1 : Int) - 1).toNat = lq.2.1 - 1 := by omega
          generalize lq.2.1 = kk at *
          obtain ⟨f1, f2, f3⟩ := tokL_atL (T := T) (k := kk - 1) (by omega)
          have hs5 := f1
          have hs8 := f2
          have hs11 := f3
          clear f1 f2 f3
          generalize hq0 : hinQ T = hq at *
          unfold rowA iInts at hH
          generalize hv2 : (if hq.2.2.2 = 0 then (hq.2.1 : Int) - (kk : Nat) else 0) = v2 at hH
          (refine Wk.o ?_; (repeat revert hK K); refine Wd661a ?_; (repeat intro K hK); refine ⟨?_⟩)
          by_cases cg : hq.2.2.2 = 0
          · rw [if_pos cg] at hv2
            rw [if_neg (by rw [cg]; simp)] at hsp
            have hhk := hhk cf cg
            have hs13 : (hq.2.2.2 != 0) = false := by simpa using cg
            have hs14 : (kk : Int) + v2 = (hq.2.1 : Int) := by omega
            try simp only [hs13]
            by_cases c2 : n = 0
            · have hs15 : (n == 0) = true := by simpa using c2
              rw [if_pos c2] at hsp
              (refine Wk.o ?_; (repeat revert hK K); refine Wd661a ?_; (repeat intro K hK); refine ⟨?_⟩)
              refine AX_drawLk (LkS1 1 _) 8 [.free, .free, .free, .free, .free, .chg, .free, .free] [true, false, false, false, true, true, false, false] (by kernel_rfl) (by decide +kernel) (by decide +kernel) rfl fun K hK => ?_
              simp only [go_sem]
              repeat (first | (first | ((with_reducible refine ADL_free tyOK ?_ ?_ ?_); (focus rfl); (focus (first | (with_reducible rfl) | ((simp (disch := omega) only [go_sem]); done))); simp (disch := omega) only [go_sem , iInts, hs1, hs2, hs3, hs4, hs5, hs6, hs7, hs8, hs9, hs10, hs11, hs12, hs13, hs14, hs15, hs16, hs17, Int.toNat_zero, Int.toNat_one, Int.reduceToNat, Nat.zero_add, Int.toNat_natCast, ba_size, List.length_map, Nat.reduceEqDiff, Nat.reduceMul, Nat.reduceAdd, Nat.one_mul, Nat.zero_mul]; (with_reducible refine ADL_id ?_)) | ((refine ADL_look tyOK (by rfl) (by rfl) (fun H hS => by first | (simp only [go_sem, hS , iInts, hs1, hs2, hs3, hs4, hs5, hs6, hs7, hs8, hs9, hs10, hs11, hs12, hs13, hs14, hs15, hs16, hs17, Int.toNat_zero, Int.toNat_one, Int.reduceToNat, Nat.zero_add, Int.toNat_natCast, ba_size, List.length_map, Nat.reduceEqDiff, Nat.reduceMul, Nat.reduceAdd, Nat.one_mul, Nat.zero_mul]; rfl) | (simp (disch := omega) only [go_sem , iInts, hs1, hs2, hs3, hs4, hs5, hs6, hs7, hs8, hs9, hs10, hs11, hs12, hs13, hs14, hs15, hs16, hs17, Int.toNat_zero, Int.toNat_one, Int.reduceToNat, Nat.zero_add, Int.toNat_natCast, ba_size, List.length_map, Nat.reduceEqDiff, Nat.reduceMul, Nat.reduceAdd, Nat.one_mul, Nat.zero_mul]; rfl)) ?_); (simp only [putL, List.set_cons_succ, List.set_cons_zero])) | ((with_reducible refine ADL_chg tyOK ?_ ?_ ?_); (exact Nat.le_of_ble_eq_true rfl); (focus (first | (with_reducible rfl) | ((simp (disch := omega) only [go_sem]); done))); simp (disch := omega) only [go_sem , iInts, hs1, hs2, hs3, hs4, hs5, hs6, hs7, hs8, hs9, hs10, hs11, hs12, hs13, hs14, hs15, hs16, hs17, Int.toNat_zero, Int.toNat_one, Int.reduceToNat, Nat.zero_add, Int.toNat_natCast, ba_size, List.length_map, Nat.reduceEqDiff, Nat.reduceMul, Nat.reduceAdd, Nat.one_mul, Nat.zero_mul]; (first | (refine ⟨(by decide), (fun hh => by first | exact ⟨rfl, rfl⟩ | trivial | rfl | cases hh), ?_⟩) | (refine ⟨(by decide), ?_⟩) | (refine ⟨(fun hh => by first | exact ⟨rfl, rfl⟩ | trivial | rfl | cases hh), ?_⟩) | skip); (with_reducible refine ADL_id ?_))) | ((refine ADL_nil ?_); (refine hK _ _ _ (Nat.le_of_ble_eq_true rfl) ?_); clear hK K))
              (refine Wk.o ?_; (repeat revert hK K); refine Wd661a ?_; (repeat intro K hK); refine ⟨?_⟩)
              (simp only [bodyX]; refine ⟨_, by simp only [aresults, aresult, XS.as, Tryd.results25, aload, go_sem, Option.bind_some]; rfl, ?_⟩)
              exact ⟨_, Snap.tri (snap_st snap_iI snap_iI) (.same _ (.iv _)) (.same _ (.iv _)), _, by rw [hsp], fun h => absurd (by rw [hsp] at h; exact h) (show ¬((7 : Int) = 0) by decide), trivial⟩
            · have hs15 : (n == 0) = false := by simpa using c2
              rw [if_neg c2] at hsp
              by_cases c3 : hq.2.1 < T.length
              · rw [if_pos c3] at hsp
                have hs16 : decide ((hq.2.1 : Int) < (T.length : Int)) = true := decide_eq_true (by omega)
                have hs17 := (tokL_atL (T := T) (k := hq.2.1) c3).2.1
                (refine Wk.o ?_; (repeat revert hK K); refine Wd661a ?_; (repeat intro K hK); refine ⟨?_⟩)
                refine AX_drawLk (LkS1 1 _) 9 [.free, .free, .free, .free, .free, .free, .chg, .free, .free] [true, false, false, false, false, true, true, false, false] (by kernel_rfl) (by decide +kernel) (by decide +kernel) rfl fun K hK => ?_
                simp only [go_sem]
                repeat (first | (first | ((with_reducible refine ADL_free tyOK ?_ ?_ ?_); (focus rfl); (focus (first | (with_reducible rfl) | ((simp (disch := omega) only [go_sem]); done))); simp (disch := omega) only [go_sem , iInts, hs1, hs2, hs3, hs4, hs5, hs6, hs7, hs8, hs9, hs10, hs11, hs12, hs13, hs14, hs15, hs16, hs17, Int.toNat_zero, Int.toNat_one, Int.reduceToNat, Nat.zero_add, Int.toNat_natCast, ba_size, List.length_map, Nat.reduceEqDiff, Nat.reduceMul, Nat.reduceAdd, Nat.one_mul, Nat.zero_mul]; (with_reducible refine ADL_id ?_)) | ((refine ADL_look tyOK (by rfl) (by rfl) (fun H hS => by first | (simp only [go_sem, hS , iInts, hs1, hs2, hs3, hs4, hs5, hs6, hs7, hs8, hs9, hs10, hs11, hs12, hs13, hs14, hs15, hs16, hs17, Int.toNat_zero, Int.toNat_one, Int.reduceToNat, Nat.zero_add, Int.toNat_natCast, ba_size, List.length_map, Nat.reduceEqDiff, Nat.reduceMul, Nat.reduceAdd, Nat.one_mul, Nat.zero_mul]; rfl) | (simp (disch := omega) only [go_sem , iInts, hs1, hs2, hs3, hs4, hs5, hs6, hs7, hs8, hs9, hs10, hs11, hs12, hs13, hs14, hs15, hs16, hs17, Int.toNat_zero, Int.toNat_one, Int.reduceToNat, Nat.zero_add, Int.toNat_natCast, ba_size, List.length_map, Nat.reduceEqDiff, Nat.reduceMul, Nat.reduceAdd, Nat.one_mul, Nat.zero_mul]; rfl)) ?_); (simp only [putL, List.set_cons_succ, List.set_cons_zero])) | ((with_reducible refine ADL_chg tyOK ?_ ?_ ?_); (exact Nat.le_of_ble_eq_true rfl); (focus (first | (with_reducible rfl) | ((simp (disch := omega) only [go_sem]); done))); simp (disch := omega) only [go_sem , iInts, hs1, hs2, hs3, hs4, hs5, hs6, hs7, hs8, hs9, hs10, hs11, hs12, hs13, hs14, hs15, hs16, hs17, Int.toNat_zero, Int.toNat_one, Int.reduceToNat, Nat.zero_add, Int.toNat_natCast, ba_size, List.length_map, Nat.reduceEqDiff, Nat.reduceMul, Nat.reduceAdd, Nat.one_mul, Nat.zero_mul]; (first | (refine ⟨(by decide), (fun hh => by first | exact ⟨rfl, rfl⟩ | trivial | rfl | cases hh), ?_⟩) | (refine ⟨(by decide), ?_⟩) | (refine ⟨(fun hh => by first | exact ⟨rfl, rfl⟩ | trivial | rfl | cases hh), ?_⟩) | skip); (with_reducible refine ADL_id ?_))) | ((refine ADL_nil ?_); (refine hK _ _ _ (Nat.le_of_ble_eq_true rfl) ?_); clear hK K))
                (refine Wk.o ?_; (repeat revert hK K); refine Wd661a ?_; (repeat intro K hK); refine ⟨?_⟩)
                (simp only [bodyX]; refine ⟨_, by simp only [aresults, aresult, XS.as, Tryd.results25, aload, go_sem, Option.bind_some]; rfl, ?_⟩)
                exact ⟨_, Snap.tri (snap_st snap_iI snap_iI) (.same _ (.iv _)) (.same _ (.iv _)), _, by rw [hsp], fun h => absurd (by rw [hsp] at h; exact h) (show ¬((6 : Int) = 0) by decide), trivial⟩
              · rw [if_neg c3] at hsp
                have hs16 : decide ((hq.2.1 : Int) < (T.length : Int)) = false := decide_eq_false (by omega)
                (refine Wk.o ?_; (repeat revert hK K); refine Wd661a ?_; (repeat intro K hK); refine ⟨?_⟩)
                (simp only [bodyX]; refine ⟨_, by simp only [aresults, aresult, XS.as, Tryd.results25, aload, go_sem, Option.bind_some]; rfl, ?_⟩)
                exact ⟨_, Snap.tri (snap_st snap_iI snap_iI) (.same _ (.iv _)) (.same _ (.iv _)), _, by rw [hsp], fun _ => by rw [hsp], trivial⟩
          · have hs13 : (hq.2.2.2 != 0) = true := by simpa using cg
            rw [if_pos cg] at hsp
            try simp only [hs13]
            (refine Wk.o ?_; (repeat revert hK K); refine Wd661a ?_; (repeat intro K hK); refine ⟨?_⟩)
            refine AX_drawLk (LkS2 1 3 _ _) 8 [.free, .free, .free, .free, .free, .chg, .free, .free] [true, false, true, false, true, true, false, false] (by kernel_rfl) (by decide +kernel) (by decide +kernel) ⟨rfl, rfl⟩ fun K hK => ?_
            simp only [go_sem]
            repeat (first | (first | ((with_reducible refine ADL_free tyOK ?_ ?_ ?_); (focus rfl); (focus (first | (with_reducible rfl) | ((simp (disch := omega) only [go_sem]); done))); simp (disch := omega) only [go_sem , iInts, hs1, hs2, hs3, hs4, hs5, hs6, hs7, hs8, hs9, hs10, hs11, hs12, hs13, hs14, hs15, hs16, hs17, Int.toNat_zero, Int.toNat_one, Int.reduceToNat, Nat.zero_add, Int.toNat_natCast, ba_size, List.length_map, Nat.reduceEqDiff, Nat.reduceMul, Nat.reduceAdd, Nat.one_mul, Nat.zero_mul]; (with_reducible refine ADL_id ?_)) | ((refine ADL_look tyOK (by rfl) (by rfl) (fun H hS => by first | (simp only [go_sem, hS , iInts, hs1, hs2, hs3, hs4, hs5, hs6, hs7, hs8, hs9, hs10, hs11, hs12, hs13, hs14, hs15, hs16, hs17, Int.toNat_zero, Int.toNat_one, Int.reduceToNat, Nat.zero_add, Int.toNat_natCast, ba_size, List.length_map, Nat.reduceEqDiff, Nat.reduceMul, Nat.reduceAdd, Nat.one_mul, Nat.zero_mul]; rfl) | (simp (disch := omega) only [go_sem , iInts, hs1, hs2, hs3, hs4, hs5, hs6, hs7, hs8, hs9, hs10, hs11, hs12, hs13, hs14, hs15, hs16, hs17, Int.toNat_zero, Int.toNat_one, Int.reduceToNat, Nat.zero_add, Int.toNat_natCast, ba_size, List.length_map, Nat.reduceEqDiff, Nat.reduceMul, Nat.reduceAdd, Nat.one_mul, Nat.zero_mul]; rfl)) ?_); (simp only [putL, List.set_cons_succ, List.set_cons_zero])) | ((with_reducible refine ADL_chg tyOK ?_ ?_ ?_); (exact Nat.le_of_ble_eq_true rfl); (focus (first | (with_reducible rfl) | ((simp (disch := omega) only [go_sem]); done))); simp (disch := omega) only [go_sem , iInts, hs1, hs2, hs3, hs4, hs5, hs6, hs7, hs8, hs9, hs10, hs11, hs12, hs13, hs14, hs15, hs16, hs17, Int.toNat_zero, Int.toNat_one, Int.reduceToNat, Nat.zero_add, Int.toNat_natCast, ba_size, List.length_map, Nat.reduceEqDiff, Nat.reduceMul, Nat.reduceAdd, Nat.one_mul, Nat.zero_mul]; (first | (refine ⟨(by decide), (fun hh => by first | exact ⟨rfl, rfl⟩ | trivial | rfl | cases hh), ?_⟩) | (refine ⟨(by decide), ?_⟩) | (refine ⟨(fun hh => by first | exact ⟨rfl, rfl⟩ | trivial | rfl | cases hh), ?_⟩) | skip); (with_reducible refine ADL_id ?_))) | ((refine ADL_nil ?_); (refine hK _ _ _ (Nat.le_of_ble_eq_true rfl) ?_); clear hK K))
            (refine Wk.o ?_; (repeat revert hK K); refine Wd661a ?_; (repeat intro K hK); refine ⟨?_⟩)
            (simp only [bodyX]; refine ⟨_, by simp only [aresults, aresult, XS.as, Tryd.results25, aload, go_sem, Option.bind_some]; rfl, ?_⟩)
            exact ⟨_, Snap.tri (snap_st snap_i0 snap_i0) (.same _ (.iv _)) (.same _ (.iv _)), _, by rw [hsp], fun h => absurd (by rw [hsp] at h; exact h) cg, trivial⟩
        · have hs7 : (lq.2.2.2 != 0) = true := by simpa using cf
          try simp only [hs7]
          rw [if_pos cf] at hsp
          (refine Wk.o ?_; (repeat revert hK K); refine Wd661a ?_; (repeat intro K hK); refine ⟨?_⟩)
          refine AX_drawLk (LkS2 1 2 _ _) 8 [.free, .free, .free, .free, .free, .chg, .free, .free] [true, false, true, false, true, true, false, false] (by kernel_rfl) (by decide +kernel) (by decide +kernel) ⟨rfl, rfl⟩ fun K hK => ?_
          simp only [go_sem]
          repeat (first | (first | ((with_reducible refine ADL_free tyOK ?_ ?_ ?_); (focus rfl); (focus (first | (with_reducible rfl) | ((simp (disch := omega) only [go_sem]); done))); simp (disch := omega) only [go_sem , iInts, hs1, hs2, hs3, hs4, hs5, hs6, hs7, hs8, hs9, hs10, hs11, hs12, hs13, hs14, hs15, hs16, hs17, Int.toNat_zero, Int.toNat_one, Int.reduceToNat, Nat.zero_add, Int.toNat_natCast, ba_size, List.length_map, Nat.reduceEqDiff, Nat.reduceMul, Nat.reduceAdd, Nat.one_mul, Nat.zero_mul]; (with_reducible refine ADL_id ?_)) | ((refine ADL_look tyOK (by rfl) (by rfl) (fun H hS => by first | (simp only [go_sem, hS , iInts, hs1, hs2, hs3, hs4, hs5, hs6, hs7, hs8, hs9, hs10, hs11, hs12, hs13, hs14, hs15, hs16, hs17, Int.toNat_zero, Int.toNat_one, Int.reduceToNat, Nat.zero_add, Int.toNat_natCast, ba_size, List.length_map, Nat.reduceEqDiff, Nat.reduceMul, Nat.reduceAdd, Nat.one_mul, Nat.zero_mul]; rfl) | (simp (disch := omega) only [go_sem , iInts, hs1, hs2, hs3, hs4, hs5, hs6, hs7, hs8, hs9, hs10, hs11, hs12, hs13, hs14, hs15, hs16, hs17, Int.toNat_zero, Int.toNat_one, Int.reduceToNat, Nat.zero_add, Int.toNat_natCast, ba_size, List.length_map, Nat.reduceEqDiff, Nat.reduceMul, Nat.reduceAdd, Nat.one_mul, Nat.zero_mul]; rfl)) ?_); (simp only [putL, List.set_cons_succ, List.set_cons_zero])) | ((with_reducible refine ADL_chg tyOK ?_ ?_ ?_); (exact Nat.le_of_ble_eq_true rfl); (focus (first | (with_reducible rfl) | ((simp (disch := omega) only [go_sem]); done))); simp (disch := omega) only [go_sem , iInts, hs1, hs2, hs3, hs4, hs5, hs6, hs7, hs8, hs9, hs10, hs11, hs12, hs13, hs14, hs15, hs16, hs17, Int.toNat_zero, Int.toNat_one, Int.reduceToNat, Nat.zero_add, Int.toNat_natCast, ba_size, List.length_map, Nat.reduceEqDiff, Nat.reduceMul, Nat.reduceAdd, Nat.one_mul, Nat.zero_mul]; (first | (refine ⟨(by decide), (fun hh => by first | exact ⟨rfl, rfl⟩ | trivial | rfl | cases hh), ?_⟩) | (refine ⟨(by decide), ?_⟩) | (refine ⟨(fun hh => by first | exact ⟨rfl, rfl⟩ | trivial | rfl | cases hh), ?_⟩) | skip); (with_reducible refine ADL_id ?_))) | ((refine ADL_nil ?_); (refine hK _ _ _ (Nat.le_of_ble_eq_true rfl) ?_); clear hK K))
          (refine Wk.o ?_; (repeat revert hK K); refine Wd661a ?_; (repeat intro K hK); refine ⟨?_⟩)
          (simp only [bodyX]; refine ⟨_, by simp only [aresults, aresult, XS.as, Tryd.results25, aload, go_sem, Option.bind_some]; rfl, ?_⟩)
          exact ⟨_, Snap.tri (snap_st snap_i0 snap_i0) (.same _ (.iv _)) (.same _ (.iv _)), _, by rw [hsp], fun h => absurd (by rw [hsp] at h; exact h) cf, trivial⟩
    · have hs6 : decide ((1 : Int) < (T.length : Int)) = false := decide_eq_false (by omega)
      rw [if_neg fun h => c0 h.1] at hsp
      generalize litQ T = lq at *
      unfold rowA iInts at hL
      have cf : lq.2.2.2 ≠ 0 := fun h => by have := hkb h; omega
      have hs7 : (lq.2.2.2 != 0) = true := by simpa using cf
      clear hkb hhk hB2 hH
      have hB2 := trivial; have hH := trivial
      rw [if_neg cf] at hL
      rw [if_pos cf] at hsp
      (refine SF_of_bodyX (aload tt) (aload_ok tyOK) Tryd.func25 rfl (by kernel_rfl) ?_; simp only [Tryd.ntmps25, List.length_cons, List.length_nil, Nat.reduceAdd, Nat.reduceSub, List.replicate_succ, List.replicate_zero, List.cons_append, List.nil_append])
      (refine Wk.o ?_; (repeat revert hK K); refine Wd661a ?_; (repeat intro K hK); refine ⟨?_⟩)
      refine AX_drawLk (LkS2 1 2 _ _) 8 [.free, .free, .free, .free, .free, .chg, .free, .free] [true, false, true, false, true, true, false, false] (by kernel_rfl) (by decide +kernel) (by decide +kernel) ⟨rfl, rfl⟩ fun K hK => ?_
      simp only [go_sem]
      repeat (first | (first | ((with_reducible refine ADL_free tyOK ?_ ?_ ?_); (focus rfl); (focus (first | (with_reducible rfl) | ((simp (disch := omega) only [go_sem]); done))); simp (disch := omega) only [go_sem , iInts, hs1, hs2, hs3, hs4, hs5, hs6, hs7, hs8, hs9, hs10, hs11, hs12, hs13, hs14, hs15, hs16, hs17, Int.toNat_zero, Int.toNat_one, Int.reduceToNat, Nat.zero_add, Int.toNat_natCast, ba_size, List.length_map, Nat.reduceEqDiff, Nat.reduceMul, Nat.reduceAdd, Nat.one_mul, Nat.zero_mul]; (with_reducible refine ADL_id ?_)) | ((refine ADL_look tyOK (by rfl) (by rfl) (fun H hS => by first | (simp only [go_sem, hS , iInts, hs1, hs2, hs3, hs4, hs5, hs6, hs7, hs8, hs9, hs10, hs11, hs12, hs13, hs14, hs15, hs16, hs17, Int.toNat_zero, Int.toNat_one, Int.reduceToNat, Nat.zero_add, Int.toNat_natCast, ba_size, List.length_map, Nat.reduceEqDiff, Nat.reduceMul, Nat.reduceAdd, Nat.one_mul, Nat.zero_mul]; rfl) | (simp (disch := omega) only [go_sem , iInts, hs1, hs2, hs3, hs4, hs5, hs6, hs7, hs8, hs9, hs10, hs11, hs12, hs13, hs14, hs15, hs16, hs17, Int.toNat_zero, Int.toNat_one, Int.reduceToNat, Nat.zero_add, Int.toNat_natCast, ba_size, List.length_map, Nat.reduceEqDiff, Nat.reduceMul, Nat.reduceAdd, Nat.one_mul, Nat.zero_mul]; rfl)) ?_); (simp only [putL, List.set_cons_succ, List.set_cons_zero])) | ((with_reducible refine ADL_chg tyOK ?_ ?_ ?_); (exact Nat.le_of_ble_eq_true rfl); (focus (first | (with_reducible rfl) | ((simp (disch := omega) only [go_sem]); done))); simp (disch := omega) only [go_sem , iInts, hs1, hs2, hs3, hs4, hs5, hs6, hs7, hs8, hs9, hs10, hs11, hs12, hs13, hs14, hs15, hs16, hs17, Int.toNat_zero, Int.toNat_one, Int.reduceToNat, Nat.zero_add, Int.toNat_natCast, ba_size, List.length_map, Nat.reduceEqDiff, Nat.reduceMul, Nat.reduceAdd, Nat.one_mul, Nat.zero_mul]; (first | (refine ⟨(by decide), (fun hh => by first | exact ⟨rfl, rfl⟩ | trivial | rfl | cases hh), ?_⟩) | (refine ⟨(by decide), ?_⟩) | (refine ⟨(fun hh => by first | exact ⟨rfl, rfl⟩ | trivial | rfl | cases hh), ?_⟩) | skip); (with_reducible refine ADL_id ?_))) | ((refine ADL_nil ?_); (refine hK _ _ _ (Nat.le_of_ble_eq_true rfl) ?_); clear hK K))
      (refine Wk.o ?_; (repeat revert hK K); refine Wd661a ?_; (repeat intro K hK); refine ⟨?_⟩)
      (simp only [bodyX]; refine ⟨_, by simp only [aresults, aresult, XS.as, Tryd.results25, aload, go_sem, Option.bind_some]; rfl, ?_⟩)
      exact ⟨_, Snap.tri (snap_st snap_i0 snap_i0) (.same _ (.iv _)) (.same _ (.iv _)), _, by rw [hsp], fun h => absurd (by rw [hsp] at h; exact h) cf, trivial⟩
  · have hs5 : (e != 0) = true := by simpa using c1
    rw [if_pos c1] at hsp
    (refine SF_of_bodyX (aload tt) (aload_ok tyOK) Tryd.func25 rfl (by kernel_rfl) ?_; simp only [Tryd.ntmps25, List.length_cons, List.length_nil, Nat.reduceAdd, Nat.reduceSub, List.replicate_succ, List.replicate_zero, List.cons_append, List.nil_append])
    (refine Wk.o ?_; (repeat revert hK K); refine Wd661a ?_; (repeat intro K hK); refine ⟨?_⟩)
    refine AX_drawLk (fun _ => True) 9 [.free, .free, .free, .free, .free, .free, .chg, .free, .free] [false, false, false, false, true, false, true, false, false] (by kernel_rfl) (by decide +kernel) (by decide +kernel) trivial fun K hK => ?_
    simp only [go_sem]
    repeat (first | (first | ((with_reducible refine ADL_free tyOK ?_ ?_ ?_); (focus rfl); (focus (first | (with_reducible rfl) | ((simp (disch := omega) only [go_sem]); done))); simp (disch := omega) only [go_sem , iInts, hs1, hs2, hs3, hs4, hs5, hs6, hs7, hs8, hs9, hs10, hs11, hs12, hs13, hs14, hs15, hs16, hs17, Int.toNat_zero, Int.toNat_one, Int.reduceToNat, Nat.zero_add, Int.toNat_natCast, ba_size, List.length_map, Nat.reduceEqDiff, Nat.reduceMul, Nat.reduceAdd, Nat.one_mul, Nat.zero_mul]; (with_reducible refine ADL_id ?_)) | ((refine ADL_look tyOK (by rfl) (by rfl) (fun H hS => by first | (simp only [go_sem, hS , iInts, hs1, hs2, hs3, hs4, hs5, hs6, hs7, hs8, hs9, hs10, hs11, hs12, hs13, hs14, hs15, hs16, hs17, Int.toNat_zero, Int.toNat_one, Int.reduceToNat, Nat.zero_add, Int.toNat_natCast, ba_size, List.length_map, Nat.reduceEqDiff, Nat.reduceMul, Nat.reduceAdd, Nat.one_mul, Nat.zero_mul]; rfl) | (simp (disch := omega) only [go_sem , iInts, hs1, hs2, hs3, hs4, hs5, hs6, hs7, hs8, hs9, hs10, hs11, hs12, hs13, hs14, hs15, hs16, hs17, Int.toNat_zero, Int.toNat_one, Int.reduceToNat, Nat.zero_add, Int.toNat_natCast, ba_size, List.length_map, Nat.reduceEqDiff, Nat.reduceMul, Nat.reduceAdd, Nat.one_mul, Nat.zero_mul]; rfl)) ?_); (simp only [putL, List.set_cons_succ, List.set_cons_zero])) | ((with_reducible refine ADL_chg tyOK ?_ ?_ ?_); (exact Nat.le_of_ble_eq_true rfl); (focus (first | (with_reducible rfl) | ((simp (disch := omega) only [go_sem]); done))); simp (disch := omega) only [go_sem , iInts, hs1, hs2, hs3, hs4, hs5, hs6, hs7, hs8, hs9, hs10, hs11, hs12, hs13, hs14, hs15, hs16, hs17, Int.toNat_zero, Int.toNat_one, Int.reduceToNat, Nat.zero_add, Int.toNat_natCast, ba_size, List.length_map, Nat.reduceEqDiff, Nat.reduceMul, Nat.reduceAdd, Nat.one_mul, Nat.zero_mul]; (first | (refine ⟨(by decide), (fun hh => by first | exact ⟨rfl, rfl⟩ | trivial | rfl | cases hh), ?_⟩) | (refine ⟨(by decide), ?_⟩) | (refine ⟨(fun hh => by first | exact ⟨rfl, rfl⟩ | trivial | rfl | cases hh), ?_⟩) | skip); (with_reducible refine ADL_id ?_))) | ((refine ADL_nil ?_); (refine hK _ _ _ (Nat.le_of_ble_eq_true rfl) ?_); clear hK K))
    (refine Wk.o ?_; (repeat revert hK K); refine Wd661a ?_; (repeat intro K hK); refine ⟨?_⟩)
    (simp only [bodyX]; refine ⟨_, by simp only [aresults, aresult, XS.as, Tryd.results25, aload, go_sem, Option.bind_some]; rfl, ?_⟩)
    exact ⟨_, Snap.tri (snap_st snap_i0 snap_i0) (.same _ (.iv _)) (.same _ (.iv _)), _, by rw [hsp], fun h => absurd (by rw [hsp] at h; exact h) c1, trivial⟩
end Go.Proofs.YtghdacijcnmhlaaDoor
namespace Go.Proofs.YtghdacijcnmhlaaDoor
open Go.RowKit Go.Lib
set_option linter.unusedVariables false
set_option linter.unusedSimpArgs false
theorem renH_nil10 (k : Nat) : renH k [] = [] := rfl
theorem ren_step (s : Stp) (a b : Int) (k : Nat) : (AV.tup [stpA s, lt (.int .i64 a), lt (.int .i64 b)]).ren k = AV.tup [.agg [lt (.int .i64 s.k), lt (.int .i64 s.i), .iv (iInts s.L), .iv (iInts s.H)], lt (.int .i64 a), lt (.int .i64 b)] := rfl
theorem W4c2aa {A B : Prop} (h9 : B) (w : B → A := by (intro h9; (repeat intro K hK); refine ⟨?_⟩; (repeat (first | (first | (with_reducible first | refine AX_block ?_ | refine AX_skip ?_ | refine AX_exit ?_ | refine AX_ret ?_ | refine AX_ift ?_ | refine AX_iff ?_ | refine AX_seq_k (fun K hK => ?_) | refine ContX.use (by assumption) ?_) | simp only [thenX, inBlockX, if_true, if_false, reduceCtorEq]) | (first | ((with_reducible refine XOP tyOK ?_); simp (disch := omega) only [go_sem , iInts, hs1, hs2, hs3, hs4, hs5, hs6, hs7, hs8, hs9, Int.toNat_zero, Int.toNat_one, Int.reduceToNat, Nat.zero_add, Int.toNat_natCast, ba_size]; (with_reducible refine XRes_id ?_)) | (with_reducible refine XSK ?_)) | ((with_reducible refine XRes_nil ?_); refine hK _ ?_; clear hK K) | (first | (first | refine XTL (by rfl) hLn ?_)) | ((with_reducible refine AX_reg0 fun K hK => ?_); simp only [go_sem]))); refine Wk.o ?_; (repeat revert hK K); exact h9)) : A := w h9
set_option maxRecDepth 100000 in
set_option maxHeartbeats 8000000 in
theorem pf_rpParse (l : List UInt8) (hl : l.length ≤ 1000000) (hok : LsOK (lnsT l)) : PF Tryd.prog 9 [lt (.string (ba l))] fun r H' => r = .tup [.iv (iSts (prp l).1), lt (.int .i64 (prp l).2.1), lt (.int .i64 (prp l).2.2)] ∧ H' = [] := by
  refine SF.frozen ?_
  have hs1 := trivial; have hs2 := trivial; have hs3 := trivial; have hs4 := trivial; have hs5 := trivial; have hs6 := trivial; have hs7 := trivial; have hs8 := trivial; have hs9 := trivial; have hLn := trivial
  have hLn := pf_rLinesT l (by omega)
  have hs1 : decide ((1000000 : Int) < (l.length : Int)) = false := decide_eq_false (by omega)
  have hlen := hok.len
  have hget := hok.get
  unfold prp
  generalize lnsT l = L at *
  have hs2 : iLs L = .sl (fun j => iTokL (L.getD j [])) L.length 1 := rfl
  generalize hG : stsGo l.length L [] = G at *
  (refine SF_of_bodyX (aload tt) (aload_ok tyOK) Tryd.func9 rfl (by kernel_rfl) ?_; simp only [Tryd.ntmps9, List.length_cons, List.length_nil, Nat.reduceAdd, Nat.reduceSub, List.replicate_succ, List.replicate_zero, List.cons_append, List.nil_append])
  (refine Wk.o ?_; (repeat revert hK K); refine W4c2aa ?_; (repeat intro K hK); refine ⟨?_⟩)
  refine AX_nil 5 52 4 rfl ?_
  have hinit : stL [] = [] := rfl
  (refine AX_wh (σ := Nat × List Stp) [16, 17, 18, 19, 22, 23, 24, 25, 26, 27, 28, 29, 30, 31, 32, 33, 34, 35, 36, 37, 2, 3, 4, 39, 40, 41, 42, 43, 38, 44, 45, 46, 8, 9, 10, 47, 48, 49, 50, 51, 52, 53, 54, 20, 21] (fun (i, xs) => [(7, lint i), (5, .osl 0 0 xs.length 4)]) (fun (i, xs) => [some ⟨52, stL xs⟩]) (fun (i, xs) => []) (fun (i, xs) => i ≤ L.length ∧ G = stsGo l.length (L.drop i) xs ∧ xs.length ≤ i) (fun (i, xs) => L.length - i) (0, []) (fun d => by first | ((simp only [deadS, updS, List.set_cons_succ, List.set_cons_zero, lint, List.length_nil, List.length_cons]); done) | ((simp only [deadS, updS, List.set_cons_succ, List.set_cons_zero, lint, List.length_nil, List.length_cons]); rfl) | rfl) (by first | (with_reducible rfl) | (simp only [hinit]; done) | rfl) (by first | (with_reducible rfl) | rfl) (by first | exact ⟨Nat.zero_le _, by rw [List.drop_zero]; exact hG.symm, by simp⟩) ?_; rintro ⟨i, xs⟩ d fr hfr ⟨hi, hgo, hxl⟩; simp only [updS, deadS, List.set_cons_succ, List.set_cons_zero, lint] at hfr; subst hfr; (try dsimp only))
  by_cases hlt : i < L.length
  · have hs3 : decide ((i : Int) < (L.length : Int)) = true := decide_eq_true (by omega)
    rw [stsGo_at hlt] at hgo
    have hT := hget i
    have hs4 : iTokL (L.getD i []) = .sl (fun j => .lit ((tokL (L.getD i [])).getD j undef)) (L.getD i []).length 3 := rfl
    have hTl := hT.len
    by_cases h0 : (L.getD i []).length = 0
    · rw [if_pos h0] at hgo
      have hs5 : (((L.getD i []).length : Int) == 0) = true := by simpa using h0
      (refine Wk.o ?_; (repeat revert hK K); refine W4c2aa ?_; (repeat intro K hK); refine ⟨?_⟩)
      exact whx_ren [0] (i + 1, xs) ⟨by dsimp only; omega, hgo, by dsimp only; omega⟩ (by dsimp only; omega) rfl (by decide) (by decide) (by (simp (disch := omega) only [go_sem, lint, Nat.reduceEqDiff, List.length_map])) (by (simp (disch := omega) only [go_sem, lint, Nat.reduceEqDiff, List.length_map])) (by (simp (disch := omega) only [go_sem, lint, Nat.reduceEqDiff, List.length_map])) (fun d => by first | ((simp (disch := omega) only [go_sem, lint, Nat.reduceEqDiff, List.length_map]); done) | ((simp (disch := omega) only [go_sem, lint, Nat.reduceEqDiff, List.length_map]); rfl))
    · rw [if_neg h0] at hgo
      have hs5 : (((L.getD i []).length : Int) == 0) = false := by simpa using h0
      have hs6 : ((xs.length : Int) == 1000000) = false := by rw [beq_eq_false_iff_ne]; omega
      have hS := pf_rstep (L.getD i []) hT h0
      rw [hs4] at hS
      (refine Wk.o ?_; (repeat revert hK K); refine W4c2aa ?_; (repeat intro K hK); refine ⟨?_⟩)
      refine XRes_fn (by rfl) (PF.among (idsA (by rfl)) hS) ?_
      rintro r H' ⟨r1, H1, ⟨s, rfl, hsv, rfl⟩, rfl, rfl⟩
      simp only [renH_nil10, List.append_nil, ren_step]
      (simp only [putL, List.set_cons_succ, List.set_cons_zero])
      generalize stepP (L.getD i []) = q at *
      obtain ⟨s2, a, f⟩ := q
      dsimp only at hgo hsv ⊢
      by_cases cf : f = 0
      · have hs8 : (f != 0) = false := by simpa using cf
        rw [if_neg (by simpa using cf), ← hsv cf] at hgo
        have hs9 : stL xs ++ [lt (.int .i64 s.k), lt (.int .i64 s.i), .iv (.sl (fun j => .lit (.int .i64 (s.L.getD j 0))) s.L.length 1), .iv (.sl (fun j => .lit (.int .i64 (s.H.getD j 0))) s.H.length 1)] = stL (xs ++ [s]) := stL_snoc xs s
        (refine Wk.o ?_; (repeat revert hK K); refine W4c2aa ?_; (repeat intro K hK); refine ⟨?_⟩)
        exact whx_ren [3] (i + 1, xs ++ [s]) ⟨by dsimp only; omega, hgo, by rw [List.length_append, List.length_singleton]; omega⟩ (by dsimp only; omega) rfl (by decide) (by decide) (by (simp (disch := omega) only [go_sem, lint, Nat.reduceEqDiff, List.length_map])) (by (simp (disch := omega) only [go_sem, lint, Nat.reduceEqDiff, List.length_map])) (by (simp (disch := omega) only [go_sem, lint, Nat.reduceEqDiff, List.length_map])) (fun d => by first | ((simp (disch := omega) only [go_sem, lint, Nat.reduceEqDiff, List.length_map]); done) | ((simp (disch := omega) only [go_sem, lint, Nat.reduceEqDiff, List.length_map]); rfl))
      · have hs8 : (f != 0) = true := by simpa using cf
        rw [if_pos cf] at hgo
        (refine Wk.o ?_; (repeat revert hK K); refine W4c2aa ?_; (repeat intro K hK); refine ⟨?_⟩)
        (simp only [bodyX]; refine ⟨_, by simp only [aresults, aresult, XS.as, Tryd.results9, aload, go_sem, Option.bind_some]; rfl, ?_⟩)
        exact ⟨_, Snap.tri snap_sts0 (.same _ (.iv _)) (.same _ (.iv _)), by rw [hgo], trivial⟩
  · obtain rfl : i = L.length := by omega
    rw [List.drop_length] at hgo
    have hgo : G = (xs, (l.length : Int), 0) := hgo
    have hs3 : decide ((L.length : Int) < (L.length : Int)) = false := decide_eq_false (by omega)
    (refine Wk.o ?_; (repeat revert hK K); refine W4c2aa ?_; (repeat intro K hK); refine ⟨?_⟩)
    (simp only [bodyX]; refine ⟨_, by simp only [aresults, aresult, XS.as, Tryd.results9, aload, go_sem, Option.bind_some]; rfl, ?_⟩)
    exact ⟨_, Snap.tri (.iv _ _ (snapC_sts rfl rfl)) (.same _ (.iv _)) (.same _ (.iv _)), by first | rfl | (rw [hgo]; done) | (rw [hgo]; rfl), trivial⟩
end Go.Proofs.YtghdacijcnmhlaaDoor
