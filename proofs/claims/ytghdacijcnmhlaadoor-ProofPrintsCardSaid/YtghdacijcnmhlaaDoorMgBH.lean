import Derived.Test.YtghdacijcnmhlaaDoorMgBG
import Derived.Test.YtghdacijcnmhlaaDoorMgBF
import Derived.Test.YtghdacijcnmhlaaDoorMgAL
import Derived.Test.YtghdacijcnmhlaaDoorMgAM
import Derived.Test.YtghdacijcnmhlaaDoorMgAY
import Derived.Test.YtghdacijcnmhlaaDoorMgBD
namespace Go.Proofs.YtghdacijcnmhlaaDoor
open Go.RowKit Go.Lib
set_option linter.unusedVariables false
set_option linter.unusedSimpArgs false
theorem W3366a {A B : Prop} (h9 : B) (w : B → A := by (intro h9; (repeat intro K hK); refine ⟨?_⟩; (repeat (first | (first | (with_reducible first | refine AX_block ?_ | refine AX_skip ?_ | refine AX_exit ?_ | refine AX_ret ?_ | refine AX_ift ?_ | refine AX_iff ?_ | refine AX_seq_k (fun K hK => ?_) | refine ContX.use (by assumption) ?_) | simp only [thenX, inBlockX, if_true, if_false, reduceCtorEq]) | (first | ((first | (with_reducible refine XRes_op tyOK ?_ ?_) | ((with_reducible first | refine ADF_op tyOK ?_ ?_ ?_ | refine ADX_op tyOK ?_ ?_ ?_); (focus rfl)) | (with_reducible refine ADR_alloc1 tyOK ?_ ?_) | ((with_reducible refine ADR_free1 tyOK ?_ ?_ ?_); (focus rfl)) | ((with_reducible refine ADR_free0 tyOK ?_ ?_ ?_); (focus rfl)) | ((with_reducible refine ADR_read1 tyOK ?_ ?_ ?_); (focus rfl)) | (with_reducible refine ADR_chg1 tyOK ?_ ?_)); (focus (first | (with_reducible rfl) | ((simp (disch := omega) only [go_sem]); done))); simp (disch := omega) only [go_sem , hs1, hs2, hs3, hs4, hs5, hs6, hs7, hs8, hs9, Int.toNat_zero, Int.toNat_one, Int.reduceToNat, Nat.zero_add, Int.toNat_natCast, ba_size]; (first | (with_reducible refine XRes_id ?_) | (with_reducible refine ADF_id ?_) | (with_reducible refine ADR_id1 ?_) | (with_reducible refine ADX_id ?_))) | ((first | (with_reducible refine XRes_skip ?_ ?_) | (with_reducible refine ADF_skip (b := true) ?_ ?_) | (with_reducible refine ADX_skip ?_ ?_) | ((with_reducible refine ADR_skip1 ?_ ?_ ?_); (focus rfl))); (focus (first | rfl | ((simp (disch := omega) only [go_sem]); done))); (simp only [putL, List.set_cons_succ, List.set_cons_zero]))) | ((first | (with_reducible refine XRes_nil ?_) | (with_reducible refine ADF_nil ?_) | (with_reducible refine ADR_nil ?_) | (with_reducible refine ADX_nil ?_)); (first | refine hK _ ?_ | refine hK _ _ ?_); clear hK K) | ((first | (with_reducible refine AX_reg0 fun K hK => ?_) | (refine AX_drawG1 tyOK (by kernel_rfl) (by rfl) (by kernel_rfl) fun K hK => ?_) | (refine AX_drawT tyOK (by kernel_rfl) (by decide +kernel) fun K hK => ?_) | (refine AX_drawM1 (by kernel_rfl) (by rfl) (by decide +kernel) fun K hK => ?_) | (refine AX_drawA tyOK (by kernel_rfl) (by decide +kernel) fun K hK => ?_)); (first | simp only [go_sem, preN, effOp, runF, alM, mapOp, alD2, kdOf2, Bool.not_false, Bool.not_true, reduceCtorEq] | simp only [go_sem, preN, effOp, runF, alM, mapOp, Bool.not_false, Bool.not_true, reduceCtorEq] | simp only [go_sem, preN, effOp, runF, alD2, kdOf2, Bool.not_false, Bool.not_true, reduceCtorEq] | simp only [go_sem, alD2, kdOf2, Bool.not_false, Bool.not_true, reduceCtorEq] | simp only [go_sem, preN, effOp, runF, Bool.not_false, Bool.not_true, reduceCtorEq] | simp only [go_sem])) | (first | ((refine XRes_fn (by rfl) hFl ?_); (rintro r H' ⟨rfl, rfl⟩); (simp only [putL, List.set_cons_succ, List.set_cons_zero])) | (first | refine XTL (by rfl) hN ?_ | refine ATL tyOK (by rfl) hN ?_) | ((refine XRes_callvX (by rfl) (by rfl) hMay ?_); (rintro r H' M' ⟨rfl, rfl, rfl⟩); (simp only [putL, List.set_cons_succ, List.set_cons_zero]))))); refine Wk.o ?_; (repeat revert hK K); exact h9)) : A := w h9
set_option maxRecDepth 100000 in
set_option maxHeartbeats 4000000 in
theorem sf_fail (tv : IV) (k a f p e : Int) (A0 : Option AObj) (X : AHeap) : SF Tryd.prog 22 [.optr 1 0, lt (.int .i64 p), lt (.int .i64 e)] (A0 :: (some ⟨55, [.iv tv, lt (.int .i64 k), lt (.int .i64 a), lt (.int .i64 f)]⟩) :: X) fun r H' => r = .tup [] ∧ H' = A0 :: (some ⟨55, [.iv tv, lt (.int .i64 k), lt (.int .i64 (if f = 0 then p else a)), lt (.int .i64 (if f = 0 then e else f))]⟩) :: X := by
  have hs1 := trivial; have hs2 := trivial; have hs3 := trivial; have hs4 := trivial; have hs5 := trivial; have hs6 := trivial; have hs7 := trivial; have hs8 := trivial; have hs9 := trivial; have hFl := trivial; have hN := trivial; have hMay := trivial
  by_cases h : f = 0
  · subst h
    rw [if_pos rfl, if_pos rfl]
    (refine SF_of_bodyX (aload tt) (aload_ok tyOK) Tryd.func22 rfl (by kernel_rfl) ?_; simp only [Tryd.ntmps22, List.length_cons, List.length_nil, Nat.reduceAdd, Nat.reduceSub, List.replicate_succ, List.replicate_zero, List.cons_append, List.nil_append])
    (refine Wk.o ?_; (repeat revert hK K); refine W3366a ?_; (repeat intro K hK); refine ⟨?_⟩)
    (simp only [bodyX]; refine ⟨_, by simp only [aresults, aresult, XS.as, Tryd.results22, aload, go_sem, Option.bind_some]; rfl, ?_⟩)
    exact ⟨rfl, by first | trivial | rfl⟩
  · rw [if_neg h, if_neg h]
    have hs1 : (f == 0) = false := by simpa using h
    (refine SF_of_bodyX (aload tt) (aload_ok tyOK) Tryd.func22 rfl (by kernel_rfl) ?_; simp only [Tryd.ntmps22, List.length_cons, List.length_nil, Nat.reduceAdd, Nat.reduceSub, List.replicate_succ, List.replicate_zero, List.cons_append, List.nil_append])
    (refine Wk.o ?_; (repeat revert hK K); refine W3366a ?_; (repeat intro K hK); refine ⟨?_⟩)
    (simp only [bodyX]; refine ⟨_, by simp only [aresults, aresult, XS.as, Tryd.results22, aload, go_sem, Option.bind_some]; rfl, ?_⟩)
    exact ⟨rfl, by first | trivial | rfl⟩
set_option maxRecDepth 100000 in
set_option maxHeartbeats 8000000 in
theorem sx_numBS (T : List Tok3) (k : Nat) (a lo hi : Int) (mv : AV) (A0 A2 A3 : Option AObj) (M : MS) (hT : TokOK T) (hk : k < T.length) (hq : (numR (T.getD k tok0).2.2 lo hi).2 ≠ 0) :
    SX Tryd.prog 41 [.optr 1 0, lt (.int .i64 lo), lt (.int .i64 hi), mv] [A0, some ⟨55, [.iv (.sl (fun j => .lit ((tokL T).getD j undef)) T.length 3), lt (.int .i64 (k : Int)), lt (.int .i64 a), lt (.int .i64 0)]⟩, A2, A3] M fun r H' M' => r = lt (.int .i64 (numR (T.getD k tok0).2.2 lo hi).1) ∧ (∃ Z, H' = [A0, some ⟨55, [.iv (.sl (fun j => .lit ((tokL T).getD j undef)) T.length 3), lt (.int .i64 ((k : Int) + 1)), lt (.int .i64 (T.getD k tok0).2.1), lt (.int .i64 (numR (T.getD k tok0).2.2 lo hi).2)]⟩, A2, A3, Z]) ∧ M' = M := by
  have hs1 := trivial; have hs2 := trivial; have hs3 := trivial; have hs4 := trivial; have hs5 := trivial; have hs6 := trivial; have hs7 := trivial; have hs8 := trivial; have hs9 := trivial; have hFl := trivial; have hN := trivial; have hMay := trivial
  have hlen := hT.len
  have htx := hT.txt k
  obtain ⟨g1, g2, g3⟩ := tokL_atL (T := T) (k := k) hk
  have hs2 := g1
  have hs3 := g2
  have hs4 := g3
  have hs5 : ((k : Int) == (T.length : Int)) = false := beq_eq_false_iff_ne.2 (by omega)
  have hN := pf_Number (T.getD k tok0).2.2 lo hi htx
  generalize (T.getD k tok0).1 = tl at *
  generalize (T.getD k tok0).2.1 = tp at *
  generalize (T.getD k tok0).2.2 = tx at *
  generalize numR tx lo hi = q at *
  obtain ⟨n, e⟩ := q
  dsimp only at *
  have hs6 : (e == 0) = false := by simpa using hq
  have hFl := sf_fail (.sl (fun j => .lit ((tokL T).getD j undef)) T.length 3) ((k : Int) + 1) a 0 tp e A0 [A2, A3, some ⟨58, [lt (.int .i64 tl), lt (.int .i64 tp), lt (.string (ba tx))]⟩]
  rw [if_pos rfl, if_pos rfl] at hFl
  (refine SX_of_bodyL (aload tt) (aload_ok tyOK) Tryd.func41 rfl (by kernel_rfl) ?_; simp only [Tryd.ntmps41, List.length_cons, List.length_nil, Nat.reduceAdd, Nat.reduceSub, List.replicate_succ, List.replicate_zero, List.cons_append, List.nil_append])
  (refine Wk.o ?_; (repeat revert hK K); refine W3366a ?_; (repeat intro K hK); refine ⟨?_⟩)
  refine LeadX.now ?_
  (simp only [bodyXM]; refine ⟨_, by simp only [aresults, aresult, XS.as, Tryd.results41, aload, go_sem, Option.bind_some]; rfl, ?_⟩)
  exact ⟨by first | trivial | rfl, ⟨_, by first | trivial | rfl⟩, by first | trivial | rfl⟩
set_option maxRecDepth 100000 in
set_option maxHeartbeats 8000000 in
theorem sx_numGS (T : List Tok3) (k : Nat) (a lo hi e2 : Int) (g : FuncId) (first caps : List AV) (A0 A2 A3 : Option AObj) (Y : AHeap) (M MY : MS) (hT : TokOK T) (hk : k < T.length) (hq : (numR (T.getD k tok0).2.2 lo hi).2 = 0)
    (hY : Y[2]? = some (some ⟨58, [lt (.int .i64 (T.getD k tok0).1), lt (.int .i64 (T.getD k tok0).2.1), lt (.string (ba (T.getD k tok0).2.2))]⟩)) (hYl : 4 ≤ Y.length + 2)
    (hM0 : SX Tryd.prog g (first ++ [lt (.int .i64 (numR (T.getD k tok0).2.2 lo hi).1)] ++ caps) [A0, some ⟨55, [.iv (.sl (fun j => .lit ((tokL T).getD j undef)) T.length 3), lt (.int .i64 ((k : Int) + 1)), lt (.int .i64 a), lt (.int .i64 0)]⟩, A2, A3, some ⟨58, [lt (.int .i64 (T.getD k tok0).1), lt (.int .i64 (T.getD k tok0).2.1), lt (.string (ba (T.getD k tok0).2.2))]⟩] M fun r H' M' => r = lt (.int .i64 e2) ∧ H' = A0 :: (some ⟨55, [.iv (.sl (fun j => .lit ((tokL T).getD j undef)) T.length 3), lt (.int .i64 ((k : Int) + 1)), lt (.int .i64 a), lt (.int .i64 0)]⟩) :: Y ∧ M' = MY) :
    SX Tryd.prog 41 [.optr 1 0, lt (.int .i64 lo), lt (.int .i64 hi), .fn g first caps] [A0, some ⟨55, [.iv (.sl (fun j => .lit ((tokL T).getD j undef)) T.length 3), lt (.int .i64 (k : Int)), lt (.int .i64 a), lt (.int .i64 0)]⟩, A2, A3] M fun r H' M' => r = lt (.int .i64 (numR (T.getD k tok0).2.2 lo hi).1) ∧ H' = A0 :: (some ⟨55, [.iv (.sl (fun j => .lit ((tokL T).getD j undef)) T.length 3), lt (.int .i64 ((k : Int) + 1)), lt (.int .i64 (T.getD k tok0).2.1), lt (.int .i64 e2)]⟩) :: Y ∧ M' = MY := by
  have hs1 := trivial; have hs2 := trivial; have hs3 := trivial; have hs4 := trivial; have hs5 := trivial; have hs6 := trivial; have hs7 := trivial; have hs8 := trivial; have hs9 := trivial; have hFl := trivial; have hN := trivial; have hMay := trivial
  have hlen := hT.len
  have htx := hT.txt k
  obtain ⟨g1, g2, g3⟩ := tokL_atL (T := T) (k := k) hk
  have hs2 := g1
  have hs3 := g2
  have hs4 := g3
  have hs5 : ((k : Int) == (T.length : Int)) = false := beq_eq_false_iff_ne.2 (by omega)
  have hN := pf_Number (T.getD k tok0).2.2 lo hi htx
  have hMay := hM0
  generalize (T.getD k tok0).1 = tl at *
  generalize (T.getD k tok0).2.1 = tp at *
  generalize (T.getD k tok0).2.2 = tx at *
  generalize numR tx lo hi = q at *
  obtain ⟨n, e⟩ := q
  dsimp only at *
  subst hq
  have hs7 := hY
  have hFl := sf_fail (.sl (fun j => .lit ((tokL T).getD j undef)) T.length 3) ((k : Int) + 1) a 0 tp e2 A0 Y
  rw [if_pos rfl, if_pos rfl] at hFl
  (refine SX_of_bodyL (aload tt) (aload_ok tyOK) Tryd.func41 rfl (by kernel_rfl) ?_; simp only [Tryd.ntmps41, List.length_cons, List.length_nil, Nat.reduceAdd, Nat.reduceSub, List.replicate_succ, List.replicate_zero, List.cons_append, List.nil_append])
  (refine Wk.o ?_; (repeat revert hK K); refine W3366a ?_; (repeat intro K hK); refine ⟨?_⟩)
  refine LeadX.now ?_
  (simp only [bodyXM]; refine ⟨_, by simp only [aresults, aresult, XS.as, Tryd.results41, aload, go_sem, Option.bind_some]; rfl, ?_⟩)
  exact ⟨by first | trivial | rfl, by first | trivial | rfl, by first | trivial | rfl⟩
set_option maxRecDepth 100000 in
set_option maxHeartbeats 8000000 in
theorem sx_num0L (tv : IV) (k a f lo hi : Int) (mv : AV) (A0 A2 A3 A4 A5 A6 A7 : Option AObj) (M : MS) (hf : f ≠ 0) :
    SX Tryd.prog 41 [.optr 1 0, lt (.int .i64 lo), lt (.int .i64 hi), mv] [A0, some ⟨55, [.iv tv, lt (.int .i64 k), lt (.int .i64 a), lt (.int .i64 f)]⟩, A2, A3, A4, A5, A6, A7] M fun r H' M' => r = lt (.int .i64 0) ∧ H' = [A0, some ⟨55, [.iv tv, lt (.int .i64 k), lt (.int .i64 a), lt (.int .i64 f)]⟩, A2, A3, A4, A5, A6, A7] ∧ M' = M := by
  have hs1 := trivial; have hs2 := trivial; have hs3 := trivial; have hs4 := trivial; have hs5 := trivial; have hs6 := trivial; have hs7 := trivial; have hs8 := trivial; have hs9 := trivial; have hFl := trivial; have hN := trivial; have hMay := trivial
  have hs1 : (f != 0) = true := by simpa using hf
  (refine SX_of_bodyL (aload tt) (aload_ok tyOK) Tryd.func41 rfl (by kernel_rfl) ?_; simp only [Tryd.ntmps41, List.length_cons, List.length_nil, Nat.reduceAdd, Nat.reduceSub, List.replicate_succ, List.replicate_zero, List.cons_append, List.nil_append])
  (refine Wk.o ?_; (repeat revert hK K); refine W3366a ?_; (repeat intro K hK); refine ⟨?_⟩)
  refine LeadX.now ?_
  (simp only [bodyXM]; refine ⟨_, by simp only [aresults, aresult, XS.as, Tryd.results41, aload, go_sem, Option.bind_some]; rfl, ?_⟩)
  exact ⟨by first | trivial | rfl, by first | trivial | rfl, by first | trivial | rfl⟩
set_option maxRecDepth 100000 in
set_option maxHeartbeats 8000000 in
theorem sx_numEL (T : List Tok3) (a lo hi : Int) (mv : AV) (A0 A2 A3 A4 A5 A6 A7 : Option AObj) (M : MS) (hT : TokOK T) (h0 : T.length ≠ 0) :
    SX Tryd.prog 41 [.optr 1 0, lt (.int .i64 lo), lt (.int .i64 hi), mv] [A0, some ⟨55, [.iv (.sl (fun j => .lit ((tokL T).getD j undef)) T.length 3), lt (.int .i64 (T.length : Int)), lt (.int .i64 a), lt (.int .i64 0)]⟩, A2, A3, A4, A5, A6, A7] M fun r H' M' => r = lt (.int .i64 0) ∧ (∃ Z, H' = [A0, some ⟨55, [.iv (.sl (fun j => .lit ((tokL T).getD j undef)) T.length 3), lt (.int .i64 (T.length : Int)), lt (.int .i64 (lastEnd T)), lt (.int .i64 4)]⟩, A2, A3, A4, A5, A6, A7, Z]) ∧ M' = M := by
  have hs1 := trivial; have hs2 := trivial; have hs3 := trivial; have hs4 := trivial; have hs5 := trivial; have hs6 := trivial; have hs7 := trivial; have hs8 := trivial; have hs9 := trivial; have hFl := trivial; have hN := trivial; have hMay := trivial
  have hlen := hT.len
  obtain ⟨g1, g2, g3⟩ := tokL_atL (T := T) (k := T.length - 1) (by omega)
  have hpl := hT.pos (T.length - 1)
  have htl := hT.txt (T.length - 1)
  have hs1 : ((T.length : Int) - 1).toNat = T.length - 1 := by omega
  have hs2 := g1
  have hs3 := g2
  have hs4 := g3
  unfold lastEnd
  generalize (T.getD (T.length - 1) tok0).1 = tl at *
  generalize (T.getD (T.length - 1) tok0).2.1 = tp at *
  generalize (T.getD (T.length - 1) tok0).2.2 = tx at *
  generalize hk : (T.length : Int) = kk at *
  have hFl := sf_fail (.sl (fun j => .lit ((tokL T).getD j undef)) T.length 3) kk a 0 (tp + (tx.length : Int)) 4 A0 [A2, A3, A4, A5, A6, A7, some ⟨58, [lt (.int .i64 tl), lt (.int .i64 tp), lt (.string (ba tx))]⟩]
  rw [if_pos rfl, if_pos rfl] at hFl
  (refine SX_of_bodyL (aload tt) (aload_ok tyOK) Tryd.func41 rfl (by kernel_rfl) ?_; simp only [Tryd.ntmps41, List.length_cons, List.length_nil, Nat.reduceAdd, Nat.reduceSub, List.replicate_succ, List.replicate_zero, List.cons_append, List.nil_append])
  (refine Wk.o ?_; (repeat revert hK K); refine W3366a ?_; (repeat intro K hK); refine ⟨?_⟩)
  refine LeadX.now ?_
  (simp only [bodyXM]; refine ⟨_, by simp only [aresults, aresult, XS.as, Tryd.results41, aload, go_sem, Option.bind_some]; rfl, ?_⟩)
  exact ⟨by first | trivial | rfl, ⟨_, by first | trivial | rfl⟩, by first | trivial | rfl⟩
set_option maxRecDepth 100000 in
set_option maxHeartbeats 8000000 in
theorem sx_numBL (T : List Tok3) (k : Nat) (a lo hi : Int) (mv : AV) (A0 A2 A3 A4 A5 A6 A7 : Option AObj) (M : MS) (hT : TokOK T) (hk : k < T.length) (hq : (numR (T.getD k tok0).2.2 lo hi).2 ≠ 0) :
    SX Tryd.prog 41 [.optr 1 0, lt (.int .i64 lo), lt (.int .i64 hi), mv] [A0, some ⟨55, [.iv (.sl (fun j => .lit ((tokL T).getD j undef)) T.length 3), lt (.int .i64 (k : Int)), lt (.int .i64 a), lt (.int .i64 0)]⟩, A2, A3, A4, A5, A6, A7] M fun r H' M' => r = lt (.int .i64 (numR (T.getD k tok0).2.2 lo hi).1) ∧ (∃ Z, H' = [A0, some ⟨55, [.iv (.sl (fun j => .lit ((tokL T).getD j undef)) T.length 3), lt (.int .i64 ((k : Int) + 1)), lt (.int .i64 (T.getD k tok0).2.1), lt (.int .i64 (numR (T.getD k tok0).2.2 lo hi).2)]⟩, A2, A3, A4, A5, A6, A7, Z]) ∧ M' = M := by
  have hs1 := trivial; have hs2 := trivial; have hs3 := trivial; have hs4 := trivial; have hs5 := trivial; have hs6 := trivial; have hs7 := trivial; have hs8 := trivial; have hs9 := trivial; have hFl := trivial; have hN := trivial; have hMay := trivial
  have hlen := hT.len
  have htx := hT.txt k
  obtain ⟨g1, g2, g3⟩ := tokL_atL (T := T) (k := k) hk
  have hs2 := g1
  have hs3 := g2
  have hs4 := g3
  have hs5 : ((k : Int) == (T.length : Int)) = false := beq_eq_false_iff_ne.2 (by omega)
  have hN := pf_Number (T.getD k tok0).2.2 lo hi htx
  generalize (T.getD k tok0).1 = tl at *
  generalize (T.getD k tok0).2.1 = tp at *
  generalize (T.getD k tok0).2.2 = tx at *
  generalize numR tx lo hi = q at *
  obtain ⟨n, e⟩ := q
  dsimp only at *
  have hs6 : (e == 0) = false := by simpa using hq
  have hFl := sf_fail (.sl (fun j => .lit ((tokL T).getD j undef)) T.length 3) ((k : Int) + 1) a 0 tp e A0 [A2, A3, A4, A5, A6, A7, some ⟨58, [lt (.int .i64 tl), lt (.int .i64 tp), lt (.string (ba tx))]⟩]
  rw [if_pos rfl, if_pos rfl] at hFl
  (refine SX_of_bodyL (aload tt) (aload_ok tyOK) Tryd.func41 rfl (by kernel_rfl) ?_; simp only [Tryd.ntmps41, List.length_cons, List.length_nil, Nat.reduceAdd, Nat.reduceSub, List.replicate_succ, List.replicate_zero, List.cons_append, List.nil_append])
  (refine Wk.o ?_; (repeat revert hK K); refine W3366a ?_; (repeat intro K hK); refine ⟨?_⟩)
  refine LeadX.now ?_
  (simp only [bodyXM]; refine ⟨_, by simp only [aresults, aresult, XS.as, Tryd.results41, aload, go_sem, Option.bind_some]; rfl, ?_⟩)
  exact ⟨by first | trivial | rfl, ⟨_, by first | trivial | rfl⟩, by first | trivial | rfl⟩
set_option maxRecDepth 100000 in
set_option maxHeartbeats 8000000 in
theorem sx_numGL (T : List Tok3) (k : Nat) (a lo hi e2 : Int) (g : FuncId) (first caps : List AV) (A0 A2 A3 A4 A5 A6 A7 : Option AObj) (Y : AHeap) (M MY : MS) (hT : TokOK T) (hk : k < T.length) (hq : (numR (T.getD k tok0).2.2 lo hi).2 = 0)
    (hY : Y[6]? = some (some ⟨58, [lt (.int .i64 (T.getD k tok0).1), lt (.int .i64 (T.getD k tok0).2.1), lt (.string (ba (T.getD k tok0).2.2))]⟩)) (hYl : 8 ≤ Y.length + 2)
    (hM0 : SX Tryd.prog g (first ++ [lt (.int .i64 (numR (T.getD k tok0).2.2 lo hi).1)] ++ caps) [A0, some ⟨55, [.iv (.sl (fun j => .lit ((tokL T).getD j undef)) T.length 3), lt (.int .i64 ((k : Int) + 1)), lt (.int .i64 a), lt (.int .i64 0)]⟩, A2, A3, A4, A5, A6, A7, some ⟨58, [lt (.int .i64 (T.getD k tok0).1), lt (.int .i64 (T.getD k tok0).2.1), lt (.string (ba (T.getD k tok0).2.2))]⟩] M fun r H' M' => r = lt (.int .i64 e2) ∧ H' = A0 :: (some ⟨55, [.iv (.sl (fun j => .lit ((tokL T).getD j undef)) T.length 3), lt (.int .i64 ((k : Int) + 1)), lt (.int .i64 a), lt (.int .i64 0)]⟩) :: Y ∧ M' = MY) :
    SX Tryd.prog 41 [.optr 1 0, lt (.int .i64 lo), lt (.int .i64 hi), .fn g first caps] [A0, some ⟨55, [.iv (.sl (fun j => .lit ((tokL T).getD j undef)) T.length 3), lt (.int .i64 (k : Int)), lt (.int .i64 a), lt (.int .i64 0)]⟩, A2, A3, A4, A5, A6, A7] M fun r H' M' => r = lt (.int .i64 (numR (T.getD k tok0).2.2 lo hi).1) ∧ H' = A0 :: (some ⟨55, [.iv (.sl (fun j => .lit ((tokL T).getD j undef)) T.length 3), lt (.int .i64 ((k : Int) + 1)), lt (.int .i64 (T.getD k tok0).2.1), lt (.int .i64 e2)]⟩) :: Y ∧ M' = MY := by
  have hs1 := trivial; have hs2 := trivial; have hs3 := trivial; have hs4 := trivial; have hs5 := trivial; have hs6 := trivial; have hs7 := trivial; have hs8 := trivial; have hs9 := trivial; have hFl := trivial; have hN := trivial; have hMay := trivial
  have hlen := hT.len
  have htx := hT.txt k
  obtain ⟨g1, g2, g3⟩ := tokL_atL (T := T) (k := k) hk
  have hs2 := g1
  have hs3 := g2
  have hs4 := g3
  have hs5 : ((k : Int) == (T.length : Int)) = false := beq_eq_false_iff_ne.2 (by omega)
  have hN := pf_Number (T.getD k tok0).2.2 lo hi htx
  have hMay := hM0
  generalize (T.getD k tok0).1 = tl at *
  generalize (T.getD k tok0).2.1 = tp at *
  generalize (T.getD k tok0).2.2 = tx at *
  generalize numR tx lo hi = q at *
  obtain ⟨n, e⟩ := q
  dsimp only at *
  subst hq
  have hs7 := hY
  have hFl := sf_fail (.sl (fun j => .lit ((tokL T).getD j undef)) T.length 3) ((k : Int) + 1) a 0 tp e2 A0 Y
  rw [if_pos rfl, if_pos rfl] at hFl
  (refine SX_of_bodyL (aload tt) (aload_ok tyOK) Tryd.func41 rfl (by kernel_rfl) ?_; simp only [Tryd.ntmps41, List.length_cons, List.length_nil, Nat.reduceAdd, Nat.reduceSub, List.replicate_succ, List.replicate_zero, List.cons_append, List.nil_append])
  (refine Wk.o ?_; (repeat revert hK K); refine W3366a ?_; (repeat intro K hK); refine ⟨?_⟩)
  refine LeadX.now ?_
  (simp only [bodyXM]; refine ⟨_, by simp only [aresults, aresult, XS.as, Tryd.results41, aload, go_sem, Option.bind_some]; rfl, ?_⟩)
  exact ⟨by first | trivial | rfl, by first | trivial | rfl, by first | trivial | rfl⟩
end Go.Proofs.YtghdacijcnmhlaaDoor
namespace Go.Proofs.YtghdacijcnmhlaaDoor
open Go.RowKit Go.Lib
set_option linter.unusedVariables false
set_option linter.unusedSimpArgs false
def rowE (once : Bool) (acc : List Int) (n : Int) : Int := if n = 0 then 0 else if acc.length = 1000 then 3 else if once = true ∧ n ∈ acc then 21 else 0
def memP (c : List Int) : Int → Bool := fun x => decide (x ∈ c)
theorem memP_add (c : List Int) (x : Int) : addF (memP c) x = memP (c ++ [x]) := by
  funext y; unfold addF memP
  by_cases h : y = x
  · rw [if_pos h]; simp [h]
  · rw [if_neg h]; simp [h]
def mF (once : Bool) (acc : List Int) : Int → Bool := memP (if once = true then acc else [])
theorem mF_t (acc : List Int) : mF true acc = memP acc := rfl
theorem Wb656a {A B : Prop} (h9 : B) (w : B → A := by (intro h9; (repeat intro K hK); refine ⟨?_⟩; (repeat (first | (first | (with_reducible first | refine AX_block ?_ | refine AX_skip ?_ | refine AX_exit ?_ | refine AX_ret ?_ | refine AX_ift ?_ | refine AX_iff ?_ | refine AX_seq_k (fun K hK => ?_) | refine ContX.use (by assumption) ?_) | simp only [thenX, inBlockX, if_true, if_false, reduceCtorEq]) | (first | ((first | (with_reducible refine XRes_op tyOK ?_ ?_) | ((with_reducible first | refine ADF_op tyOK ?_ ?_ ?_ | refine ADX_op tyOK ?_ ?_ ?_); (focus rfl)) | (with_reducible refine ADR_alloc1 tyOK ?_ ?_) | ((with_reducible refine ADR_free1 tyOK ?_ ?_ ?_); (focus rfl)) | ((with_reducible refine ADR_free0 tyOK ?_ ?_ ?_); (focus rfl)) | ((with_reducible refine ADR_read1 tyOK ?_ ?_ ?_); (focus rfl)) | (with_reducible refine ADR_chg1 tyOK ?_ ?_)); (focus (first | (with_reducible rfl) | ((simp (disch := omega) only [go_sem]); done))); simp (disch := omega) only [go_sem , hs1, hs2, hs3, hs4, hs5, Int.toNat_natCast, Nat.reduceEqDiff, List.length_map]; (first | (with_reducible refine XRes_id ?_) | (with_reducible refine ADF_id ?_) | (with_reducible refine ADR_id1 ?_) | (with_reducible refine ADX_id ?_))) | ((first | (with_reducible refine XRes_skip ?_ ?_) | (with_reducible refine ADF_skip (b := true) ?_ ?_) | (with_reducible refine ADX_skip ?_ ?_) | ((with_reducible refine ADR_skip1 ?_ ?_ ?_); (focus rfl))); (focus (first | rfl | ((simp (disch := omega) only [go_sem]); done))); (simp only [putL, List.set_cons_succ, List.set_cons_zero]))) | ((first | (with_reducible refine XRes_nil ?_) | (with_reducible refine ADF_nil ?_) | (with_reducible refine ADR_nil ?_) | (with_reducible refine ADX_nil ?_)); (first | refine hK _ ?_ | refine hK _ _ ?_); clear hK K) | ((first | (with_reducible refine AX_reg0 fun K hK => ?_) | (refine AX_drawG1 tyOK (by kernel_rfl) (by rfl) (by kernel_rfl) fun K hK => ?_) | (refine AX_drawT tyOK (by kernel_rfl) (by decide +kernel) fun K hK => ?_) | (refine AX_drawM1 (by kernel_rfl) (by rfl) (by decide +kernel) fun K hK => ?_) | (refine AX_drawA tyOK (by kernel_rfl) (by decide +kernel) fun K hK => ?_)); (first | simp only [go_sem, preN, effOp, runF, alM, mapOp, alD2, kdOf2, Bool.not_false, Bool.not_true, reduceCtorEq] | simp only [go_sem, preN, effOp, runF, alM, mapOp, Bool.not_false, Bool.not_true, reduceCtorEq] | simp only [go_sem, preN, effOp, runF, alD2, kdOf2, Bool.not_false, Bool.not_true, reduceCtorEq] | simp only [go_sem, alD2, kdOf2, Bool.not_false, Bool.not_true, reduceCtorEq] | simp only [go_sem, preN, effOp, runF, Bool.not_false, Bool.not_true, reduceCtorEq] | simp only [go_sem])) | (first | ((refine XRes_mlook (i := 0) rfl Tryd.underlying104 unit_zero unit_plain rfl rfl rfl hnb ?_); simp only [putL, List.set_cons_succ, List.set_cons_zero, mSet_upd, mSet_get, mSet_is, List.nil_append, List.cons_append]) | ((refine XRes_mputA (us := []) (i := 0) rfl Tryd.underlying104 rfl rfl rfl hnb rfl unit_plain hcb ?_); simp only [putL, List.set_cons_succ, List.set_cons_zero, mSet_upd, mSet_get, mSet_is, List.nil_append, List.cons_append])))); refine Wk.o ?_; (repeat revert hK K); exact h9)) : A := w h9
set_option maxRecDepth 100000 in
set_option maxHeartbeats 4000000 in
theorem sx_mayS (n : Int) (once : Bool) (acc : List Int) (b cnt : Nat) (A0 A1 A2 A3 A8 : Option AObj) (hnb : -9223372036854775808 ≤ n ∧ n ≤ 9223372036854775807) (hl : acc.length ≤ 1000) (h : n = 0 ∨ acc.length = 1000 ∨ (once = true ∧ n ∈ acc)) :
    SX Tryd.prog 61 [lt (.int .i64 n), .optr 6 0, .optr 5 0, .optr 4 0] [A0, A1, A2, A3, some ⟨4, [lt (.bool once)]⟩, some ⟨31, [.osl 7 0 acc.length 1]⟩, some ⟨104, [lt (.map (some b))]⟩, some ⟨3, acc.map lint⟩, A8] [(b, cnt, mSet (mF once acc))] fun r H' M' => r = lt (.int .i64 (rowE once acc n)) ∧ H' = [A0, A1, A2, A3, some ⟨4, [lt (.bool once)]⟩, some ⟨31, [.osl 7 0 acc.length 1]⟩, some ⟨104, [lt (.map (some b))]⟩, some ⟨3, acc.map lint⟩, A8, some ⟨105, []⟩] ∧ M' = [(b, cnt, mSet (mF once acc))] := by
  have hs1 := trivial; have hs2 := trivial; have hs3 := trivial; have hs4 := trivial; have hs5 := trivial; have hcb := trivial
  unfold rowE
  by_cases h0 : n = 0
  · subst h0
    rw [if_pos rfl]
    (refine SX_of_bodyL (aload tt) (aload_ok tyOK) Tryd.func61 rfl (by kernel_rfl) ?_; simp only [Tryd.ntmps61, List.length_cons, List.length_nil, Nat.reduceAdd, Nat.reduceSub, List.replicate_succ, List.replicate_zero, List.cons_append, List.nil_append])
    (refine Wk.o ?_; (repeat revert hK K); refine Wb656a ?_; (repeat intro K hK); refine ⟨?_⟩)
    refine LeadX.now ?_
    (simp only [bodyXM]; refine ⟨_, by simp only [aresults, aresult, XS.as, Tryd.results61, aload, go_sem, Option.bind_some]; rfl, ?_⟩)
    exact ⟨by first | trivial | rfl, by first | trivial | rfl, by first | trivial | rfl⟩
  · rw [if_neg h0]
    have hs1 : (n == 0) = false := by simpa using h0
    by_cases h1 : acc.length = 1000
    · rw [if_pos h1]
      have hs2 : ((acc.length : Int) == 1000) = true := by rw [beq_iff_eq]; omega
      (refine SX_of_bodyL (aload tt) (aload_ok tyOK) Tryd.func61 rfl (by kernel_rfl) ?_; simp only [Tryd.ntmps61, List.length_cons, List.length_nil, Nat.reduceAdd, Nat.reduceSub, List.replicate_succ, List.replicate_zero, List.cons_append, List.nil_append])
      (refine Wk.o ?_; (repeat revert hK K); refine Wb656a ?_; (repeat intro K hK); refine ⟨?_⟩)
      refine LeadX.now ?_
      (simp only [bodyXM]; refine ⟨_, by simp only [aresults, aresult, XS.as, Tryd.results61, aload, go_sem, Option.bind_some]; rfl, ?_⟩)
      exact ⟨by first | trivial | rfl, by first | trivial | rfl, by first | trivial | rfl⟩
    · rw [if_neg h1]
      have hs2 : ((acc.length : Int) == 1000) = false := by simp; omega
      obtain ⟨h2, h3⟩ := (h.resolve_left h0).resolve_left h1
      subst h2
      rw [if_pos ⟨rfl, h3⟩]
      have hs3 : mF true acc n = true := decide_eq_true h3
      (refine SX_of_bodyL (aload tt) (aload_ok tyOK) Tryd.func61 rfl (by kernel_rfl) ?_; simp only [Tryd.ntmps61, List.length_cons, List.length_nil, Nat.reduceAdd, Nat.reduceSub, List.replicate_succ, List.replicate_zero, List.cons_append, List.nil_append])
      (refine Wk.o ?_; (repeat revert hK K); refine Wb656a ?_; (repeat intro K hK); refine ⟨?_⟩)
      refine LeadX.now ?_
      (simp only [bodyXM]; refine ⟨_, by simp only [aresults, aresult, XS.as, Tryd.results61, aload, go_sem, Option.bind_some]; rfl, ?_⟩)
      exact ⟨by first | trivial | rfl, by first | trivial | rfl, by first | trivial | rfl⟩
set_option maxRecDepth 100000 in
set_option maxHeartbeats 4000000 in
theorem sx_mayO (n : Int) (acc : List Int) (b cnt : Nat) (A0 A1 A2 A3 A8 : Option AObj) (hnb : -9223372036854775808 ≤ n ∧ n ≤ 9223372036854775807) (hl : acc.length < 1000) (hcnt : cnt ≤ 1000) (h0 : n ≠ 0) (h1 : n ∉ acc) :
    SX Tryd.prog 61 [lt (.int .i64 n), .optr 6 0, .optr 5 0, .optr 4 0] [A0, A1, A2, A3, some ⟨4, [lt (.bool true)]⟩, some ⟨31, [.osl 7 0 acc.length 1]⟩, some ⟨104, [lt (.map (some b))]⟩, some ⟨3, acc.map lint⟩, A8] [(b, cnt, mSet (mF true acc))] fun r H' M' => r = lt (.int .i64 0) ∧ H' = [A0, A1, A2, A3, some ⟨4, [lt (.bool true)]⟩, some ⟨31, [.osl 11 0 (acc.length + 1) 1]⟩, some ⟨104, [lt (.map (some b))]⟩, none, A8, some ⟨105, []⟩, some ⟨3, [lt (.int .i64 n)]⟩, some ⟨3, (acc ++ [n]).map lint⟩] ∧ M' = [(b, cnt + 1, mSet (mF true (acc ++ [n])))] := by
  have hs1 := trivial; have hs2 := trivial; have hs3 := trivial; have hs4 := trivial; have hs5 := trivial; have hcb := trivial
  have hcb : cnt < maxLen := by unfold maxLen; omega
  have hs1 : (n == 0) = false := by simpa using h0
  have hs2 : ((acc.length : Int) == 1000) = false := by simp; omega
  have hs3 : mF true acc n = false := decide_eq_false h1
  have hm : mF true (acc ++ [n]) = addF (mF true acc) n := by rw [mF_t, mF_t, memP_add]
  rw [hm]
  (refine SX_of_bodyL (aload tt) (aload_ok tyOK) Tryd.func61 rfl (by kernel_rfl) ?_; simp only [Tryd.ntmps61, List.length_cons, List.length_nil, Nat.reduceAdd, Nat.reduceSub, List.replicate_succ, List.replicate_zero, List.cons_append, List.nil_append])
  (refine Wk.o ?_; (repeat revert hK K); refine Wb656a ?_; (repeat intro K hK); refine ⟨?_⟩)
  refine LeadX.now ?_
  (simp only [bodyXM]; refine ⟨_, by simp only [aresults, aresult, XS.as, Tryd.results61, aload, go_sem, Option.bind_some]; rfl, ?_⟩)
  exact ⟨by first | trivial | rfl, by first | trivial | rfl, by first | trivial | rfl⟩
set_option maxRecDepth 100000 in
set_option maxHeartbeats 4000000 in
theorem sx_mayN (n : Int) (acc : List Int) (b cnt : Nat) (A0 A1 A2 A3 A8 : Option AObj) (hnb : -9223372036854775808 ≤ n ∧ n ≤ 9223372036854775807) (hl : acc.length < 1000) (h0 : n ≠ 0) :
    SX Tryd.prog 61 [lt (.int .i64 n), .optr 6 0, .optr 5 0, .optr 4 0] [A0, A1, A2, A3, some ⟨4, [lt (.bool false)]⟩, some ⟨31, [.osl 7 0 acc.length 1]⟩, some ⟨104, [lt (.map (some b))]⟩, some ⟨3, acc.map lint⟩, A8] [(b, cnt, mSet (mF false acc))] fun r H' M' => r = lt (.int .i64 0) ∧ H' = [A0, A1, A2, A3, some ⟨4, [lt (.bool false)]⟩, some ⟨31, [.osl 11 0 (acc.length + 1) 1]⟩, some ⟨104, [lt (.map (some b))]⟩, none, A8, some ⟨105, []⟩, some ⟨3, [lt (.int .i64 n)]⟩, some ⟨3, (acc ++ [n]).map lint⟩] ∧ M' = [(b, cnt, mSet (mF false (acc ++ [n])))] := by
  have hs1 := trivial; have hs2 := trivial; have hs3 := trivial; have hs4 := trivial; have hs5 := trivial; have hcb := trivial
  have hs1 : (n == 0) = false := by simpa using h0
  have hs2 : ((acc.length : Int) == 1000) = false := by simp; omega
  have hm : mF false (acc ++ [n]) = mF false acc := rfl
  rw [hm]
  (refine SX_of_bodyL (aload tt) (aload_ok tyOK) Tryd.func61 rfl (by kernel_rfl) ?_; simp only [Tryd.ntmps61, List.length_cons, List.length_nil, Nat.reduceAdd, Nat.reduceSub, List.replicate_succ, List.replicate_zero, List.cons_append, List.nil_append])
  (refine Wk.o ?_; (repeat revert hK K); refine Wb656a ?_; (repeat intro K hK); refine ⟨?_⟩)
  refine LeadX.now ?_
  (simp only [bodyXM]; refine ⟨_, by simp only [aresults, aresult, XS.as, Tryd.results61, aload, go_sem, Option.bind_some]; rfl, ?_⟩)
  exact ⟨by first | trivial | rfl, by first | trivial | rfl, by first | trivial | rfl⟩
end Go.Proofs.YtghdacijcnmhlaaDoor
namespace Go.Proofs.YtghdacijcnmhlaaDoor
open Go.RowKit Go.Lib
set_option linter.unusedVariables false
set_option linter.unusedSimpArgs false
theorem lead_frz10 {m : Nat} {S : XS → Prop} {fr : List AV} {H : AHeap} {M : MS} (ds : List Nat) (ups : List (Nat × AV)) (hu : ∀ p ∈ ups, FrzV (onlyH ds H) (fr.getD p.1 uD) p.2) (h : LeadX m ⟨updS fr ups, setN ds H, M⟩ S) : LeadX m ⟨fr, H, M⟩ S :=
  LeadX.trans (S := fun s1 => s1 = ⟨updS fr ups, setN ds H, M⟩) (.of (.freeze ds ups hu rfl)) fun s' e => by rw [e]; exact h
theorem nrow_at {lo hi : Int} {once : Bool} {le : Int} {T : List Tok3} {k : Nat} {acc : List Int} (hk : k < T.length) : nrow lo hi once le (T.drop k) k acc =
    if (numR (T.getD k tok0).2.2 lo hi).2 ≠ 0 then ([], k, (T.getD k tok0).2.1, (numR (T.getD k tok0).2.2 lo hi).2) else
    if (numR (T.getD k tok0).2.2 lo hi).1 = 0 then (acc, k + 1, 0, 0) else
    if acc.length = 1000 then ([], k, (T.getD k tok0).2.1, 3) else
    if once = true ∧ (numR (T.getD k tok0).2.2 lo hi).1 ∈ acc then ([], k, (T.getD k tok0).2.1, 21) else
    nrow lo hi once le (T.drop (k + 1)) (k + 1) (acc ++ [(numR (T.getD k tok0).2.2 lo hi).1]) := by
  have e : T.drop k = T.getD k tok0 :: T.drop (k + 1) := by
    rw [List.drop_eq_getElem_cons hk, List.getD_eq_getElem?_getD, List.getElem?_eq_getElem hk]; rfl
  rw [e, nrow]
theorem numR_b {l : List UInt8} {lo hi : Int} (hlo : -10000000 ≤ lo ∧ lo ≤ 0) (hhi : 0 ≤ hi ∧ hi ≤ 10000000) : -10000000 ≤ (numR l lo hi).1 ∧ (numR l lo hi).1 ≤ 10000000 := by
  unfold numR
  split
  · exact ⟨by decide, by decide⟩
  · split
    · rename_i h; exact ⟨by have := h.2.2.1; show _ ≤ numV l; omega, by have := h.2.2.2; show numV l ≤ _; omega⟩
    · exact ⟨by decide, by decide⟩
def LowO (A : Option AObj) : Prop := ∀ m sel, (∀ H, okH (named m sel) (A :: H) = okH (named m sel) H) ∧ A.map (AObj.rn (newNo m sel)) = A
theorem LowO.ok {A : Option AObj} (h : LowO A) {m : Nat} {sel : List Nat} {H : AHeap} : okH (named m sel) (A :: H) = okH (named m sel) H := (h m sel).1 H
theorem LowO.rn {A : Option AObj} (h : LowO A) {m : Nat} {sel : List Nat} : A.map (AObj.rn (newNo m sel)) = A := (h m sel).2
set_option maxRecDepth 100000 in
set_option maxHeartbeats 8000000 in
theorem sx_numbers (T : List Tok3) (k0 : Nat) (a0 lo hi : Int) (once : Bool) (A0 A2 A3 : Option AObj) (hL0 : LowO A0) (hL2 : LowO A2) (hL3 : LowO A3) (hT : TokOK T) (h0 : T.length ≠ 0) (hk0 : k0 ≤ T.length) (hlo : -10000000 ≤ lo ∧ lo ≤ 0) (hhi : 0 ≤ hi ∧ hi ≤ 10000000) :
    SX Tryd.prog 43 [.optr 1 0, lt (.int .i64 lo), lt (.int .i64 hi), lt (.bool once)] [A0, some ⟨55, [.iv (.sl (fun j => .lit ((tokL T).getD j undef)) T.length 3), lt (.int .i64 (k0 : Int)), lt (.int .i64 a0), lt (.int .i64 0)]⟩, A2, A3] [] fun r H' M' => ∃ (c : List Int) (k : Nat) (a f : Int), r = .iv (iInts c) ∧ H' = [A0, some ⟨55, [.iv (.sl (fun j => .lit ((tokL T).getD j undef)) T.length 3), lt (.int .i64 (k : Int)), lt (.int .i64 a), lt (.int .i64 f)]⟩, A2, A3] ∧ f = (nrow lo hi once (lastEnd T) (T.drop k0) k0 []).2.2.2 ∧ (f = 0 → c = (nrow lo hi once (lastEnd T) (T.drop k0) k0 []).1 ∧ k = (nrow lo hi once (lastEnd T) (T.drop k0) k0 []).2.1) ∧ (f ≠ 0 → a = (nrow lo hi once (lastEnd T) (T.drop k0) k0 []).2.2.1) := by
  have hs1 := trivial; have hs2 := trivial; have hs3 := trivial; have hs4 := trivial; have hA := trivial
  have hlen := hT.len
  (refine SX_of_bodyL (aload tt) (aload_ok tyOK) Tryd.func43 rfl (by kernel_rfl) ?_; simp only [Tryd.ntmps43, List.length_cons, List.length_nil, Nat.reduceAdd, Nat.reduceSub, List.replicate_succ, List.replicate_zero, List.cons_append, List.nil_append])
  repeat (first | (first | (with_reducible first | refine AX_block ?_ | refine AX_skip ?_ | refine AX_exit ?_ | refine AX_ret ?_ | refine AX_ift ?_ | refine AX_iff ?_ | refine AX_seq_k (fun K hK => ?_) | refine ContX.use (by assumption) ?_) | simp only [thenX, inBlockX, if_true, if_false, reduceCtorEq]) | (first | ((first | (with_reducible refine XRes_op tyOK ?_ ?_) | ((with_reducible first | refine ADF_op tyOK ?_ ?_ ?_ | refine ADX_op tyOK ?_ ?_ ?_); (focus rfl)) | (with_reducible refine ADR_alloc1 tyOK ?_ ?_) | ((with_reducible refine ADR_free1 tyOK ?_ ?_ ?_); (focus rfl)) | ((with_reducible refine ADR_free0 tyOK ?_ ?_ ?_); (focus rfl)) | ((with_reducible refine ADR_read1 tyOK ?_ ?_ ?_); (focus rfl)) | (with_reducible refine ADR_chg1 tyOK ?_ ?_)); (focus (first | (with_reducible rfl) | ((simp (disch := omega) only [go_sem]); done))); simp (disch := omega) only [go_sem , hs1, hs2, hs3, hs4, Int.toNat_natCast, Nat.reduceEqDiff, List.length_map, List.length_cons, List.length_nil]; (first | (with_reducible refine XRes_id ?_) | (with_reducible refine ADF_id ?_) | (with_reducible refine ADR_id1 ?_) | (with_reducible refine ADX_id ?_))) | ((first | (with_reducible refine XRes_skip ?_ ?_) | (with_reducible refine ADF_skip (b := true) ?_ ?_) | (with_reducible refine ADX_skip ?_ ?_) | ((with_reducible refine ADR_skip1 ?_ ?_ ?_); (focus rfl))); (focus (first | rfl | ((simp (disch := omega) only [go_sem]); done))); (simp only [putL, List.set_cons_succ, List.set_cons_zero]))) | ((first | (with_reducible refine XRes_nil ?_) | (with_reducible refine ADF_nil ?_) | (with_reducible refine ADR_nil ?_) | (with_reducible refine ADX_nil ?_)); (first | refine hK _ ?_ | refine hK _ _ ?_); clear hK K) | ((with_reducible refine AX_reg0 fun K hK => ?_); simp only [go_sem]) | ((refine XRes_makeMap rfl (fun b => ?_)); simp only [putL, List.set_cons_succ, List.set_cons_zero, mSet_upd, mSet_get, mSet_is, List.nil_append, List.cons_append]))
  refine AX_cellNew 5 3 1 0 ⟨31, [lt (.slice none 0 0)]⟩ rfl rfl ?_
  simp only [List.length_cons, List.length_nil, List.cons_append, List.nil_append, Nat.zero_add, Nat.reduceAdd, List.set_cons_succ, List.set_cons_zero]
  have hm0 : mF once [] = fun _ => false := by funext x; unfold mF memP; cases once <;> simp
  rw [mSet_nil, ← hm0]
  have hinit : ([] : List Int).map lint = [] := rfl
  generalize hQ : nrow lo hi once (lastEnd T) (T.drop k0) k0 [] = Q at *
  (refine AX_wh (σ := Nat × Int × List Int × Nat) [14, 15, 16, 17, 18, 19, 20, 21, 22, 23, 24, 25, 26] (fun (k, a, acc, cnt) => []) (fun (k, a, acc, cnt) => [A0, some ⟨55, [.iv (.sl (fun j => .lit ((tokL T).getD j undef)) T.length 3), lt (.int .i64 (k : Int)), lt (.int .i64 a), lt (.int .i64 0)]⟩, A2, A3, some ⟨4, [lt (.bool once)]⟩, some ⟨31, [.osl 7 0 acc.length 1]⟩, some ⟨104, [lt (.map (some b))]⟩, some ⟨3, acc.map lint⟩]) (fun (k, a, acc, cnt) => [(b, cnt, mSet (mF once acc))]) (fun (k, a, acc, cnt) => k ≤ T.length ∧ Q = nrow lo hi once (lastEnd T) (T.drop k) k acc ∧ acc.length ≤ 1000 ∧ cnt ≤ acc.length) (fun (k, a, acc, cnt) => T.length - k) (k0, a0, [], 0) (fun d => by first | ((simp only [deadS, updS, List.set_cons_succ, List.set_cons_zero, lint, List.length_nil, List.length_cons]); done) | ((simp only [deadS, updS, List.set_cons_succ, List.set_cons_zero, lint, List.length_nil, List.length_cons]); rfl) | rfl) (by first | (with_reducible rfl) | (simp only [hinit]; done) | rfl) (by first | (with_reducible rfl) | rfl) (by first | exact ⟨hk0, hQ.symm, by simp, Nat.le_refl _⟩) ?_; rintro ⟨k, a, acc, cnt⟩ d fr hfr ⟨hk, hq, hacc, hcnt⟩; simp only [updS, deadS, List.set_cons_succ, List.set_cons_zero, lint] at hfr; subst hfr; (try dsimp only))
  by_cases hlt : k < T.length
  · rw [nrow_at hlt] at hq
    have hnb0 := numR_b (l := (T.getD k tok0).2.2) hlo hhi
    have hnb : -9223372036854775808 ≤ (numR (T.getD k tok0).2.2 lo hi).1 ∧ (numR (T.getD k tok0).2.2 lo hi).1 ≤ 9223372036854775807 := by omega
    by_cases c1 : (numR (T.getD k tok0).2.2 lo hi).2 ≠ 0
    · rw [if_pos c1] at hq
      have hA := sx_numBL T k a lo hi (.fn 61 [] [.optr 6 0, .optr 5 0, .optr 4 0]) A0 A2 A3 (some ⟨4, [lt (.bool once)]⟩) (some ⟨31, [.osl 7 0 acc.length 1]⟩) (some ⟨104, [lt (.map (some b))]⟩) (some ⟨3, acc.map lint⟩) [(b, cnt, mSet (mF once acc))] hT hlt c1
      generalize (T.getD k tok0).2.1 = tp at *
      generalize (T.getD k tok0).2.2 = tx at *
      generalize numR tx lo hi = q at *
      obtain ⟨n, e⟩ := q
      dsimp only at *
      have hs2 : (e == 0) = false := by simpa using c1
      have hend : ∃ (c : List Int) (k2 : Nat) (a2 f2 : Int), AV.iv (iInts acc) = .iv (iInts c) ∧ [A0, some ⟨55, [.iv (.sl (fun j => .lit ((tokL T).getD j undef)) T.length 3), lt (.int .i64 ((k : Int) + 1)), lt (.int .i64 tp), lt (.int .i64 e)]⟩, A2, A3] = [A0, some ⟨55, [.iv (.sl (fun j => .lit ((tokL T).getD j undef)) T.length 3), lt (.int .i64 (k2 : Int)), lt (.int .i64 a2), lt (.int .i64 f2)]⟩, A2, A3] ∧ f2 = Q.2.2.2 ∧ (f2 = 0 → c = Q.1 ∧ k2 = Q.2.1) ∧ (f2 ≠ 0 → a2 = Q.2.2.1) := ⟨acc, k + 1, tp, e, rfl, rfl, by rw [hq], fun h => absurd h c1, fun _ => by rw [hq]⟩
      by_cases c2 : n = 0
      · subst c2
        (repeat (first | (first | (with_reducible first | refine AX_block ?_ | refine AX_skip ?_ | refine AX_exit ?_ | refine AX_ret ?_ | refine AX_ift ?_ | refine AX_iff ?_ | refine AX_seq_k (fun K hK => ?_) | refine ContX.use (by assumption) ?_) | simp only [thenX, inBlockX, if_true, if_false, reduceCtorEq]) | (first | ((first | (with_reducible refine XRes_op tyOK ?_ ?_) | ((with_reducible first | refine ADF_op tyOK ?_ ?_ ?_ | refine ADX_op tyOK ?_ ?_ ?_); (focus rfl)) | (with_reducible refine ADR_alloc1 tyOK ?_ ?_) | ((with_reducible refine ADR_free1 tyOK ?_ ?_ ?_); (focus rfl)) | ((with_reducible refine ADR_free0 tyOK ?_ ?_ ?_); (focus rfl)) | ((with_reducible refine ADR_read1 tyOK ?_ ?_ ?_); (focus rfl)) | (with_reducible refine ADR_chg1 tyOK ?_ ?_)); (focus (first | (with_reducible rfl) | ((simp (disch := omega) only [go_sem]); done))); simp (disch := omega) only [go_sem , hs1, hs2, hs3, hs4, Int.toNat_natCast, Nat.reduceEqDiff, List.length_map, List.length_cons, List.length_nil]; (first | (with_reducible refine XRes_id ?_) | (with_reducible refine ADF_id ?_) | (with_reducible refine ADR_id1 ?_) | (with_reducible refine ADX_id ?_))) | ((first | (with_reducible refine XRes_skip ?_ ?_) | (with_reducible refine ADF_skip (b := true) ?_ ?_) | (with_reducible refine ADX_skip ?_ ?_) | ((with_reducible refine ADR_skip1 ?_ ?_ ?_); (focus rfl))); (focus (first | rfl | ((simp (disch := omega) only [go_sem]); done))); (simp only [putL, List.set_cons_succ, List.set_cons_zero]))) | ((first | (with_reducible refine XRes_nil ?_) | (with_reducible refine ADF_nil ?_) | (with_reducible refine ADR_nil ?_) | (with_reducible refine ADX_nil ?_)); (first | refine hK _ ?_ | refine hK _ _ ?_); clear hK K) | ((first | (with_reducible refine AX_reg0 fun K hK => ?_) | (refine AX_drawG1 tyOK (by kernel_rfl) (by rfl) (by kernel_rfl) fun K hK => ?_) | (refine AX_drawT tyOK (by kernel_rfl) (by decide +kernel) fun K hK => ?_) | (refine AX_drawM1 (by kernel_rfl) (by rfl) (by decide +kernel) fun K hK => ?_) | (refine AX_drawA tyOK (by kernel_rfl) (by decide +kernel) fun K hK => ?_)); (first | simp only [go_sem, preN, effOp, runF, alM, mapOp, alD2, kdOf2, Bool.not_false, Bool.not_true, reduceCtorEq] | simp only [go_sem, preN, effOp, runF, alM, mapOp, Bool.not_false, Bool.not_true, reduceCtorEq] | simp only [go_sem, preN, effOp, runF, alD2, kdOf2, Bool.not_false, Bool.not_true, reduceCtorEq] | simp only [go_sem, alD2, kdOf2, Bool.not_false, Bool.not_true, reduceCtorEq] | simp only [go_sem, preN, effOp, runF, Bool.not_false, Bool.not_true, reduceCtorEq] | simp only [go_sem])) | (first | ((refine XRes_fnX (by rfl) hA ?_); (rintro r H' M' ⟨rfl, ⟨Z, rfl⟩, rfl⟩); (simp only [putL, List.set_cons_succ, List.set_cons_zero])) | ((refine XRes_fnX (by rfl) hA ?_); (rintro r H' M' ⟨rfl, rfl, rfl⟩); (simp only [putL, List.set_cons_succ, List.set_cons_zero])))))
        refine lead_frz10 [7] [(27, .iv (iInts acc)), (8, .iv (iInts acc))] (fun p hp => ?_) ?_
        · simp only [List.mem_cons, List.not_mem_nil, or_false] at hp
          rcases hp with rfl | rfl <;> exact frz_ints (only_mk (by decide) rfl) rfl
        simp only [setN, updS, List.set_cons_succ, List.set_cons_zero]
        (refine lead_drop [] [0, 1, 2, 3, 4, 5, 6, 7, 9, 10, 11, 12, 13, 14, 15, 16, 17, 18, 19, 20, 21, 22, 23, 24, 25, 26, 27] [A0, some ⟨55, [.iv (.sl (fun j => .lit ((tokL T).getD j undef)) T.length 3), lt (.int .i64 ((k : Int) + 1)), lt (.int .i64 tp), lt (.int .i64 e)]⟩, A2, A3] (by decide) (by decide) (by (simp (disch := omega) only [go_sem, lint, Nat.reduceEqDiff, List.length_map, LowO.ok hL0, LowO.rn hL0, LowO.ok hL2, LowO.rn hL2, LowO.ok hL3, LowO.rn hL3])) (by (simp (disch := omega) only [go_sem, lint, Nat.reduceEqDiff, List.length_map, LowO.ok hL0, LowO.rn hL0, LowO.ok hL2, LowO.rn hL2, LowO.ok hL3, LowO.rn hL3])) (by (simp (disch := omega) only [go_sem, lint, Nat.reduceEqDiff, List.length_map, LowO.ok hL0, LowO.rn hL0, LowO.ok hL2, LowO.rn hL2, LowO.ok hL3, LowO.rn hL3])) (fun d => ?_); (simp (disch := omega) only [go_sem, lint, Nat.reduceEqDiff, List.length_map, LowO.ok hL0, LowO.rn hL0, LowO.ok hL2, LowO.rn hL2, LowO.ok hL3, LowO.rn hL3]))
        (simp only [bodyXM]; refine ⟨_, by simp only [aresults, aresult, XS.as, Tryd.results43, aload, go_sem, Option.bind_some]; rfl, ?_⟩)
        exact hend
      · have hs1 : (n == 0) = false := by simpa using c2
        (repeat (first | (first | (with_reducible first | refine AX_block ?_ | refine AX_skip ?_ | refine AX_exit ?_ | refine AX_ret ?_ | refine AX_ift ?_ | refine AX_iff ?_ | refine AX_seq_k (fun K hK => ?_) | refine ContX.use (by assumption) ?_) | simp only [thenX, inBlockX, if_true, if_false, reduceCtorEq]) | (first | ((first | (with_reducible refine XRes_op tyOK ?_ ?_) | ((with_reducible first | refine ADF_op tyOK ?_ ?_ ?_ | refine ADX_op tyOK ?_ ?_ ?_); (focus rfl)) | (with_reducible refine ADR_alloc1 tyOK ?_ ?_) | ((with_reducible refine ADR_free1 tyOK ?_ ?_ ?_); (focus rfl)) | ((with_reducible refine ADR_free0 tyOK ?_ ?_ ?_); (focus rfl)) | ((with_reducible refine ADR_read1 tyOK ?_ ?_ ?_); (focus rfl)) | (with_reducible refine ADR_chg1 tyOK ?_ ?_)); (focus (first | (with_reducible rfl) | ((simp (disch := omega) only [go_sem]); done))); simp (disch := omega) only [go_sem , hs1, hs2, hs3, hs4, Int.toNat_natCast, Nat.reduceEqDiff, List.length_map, List.length_cons, List.length_nil]; (first | (with_reducible refine XRes_id ?_) | (with_reducible refine ADF_id ?_) | (with_reducible refine ADR_id1 ?_) | (with_reducible refine ADX_id ?_))) | ((first | (with_reducible refine XRes_skip ?_ ?_) | (with_reducible refine ADF_skip (b := true) ?_ ?_) | (with_reducible refine ADX_skip ?_ ?_) | ((with_reducible refine ADR_skip1 ?_ ?_ ?_); (focus rfl))); (focus (first | rfl | ((simp (disch := omega) only [go_sem]); done))); (simp only [putL, List.set_cons_succ, List.set_cons_zero]))) | ((first | (with_reducible refine XRes_nil ?_) | (with_reducible refine ADF_nil ?_) | (with_reducible refine ADR_nil ?_) | (with_reducible refine ADX_nil ?_)); (first | refine hK _ ?_ | refine hK _ _ ?_); clear hK K) | ((first | (with_reducible refine AX_reg0 fun K hK => ?_) | (refine AX_drawG1 tyOK (by kernel_rfl) (by rfl) (by kernel_rfl) fun K hK => ?_) | (refine AX_drawT tyOK (by kernel_rfl) (by decide +kernel) fun K hK => ?_) | (refine AX_drawM1 (by kernel_rfl) (by rfl) (by decide +kernel) fun K hK => ?_) | (refine AX_drawA tyOK (by kernel_rfl) (by decide +kernel) fun K hK => ?_)); (first | simp only [go_sem, preN, effOp, runF, alM, mapOp, alD2, kdOf2, Bool.not_false, Bool.not_true, reduceCtorEq] | simp only [go_sem, preN, effOp, runF, alM, mapOp, Bool.not_false, Bool.not_true, reduceCtorEq] | simp only [go_sem, preN, effOp, runF, alD2, kdOf2, Bool.not_false, Bool.not_true, reduceCtorEq] | simp only [go_sem, alD2, kdOf2, Bool.not_false, Bool.not_true, reduceCtorEq] | simp only [go_sem, preN, effOp, runF, Bool.not_false, Bool.not_true, reduceCtorEq] | simp only [go_sem])) | (first | ((refine XRes_fnX (by rfl) hA ?_); (rintro r H' M' ⟨rfl, ⟨Z, rfl⟩, rfl⟩); (simp only [putL, List.set_cons_succ, List.set_cons_zero])) | ((refine XRes_fnX (by rfl) hA ?_); (rintro r H' M' ⟨rfl, rfl, rfl⟩); (simp only [putL, List.set_cons_succ, List.set_cons_zero])))))
        refine lead_frz10 [7] [(27, .iv (iInts acc)), (8, .iv (iInts acc))] (fun p hp => ?_) ?_
        · simp only [List.mem_cons, List.not_mem_nil, or_false] at hp
          rcases hp with rfl | rfl <;> exact frz_ints (only_mk (by decide) rfl) rfl
        simp only [setN, updS, List.set_cons_succ, List.set_cons_zero]
        (refine lead_drop [] [0, 1, 2, 3, 4, 5, 6, 7, 9, 10, 11, 12, 13, 14, 15, 16, 17, 18, 19, 20, 21, 22, 23, 24, 25, 26, 27] [A0, some ⟨55, [.iv (.sl (fun j => .lit ((tokL T).getD j undef)) T.length 3), lt (.int .i64 ((k : Int) + 1)), lt (.int .i64 tp), lt (.int .i64 e)]⟩, A2, A3] (by decide) (by decide) (by (simp (disch := omega) only [go_sem, lint, Nat.reduceEqDiff, List.length_map, LowO.ok hL0, LowO.rn hL0, LowO.ok hL2, LowO.rn hL2, LowO.ok hL3, LowO.rn hL3])) (by (simp (disch := omega) only [go_sem, lint, Nat.reduceEqDiff, List.length_map, LowO.ok hL0, LowO.rn hL0, LowO.ok hL2, LowO.rn hL2, LowO.ok hL3, LowO.rn hL3])) (by (simp (disch := omega) only [go_sem, lint, Nat.reduceEqDiff, List.length_map, LowO.ok hL0, LowO.rn hL0, LowO.ok hL2, LowO.rn hL2, LowO.ok hL3, LowO.rn hL3])) (fun d => ?_); (simp (disch := omega) only [go_sem, lint, Nat.reduceEqDiff, List.length_map, LowO.ok hL0, LowO.rn hL0, LowO.ok hL2, LowO.rn hL2, LowO.ok hL3, LowO.rn hL3]))
        (simp only [bodyXM]; refine ⟨_, by simp only [aresults, aresult, XS.as, Tryd.results43, aload, go_sem, Option.bind_some]; rfl, ?_⟩)
        exact hend
    · rw [if_neg c1] at hq
      have c1 : (numR (T.getD k tok0).2.2 lo hi).2 = 0 := Classical.not_not.1 c1
      by_cases c2 : (numR (T.getD k tok0).2.2 lo hi).1 = 0 ∨ acc.length = 1000 ∨ (once = true ∧ (numR (T.getD k tok0).2.2 lo hi).1 ∈ acc)
      · have hM := sx_mayS (numR (T.getD k tok0).2.2 lo hi).1 once acc b cnt A0 (some ⟨55, [.iv (.sl (fun j => .lit ((tokL T).getD j undef)) T.length 3), lt (.int .i64 ((k : Int) + 1)), lt (.int .i64 a), lt (.int .i64 0)]⟩) A2 A3 (some ⟨58, [lt (.int .i64 (T.getD k tok0).1), lt (.int .i64 (T.getD k tok0).2.1), lt (.string (ba (T.getD k tok0).2.2))]⟩) hnb hacc c2
        have hA := sx_numGL T k a lo hi (rowE once acc (numR (T.getD k tok0).2.2 lo hi).1) 61 [] [.optr 6 0, .optr 5 0, .optr 4 0] A0 A2 A3 (some ⟨4, [lt (.bool once)]⟩) (some ⟨31, [.osl 7 0 acc.length 1]⟩) (some ⟨104, [lt (.map (some b))]⟩) (some ⟨3, acc.map lint⟩) [A2, A3, some ⟨4, [lt (.bool once)]⟩, some ⟨31, [.osl 7 0 acc.length 1]⟩, some ⟨104, [lt (.map (some b))]⟩, some ⟨3, acc.map lint⟩, some ⟨58, [lt (.int .i64 (T.getD k tok0).1), lt (.int .i64 (T.getD k tok0).2.1), lt (.string (ba (T.getD k tok0).2.2))]⟩, some ⟨105, []⟩] [(b, cnt, mSet (mF once acc))] [(b, cnt, mSet (mF once acc))] hT hlt c1 rfl (by simp) hM
        unfold rowE at hA
        generalize (T.getD k tok0).1 = tl at *
        generalize (T.getD k tok0).2.1 = tp at *
        generalize (T.getD k tok0).2.2 = tx at *
        generalize numR tx lo hi = q at *
        obtain ⟨n, e⟩ := q
        dsimp only at *
        subst c1
        by_cases c3 : n = 0
        · subst c3
          rw [if_pos rfl] at hq hA
          have hend : ∃ (c : List Int) (k2 : Nat) (a2 f2 : Int), AV.iv (iInts acc) = .iv (iInts c) ∧ [A0, some ⟨55, [.iv (.sl (fun j => .lit ((tokL T).getD j undef)) T.length 3), lt (.int .i64 ((k : Int) + 1)), lt (.int .i64 tp), lt (.int .i64 0)]⟩, A2, A3] = [A0, some ⟨55, [.iv (.sl (fun j => .lit ((tokL T).getD j undef)) T.length 3), lt (.int .i64 (k2 : Int)), lt (.int .i64 a2), lt (.int .i64 f2)]⟩, A2, A3] ∧ f2 = Q.2.2.2 ∧ (f2 = 0 → c = Q.1 ∧ k2 = Q.2.1) ∧ (f2 ≠ 0 → a2 = Q.2.2.1) := ⟨acc, k + 1, tp, 0, rfl, rfl, by rw [hq], fun _ => ⟨by rw [hq], by rw [hq]⟩, fun h => absurd rfl h⟩
          (repeat (first | (first | (with_reducible first | refine AX_block ?_ | refine AX_skip ?_ | refine AX_exit ?_ | refine AX_ret ?_ | refine AX_ift ?_ | refine AX_iff ?_ | refine AX_seq_k (fun K hK => ?_) | refine ContX.use (by assumption) ?_) | simp only [thenX, inBlockX, if_true, if_false, reduceCtorEq]) | (first | ((first | (with_reducible refine XRes_op tyOK ?_ ?_) | ((with_reducible first | refine ADF_op tyOK ?_ ?_ ?_ | refine ADX_op tyOK ?_ ?_ ?_); (focus rfl)) | (with_reducible refine ADR_alloc1 tyOK ?_ ?_) | ((with_reducible refine ADR_free1 tyOK ?_ ?_ ?_); (focus rfl)) | ((with_reducible refine ADR_free0 tyOK ?_ ?_ ?_); (focus rfl)) | ((with_reducible refine ADR_read1 tyOK ?_ ?_ ?_); (focus rfl)) | (with_reducible refine ADR_chg1 tyOK ?_ ?_)); (focus (first | (with_reducible rfl) | ((simp (disch := omega) only [go_sem]); done))); simp (disch := omega) only [go_sem , hs1, hs2, hs3, hs4, Int.toNat_natCast, Nat.reduceEqDiff, List.length_map, List.length_cons, List.length_nil]; (first | (with_reducible refine XRes_id ?_) | (with_reducible refine ADF_id ?_) | (with_reducible refine ADR_id1 ?_) | (with_reducible refine ADX_id ?_))) | ((first | (with_reducible refine XRes_skip ?_ ?_) | (with_reducible refine ADF_skip (b := true) ?_ ?_) | (with_reducible refine ADX_skip ?_ ?_) | ((with_reducible refine ADR_skip1 ?_ ?_ ?_); (focus rfl))); (focus (first | rfl | ((simp (disch := omega) only [go_sem]); done))); (simp only [putL, List.set_cons_succ, List.set_cons_zero]))) | ((first | (with_reducible refine XRes_nil ?_) | (with_reducible refine ADF_nil ?_) | (with_reducible refine ADR_nil ?_) | (with_reducible refine ADX_nil ?_)); (first | refine hK _ ?_ | refine hK _ _ ?_); clear hK K) | ((first | (with_reducible refine AX_reg0 fun K hK => ?_) | (refine AX_drawG1 tyOK (by kernel_rfl) (by rfl) (by kernel_rfl) fun K hK => ?_) | (refine AX_drawT tyOK (by kernel_rfl) (by decide +kernel) fun K hK => ?_) | (refine AX_drawM1 (by kernel_rfl) (by rfl) (by decide +kernel) fun K hK => ?_) | (refine AX_drawA tyOK (by kernel_rfl) (by decide +kernel) fun K hK => ?_)); (first | simp only [go_sem, preN, effOp, runF, alM, mapOp, alD2, kdOf2, Bool.not_false, Bool.not_true, reduceCtorEq] | simp only [go_sem, preN, effOp, runF, alM, mapOp, Bool.not_false, Bool.not_true, reduceCtorEq] | simp only [go_sem, preN, effOp, runF, alD2, kdOf2, Bool.not_false, Bool.not_true, reduceCtorEq] | simp only [go_sem, alD2, kdOf2, Bool.not_false, Bool.not_true, reduceCtorEq] | simp only [go_sem, preN, effOp, runF, Bool.not_false, Bool.not_true, reduceCtorEq] | simp only [go_sem])) | (first | ((refine XRes_fnX (by rfl) hA ?_); (rintro r H' M' ⟨rfl, ⟨Z, rfl⟩, rfl⟩); (simp only [putL, List.set_cons_succ, List.set_cons_zero])) | ((refine XRes_fnX (by rfl) hA ?_); (rintro r H' M' ⟨rfl, rfl, rfl⟩); (simp only [putL, List.set_cons_succ, List.set_cons_zero])))))
          refine lead_frz10 [7] [(27, .iv (iInts acc)), (8, .iv (iInts acc))] (fun p hp => ?_) ?_
          · simp only [List.mem_cons, List.not_mem_nil, or_false] at hp
            rcases hp with rfl | rfl <;> exact frz_ints (only_mk (by decide) rfl) rfl
          simp only [setN, updS, List.set_cons_succ, List.set_cons_zero]
          (refine lead_drop [] [0, 1, 2, 3, 4, 5, 6, 7, 9, 10, 11, 12, 13, 14, 15, 16, 17, 18, 19, 20, 21, 22, 23, 24, 25, 26, 27] [A0, some ⟨55, [.iv (.sl (fun j => .lit ((tokL T).getD j undef)) T.length 3), lt (.int .i64 ((k : Int) + 1)), lt (.int .i64 tp), lt (.int .i64 0)]⟩, A2, A3] (by decide) (by decide) (by (simp (disch := omega) only [go_sem, lint, Nat.reduceEqDiff, List.length_map, LowO.ok hL0, LowO.rn hL0, LowO.ok hL2, LowO.rn hL2, LowO.ok hL3, LowO.rn hL3])) (by (simp (disch := omega) only [go_sem, lint, Nat.reduceEqDiff, List.length_map, LowO.ok hL0, LowO.rn hL0, LowO.ok hL2, LowO.rn hL2, LowO.ok hL3, LowO.rn hL3])) (by (simp (disch := omega) only [go_sem, lint, Nat.reduceEqDiff, List.length_map, LowO.ok hL0, LowO.rn hL0, LowO.ok hL2, LowO.rn hL2, LowO.ok hL3, LowO.rn hL3])) (fun d => ?_); (simp (disch := omega) only [go_sem, lint, Nat.reduceEqDiff, List.length_map, LowO.ok hL0, LowO.rn hL0, LowO.ok hL2, LowO.rn hL2, LowO.ok hL3, LowO.rn hL3]))
          (simp only [bodyXM]; refine ⟨_, by simp only [aresults, aresult, XS.as, Tryd.results43, aload, go_sem, Option.bind_some]; rfl, ?_⟩)
          exact hend
        · rw [if_neg c3] at hq hA
          have hs1 : (n == 0) = false := by simpa using c3
          by_cases c4 : acc.length = 1000
          · rw [if_pos c4] at hq hA
            have hend : ∃ (c : List Int) (k2 : Nat) (a2 f2 : Int), AV.iv (iInts acc) = .iv (iInts c) ∧ [A0, some ⟨55, [.iv (.sl (fun j => .lit ((tokL T).getD j undef)) T.length 3), lt (.int .i64 ((k : Int) + 1)), lt (.int .i64 tp), lt (.int .i64 3)]⟩, A2, A3] = [A0, some ⟨55, [.iv (.sl (fun j => .lit ((tokL T).getD j undef)) T.length 3), lt (.int .i64 (k2 : Int)), lt (.int .i64 a2), lt (.int .i64 f2)]⟩, A2, A3] ∧ f2 = Q.2.2.2 ∧ (f2 = 0 → c = Q.1 ∧ k2 = Q.2.1) ∧ (f2 ≠ 0 → a2 = Q.2.2.1) := ⟨acc, k + 1, tp, 3, rfl, rfl, by rw [hq], fun h => absurd h (by decide), fun _ => by rw [hq]⟩
            (repeat (first | (first | (with_reducible first | refine AX_block ?_ | refine AX_skip ?_ | refine AX_exit ?_ | refine AX_ret ?_ | refine AX_ift ?_ | refine AX_iff ?_ | refine AX_seq_k (fun K hK => ?_) | refine ContX.use (by assumption) ?_) | simp only [thenX, inBlockX, if_true, if_false, reduceCtorEq]) | (first | ((first | (with_reducible refine XRes_op tyOK ?_ ?_) | ((with_reducible first | refine ADF_op tyOK ?_ ?_ ?_ | refine ADX_op tyOK ?_ ?_ ?_); (focus rfl)) | (with_reducible refine ADR_alloc1 tyOK ?_ ?_) | ((with_reducible refine ADR_free1 tyOK ?_ ?_ ?_); (focus rfl)) | ((with_reducible refine ADR_free0 tyOK ?_ ?_ ?_); (focus rfl)) | ((with_reducible refine ADR_read1 tyOK ?_ ?_ ?_); (focus rfl)) | (with_reducible refine ADR_chg1 tyOK ?_ ?_)); (focus (first | (with_reducible rfl) | ((simp (disch := omega) only [go_sem]); done))); simp (disch := omega) only [go_sem , hs1, hs2, hs3, hs4, Int.toNat_natCast, Nat.reduceEqDiff, List.length_map, List.length_cons, List.length_nil]; (first | (with_reducible refine XRes_id ?_) | (with_reducible refine ADF_id ?_) | (with_reducible refine ADR_id1 ?_) | (with_reducible refine ADX_id ?_))) | ((first | (with_reducible refine XRes_skip ?_ ?_) | (with_reducible refine ADF_skip (b := true) ?_ ?_) | (with_reducible refine ADX_skip ?_ ?_) | ((with_reducible refine ADR_skip1 ?_ ?_ ?_); (focus rfl))); (focus (first | rfl | ((simp (disch := omega) only [go_sem]); done))); (simp only [putL, List.set_cons_succ, List.set_cons_zero]))) | ((first | (with_reducible refine XRes_nil ?_) | (with_reducible refine ADF_nil ?_) | (with_reducible refine ADR_nil ?_) | (with_reducible refine ADX_nil ?_)); (first | refine hK _ ?_ | refine hK _ _ ?_); clear hK K) | ((first | (with_reducible refine AX_reg0 fun K hK => ?_) | (refine AX_drawG1 tyOK (by kernel_rfl) (by rfl) (by kernel_rfl) fun K hK => ?_) | (refine AX_drawT tyOK (by kernel_rfl) (by decide +kernel) fun K hK => ?_) | (refine AX_drawM1 (by kernel_rfl) (by rfl) (by decide +kernel) fun K hK => ?_) | (refine AX_drawA tyOK (by kernel_rfl) (by decide +kernel) fun K hK => ?_)); (first | simp only [go_sem, preN, effOp, runF, alM, mapOp, alD2, kdOf2, Bool.not_false, Bool.not_true, reduceCtorEq] | simp only [go_sem, preN, effOp, runF, alM, mapOp, Bool.not_false, Bool.not_true, reduceCtorEq] | simp only [go_sem, preN, effOp, runF, alD2, kdOf2, Bool.not_false, Bool.not_true, reduceCtorEq] | simp only [go_sem, alD2, kdOf2, Bool.not_false, Bool.not_true, reduceCtorEq] | simp only [go_sem, preN, effOp, runF, Bool.not_false, Bool.not_true, reduceCtorEq] | simp only [go_sem])) | (first | ((refine XRes_fnX (by rfl) hA ?_); (rintro r H' M' ⟨rfl, ⟨Z, rfl⟩, rfl⟩); (simp only [putL, List.set_cons_succ, List.set_cons_zero])) | ((refine XRes_fnX (by rfl) hA ?_); (rintro r H' M' ⟨rfl, rfl, rfl⟩); (simp only [putL, List.set_cons_succ, List.set_cons_zero])))))
            refine lead_frz10 [7] [(27, .iv (iInts acc)), (8, .iv (iInts acc))] (fun p hp => ?_) ?_
            · simp only [List.mem_cons, List.not_mem_nil, or_false] at hp
              rcases hp with rfl | rfl <;> exact frz_ints (only_mk (by decide) rfl) rfl
            simp only [setN, updS, List.set_cons_succ, List.set_cons_zero]
            (refine lead_drop [] [0, 1, 2, 3, 4, 5, 6, 7, 9, 10, 11, 12, 13, 14, 15, 16, 17, 18, 19, 20, 21, 22, 23, 24, 25, 26, 27] [A0, some ⟨55, [.iv (.sl (fun j => .lit ((tokL T).getD j undef)) T.length 3), lt (.int .i64 ((k : Int) + 1)), lt (.int .i64 tp), lt (.int .i64 3)]⟩, A2, A3] (by decide) (by decide) (by (simp (disch := omega) only [go_sem, lint, Nat.reduceEqDiff, List.length_map, LowO.ok hL0, LowO.rn hL0, LowO.ok hL2, LowO.rn hL2, LowO.ok hL3, LowO.rn hL3])) (by (simp (disch := omega) only [go_sem, lint, Nat.reduceEqDiff, List.length_map, LowO.ok hL0, LowO.rn hL0, LowO.ok hL2, LowO.rn hL2, LowO.ok hL3, LowO.rn hL3])) (by (simp (disch := omega) only [go_sem, lint, Nat.reduceEqDiff, List.length_map, LowO.ok hL0, LowO.rn hL0, LowO.ok hL2, LowO.rn hL2, LowO.ok hL3, LowO.rn hL3])) (fun d => ?_); (simp (disch := omega) only [go_sem, lint, Nat.reduceEqDiff, List.length_map, LowO.ok hL0, LowO.rn hL0, LowO.ok hL2, LowO.rn hL2, LowO.ok hL3, LowO.rn hL3]))
            (simp only [bodyXM]; refine ⟨_, by simp only [aresults, aresult, XS.as, Tryd.results43, aload, go_sem, Option.bind_some]; rfl, ?_⟩)
            exact hend
          · rw [if_neg c4] at hq hA
            have c5 : once = true ∧ n ∈ acc := by rcases c2 with h | h | h; exact absurd h c3; exact absurd h c4; exact h
            rw [if_pos c5] at hq hA
            have hend : ∃ (c : List Int) (k2 : Nat) (a2 f2 : Int), AV.iv (iInts acc) = .iv (iInts c) ∧ [A0, some ⟨55, [.iv (.sl (fun j => .lit ((tokL T).getD j undef)) T.length 3), lt (.int .i64 ((k : Int) + 1)), lt (.int .i64 tp), lt (.int .i64 21)]⟩, A2, A3] = [A0, some ⟨55, [.iv (.sl (fun j => .lit ((tokL T).getD j undef)) T.length 3), lt (.int .i64 (k2 : Int)), lt (.int .i64 a2), lt (.int .i64 f2)]⟩, A2, A3] ∧ f2 = Q.2.2.2 ∧ (f2 = 0 → c = Q.1 ∧ k2 = Q.2.1) ∧ (f2 ≠ 0 → a2 = Q.2.2.1) := ⟨acc, k + 1, tp, 21, rfl, rfl, by rw [hq], fun h => absurd h (by decide), fun _ => by rw [hq]⟩
            (repeat (first | (first | (with_reducible first | refine AX_block ?_ | refine AX_skip ?_ | refine AX_exit ?_ | refine AX_ret ?_ | refine AX_ift ?_ | refine AX_iff ?_ | refine AX_seq_k (fun K hK => ?_) | refine ContX.use (by assumption) ?_) | simp only [thenX, inBlockX, if_true, if_false, reduceCtorEq]) | (first | ((first | (with_reducible refine XRes_op tyOK ?_ ?_) | ((with_reducible first | refine ADF_op tyOK ?_ ?_ ?_ | refine ADX_op tyOK ?_ ?_ ?_); (focus rfl)) | (with_reducible refine ADR_alloc1 tyOK ?_ ?_) | ((with_reducible refine ADR_free1 tyOK ?_ ?_ ?_); (focus rfl)) | ((with_reducible refine ADR_free0 tyOK ?_ ?_ ?_); (focus rfl)) | ((with_reducible refine ADR_read1 tyOK ?_ ?_ ?_); (focus rfl)) | (with_reducible refine ADR_chg1 tyOK ?_ ?_)); (focus (first | (with_reducible rfl) | ((simp (disch := omega) only [go_sem]); done))); simp (disch := omega) only [go_sem , hs1, hs2, hs3, hs4, Int.toNat_natCast, Nat.reduceEqDiff, List.length_map, List.length_cons, List.length_nil]; (first | (with_reducible refine XRes_id ?_) | (with_reducible refine ADF_id ?_) | (with_reducible refine ADR_id1 ?_) | (with_reducible refine ADX_id ?_))) | ((first | (with_reducible refine XRes_skip ?_ ?_) | (with_reducible refine ADF_skip (b := true) ?_ ?_) | (with_reducible refine ADX_skip ?_ ?_) | ((with_reducible refine ADR_skip1 ?_ ?_ ?_); (focus rfl))); (focus (first | rfl | ((simp (disch := omega) only [go_sem]); done))); (simp only [putL, List.set_cons_succ, List.set_cons_zero]))) | ((first | (with_reducible refine XRes_nil ?_) | (with_reducible refine ADF_nil ?_) | (with_reducible refine ADR_nil ?_) | (with_reducible refine ADX_nil ?_)); (first | refine hK _ ?_ | refine hK _ _ ?_); clear hK K) | ((first | (with_reducible refine AX_reg0 fun K hK => ?_) | (refine AX_drawG1 tyOK (by kernel_rfl) (by rfl) (by kernel_rfl) fun K hK => ?_) | (refine AX_drawT tyOK (by kernel_rfl) (by decide +kernel) fun K hK => ?_) | (refine AX_drawM1 (by kernel_rfl) (by rfl) (by decide +kernel) fun K hK => ?_) | (refine AX_drawA tyOK (by kernel_rfl) (by decide +kernel) fun K hK => ?_)); (first | simp only [go_sem, preN, effOp, runF, alM, mapOp, alD2, kdOf2, Bool.not_false, Bool.not_true, reduceCtorEq] | simp only [go_sem, preN, effOp, runF, alM, mapOp, Bool.not_false, Bool.not_true, reduceCtorEq] | simp only [go_sem, preN, effOp, runF, alD2, kdOf2, Bool.not_false, Bool.not_true, reduceCtorEq] | simp only [go_sem, alD2, kdOf2, Bool.not_false, Bool.not_true, reduceCtorEq] | simp only [go_sem, preN, effOp, runF, Bool.not_false, Bool.not_true, reduceCtorEq] | simp only [go_sem])) | (first | ((refine XRes_fnX (by rfl) hA ?_); (rintro r H' M' ⟨rfl, ⟨Z, rfl⟩, rfl⟩); (simp only [putL, List.set_cons_succ, List.set_cons_zero])) | ((refine XRes_fnX (by rfl) hA ?_); (rintro r H' M' ⟨rfl, rfl, rfl⟩); (simp only [putL, List.set_cons_succ, List.set_cons_zero])))))
            refine lead_frz10 [7] [(27, .iv (iInts acc)), (8, .iv (iInts acc))] (fun p hp => ?_) ?_
            · simp only [List.mem_cons, List.not_mem_nil, or_false] at hp
              rcases hp with rfl | rfl <;> exact frz_ints (only_mk (by decide) rfl) rfl
            simp only [setN, updS, List.set_cons_succ, List.set_cons_zero]
            (refine lead_drop [] [0, 1, 2, 3, 4, 5, 6, 7, 9, 10, 11, 12, 13, 14, 15, 16, 17, 18, 19, 20, 21, 22, 23, 24, 25, 26, 27] [A0, some ⟨55, [.iv (.sl (fun j => .lit ((tokL T).getD j undef)) T.length 3), lt (.int .i64 ((k : Int) + 1)), lt (.int .i64 tp), lt (.int .i64 21)]⟩, A2, A3] (by decide) (by decide) (by (simp (disch := omega) only [go_sem, lint, Nat.reduceEqDiff, List.length_map, LowO.ok hL0, LowO.rn hL0, LowO.ok hL2, LowO.rn hL2, LowO.ok hL3, LowO.rn hL3])) (by (simp (disch := omega) only [go_sem, lint, Nat.reduceEqDiff, List.length_map, LowO.ok hL0, LowO.rn hL0, LowO.ok hL2, LowO.rn hL2, LowO.ok hL3, LowO.rn hL3])) (by (simp (disch := omega) only [go_sem, lint, Nat.reduceEqDiff, List.length_map, LowO.ok hL0, LowO.rn hL0, LowO.ok hL2, LowO.rn hL2, LowO.ok hL3, LowO.rn hL3])) (fun d => ?_); (simp (disch := omega) only [go_sem, lint, Nat.reduceEqDiff, List.length_map, LowO.ok hL0, LowO.rn hL0, LowO.ok hL2, LowO.rn hL2, LowO.ok hL3, LowO.rn hL3]))
            (simp only [bodyXM]; refine ⟨_, by simp only [aresults, aresult, XS.as, Tryd.results43, aload, go_sem, Option.bind_some]; rfl, ?_⟩)
            exact hend
      · have c3 : (numR (T.getD k tok0).2.2 lo hi).1 ≠ 0 := fun h => c2 (.inl h)
        have c4 : acc.length ≠ 1000 := fun h => c2 (.inr (.inl h))
        have c5 : ¬(once = true ∧ (numR (T.getD k tok0).2.2 lo hi).1 ∈ acc) := fun h => c2 (.inr (.inr h))
        rw [if_neg c3, if_neg c4, if_neg c5] at hq
        have hl : acc.length < 1000 := by omega
        cases once with
        | true =>
          have hM := sx_mayO (numR (T.getD k tok0).2.2 lo hi).1 acc b cnt A0 (some ⟨55, [.iv (.sl (fun j => .lit ((tokL T).getD j undef)) T.length 3), lt (.int .i64 ((k : Int) + 1)), lt (.int .i64 a), lt (.int .i64 0)]⟩) A2 A3 (some ⟨58, [lt (.int .i64 (T.getD k tok0).1), lt (.int .i64 (T.getD k tok0).2.1), lt (.string (ba (T.getD k tok0).2.2))]⟩) hnb hl (by omega) c3 (fun h => c5 ⟨rfl, h⟩)
          have hA := sx_numGL T k a lo hi 0 61 [] [.optr 6 0, .optr 5 0, .optr 4 0] A0 A2 A3 (some ⟨4, [lt (.bool true)]⟩) (some ⟨31, [.osl 7 0 acc.length 1]⟩) (some ⟨104, [lt (.map (some b))]⟩) (some ⟨3, acc.map lint⟩) [A2, A3, some ⟨4, [lt (.bool true)]⟩, some ⟨31, [.osl 11 0 (acc.length + 1) 1]⟩, some ⟨104, [lt (.map (some b))]⟩, none, some ⟨58, [lt (.int .i64 (T.getD k tok0).1), lt (.int .i64 (T.getD k tok0).2.1), lt (.string (ba (T.getD k tok0).2.2))]⟩, some ⟨105, []⟩, some ⟨3, [lt (.int .i64 (numR (T.getD k tok0).2.2 lo hi).1)]⟩, some ⟨3, (acc ++ [(numR (T.getD k tok0).2.2 lo hi).1]).map lint⟩] [(b, cnt, mSet (mF true acc))] [(b, cnt + 1, mSet (mF true (acc ++ [(numR (T.getD k tok0).2.2 lo hi).1])))] hT hlt c1 rfl (by simp) hM
          generalize (T.getD k tok0).1 = tl at *
          generalize (T.getD k tok0).2.1 = tp at *
          generalize (T.getD k tok0).2.2 = tx at *
          generalize numR tx lo hi = q at *
          obtain ⟨n, e⟩ := q
          dsimp only at *
          subst c1
          have hs1 : (n == 0) = false := by simpa using c3
          (repeat (first | (first | (with_reducible first | refine AX_block ?_ | refine AX_skip ?_ | refine AX_exit ?_ | refine AX_ret ?_ | refine AX_ift ?_ | refine AX_iff ?_ | refine AX_seq_k (fun K hK => ?_) | refine ContX.use (by assumption) ?_) | simp only [thenX, inBlockX, if_true, if_false, reduceCtorEq]) | (first | ((first | (with_reducible refine XRes_op tyOK ?_ ?_) | ((with_reducible first | refine ADF_op tyOK ?_ ?_ ?_ | refine ADX_op tyOK ?_ ?_ ?_); (focus rfl)) | (with_reducible refine ADR_alloc1 tyOK ?_ ?_) | ((with_reducible refine ADR_free1 tyOK ?_ ?_ ?_); (focus rfl)) | ((with_reducible refine ADR_free0 tyOK ?_ ?_ ?_); (focus rfl)) | ((with_reducible refine ADR_read1 tyOK ?_ ?_ ?_); (focus rfl)) | (with_reducible refine ADR_chg1 tyOK ?_ ?_)); (focus (first | (with_reducible rfl) | ((simp (disch := omega) only [go_sem]); done))); simp (disch := omega) only [go_sem , hs1, hs2, hs3, hs4, Int.toNat_natCast, Nat.reduceEqDiff, List.length_map, List.length_cons, List.length_nil]; (first | (with_reducible refine XRes_id ?_) | (with_reducible refine ADF_id ?_) | (with_reducible refine ADR_id1 ?_) | (with_reducible refine ADX_id ?_))) | ((first | (with_reducible refine XRes_skip ?_ ?_) | (with_reducible refine ADF_skip (b := true) ?_ ?_) | (with_reducible refine ADX_skip ?_ ?_) | ((with_reducible refine ADR_skip1 ?_ ?_ ?_); (focus rfl))); (focus (first | rfl | ((simp (disch := omega) only [go_sem]); done))); (simp only [putL, List.set_cons_succ, List.set_cons_zero]))) | ((first | (with_reducible refine XRes_nil ?_) | (with_reducible refine ADF_nil ?_) | (with_reducible refine ADR_nil ?_) | (with_reducible refine ADX_nil ?_)); (first | refine hK _ ?_ | refine hK _ _ ?_); clear hK K) | ((first | (with_reducible refine AX_reg0 fun K hK => ?_) | (refine AX_drawG1 tyOK (by kernel_rfl) (by rfl) (by kernel_rfl) fun K hK => ?_) | (refine AX_drawT tyOK (by kernel_rfl) (by decide +kernel) fun K hK => ?_) | (refine AX_drawM1 (by kernel_rfl) (by rfl) (by decide +kernel) fun K hK => ?_) | (refine AX_drawA tyOK (by kernel_rfl) (by decide +kernel) fun K hK => ?_)); (first | simp only [go_sem, preN, effOp, runF, alM, mapOp, alD2, kdOf2, Bool.not_false, Bool.not_true, reduceCtorEq] | simp only [go_sem, preN, effOp, runF, alM, mapOp, Bool.not_false, Bool.not_true, reduceCtorEq] | simp only [go_sem, preN, effOp, runF, alD2, kdOf2, Bool.not_false, Bool.not_true, reduceCtorEq] | simp only [go_sem, alD2, kdOf2, Bool.not_false, Bool.not_true, reduceCtorEq] | simp only [go_sem, preN, effOp, runF, Bool.not_false, Bool.not_true, reduceCtorEq] | simp only [go_sem])) | (first | ((refine XRes_fnX (by rfl) hA ?_); (rintro r H' M' ⟨rfl, ⟨Z, rfl⟩, rfl⟩); (simp only [putL, List.set_cons_succ, List.set_cons_zero])) | ((refine XRes_fnX (by rfl) hA ?_); (rintro r H' M' ⟨rfl, rfl, rfl⟩); (simp only [putL, List.set_cons_succ, List.set_cons_zero])))))
          exact whx_ren [4, 5, 6, 11] (k + 1, tp, acc ++ [n], cnt + 1) ⟨by omega, hq, by rw [List.length_append, List.length_singleton]; omega, by show cnt + 1 ≤ (acc ++ [n]).length; rw [List.length_append, List.length_singleton]; omega⟩ (by (first | omega | (dsimp only; omega) | (simp only; omega))) rfl (by decide) (by decide) (by (simp (disch := omega) only [go_sem, lint, Nat.reduceEqDiff, List.length_map, LowO.ok hL0, LowO.rn hL0, LowO.ok hL2, LowO.rn hL2, LowO.ok hL3, LowO.rn hL3])) (by (simp (disch := omega) only [go_sem, lint, Nat.reduceEqDiff, List.length_map, LowO.ok hL0, LowO.rn hL0, LowO.ok hL2, LowO.rn hL2, LowO.ok hL3, LowO.rn hL3])) (by (simp (disch := omega) only [go_sem, lint, Nat.reduceEqDiff, List.length_map, LowO.ok hL0, LowO.rn hL0, LowO.ok hL2, LowO.rn hL2, LowO.ok hL3, LowO.rn hL3])) (fun d => by first | ((simp (disch := omega) only [go_sem, lint, Nat.reduceEqDiff, List.length_map, LowO.ok hL0, LowO.rn hL0, LowO.ok hL2, LowO.rn hL2, LowO.ok hL3, LowO.rn hL3]); done) | ((simp (disch := omega) only [go_sem, lint, Nat.reduceEqDiff, List.length_map, LowO.ok hL0, LowO.rn hL0, LowO.ok hL2, LowO.rn hL2, LowO.ok hL3, LowO.rn hL3]); rfl))
        | false =>
          have hM := sx_mayN (numR (T.getD k tok0).2.2 lo hi).1 acc b cnt A0 (some ⟨55, [.iv (.sl (fun j => .lit ((tokL T).getD j undef)) T.length 3), lt (.int .i64 ((k : Int) + 1)), lt (.int .i64 a), lt (.int .i64 0)]⟩) A2 A3 (some ⟨58, [lt (.int .i64 (T.getD k tok0).1), lt (.int .i64 (T.getD k tok0).2.1), lt (.string (ba (T.getD k tok0).2.2))]⟩) hnb hl c3
          have hA := sx_numGL T k a lo hi 0 61 [] [.optr 6 0, .optr 5 0, .optr 4 0] A0 A2 A3 (some ⟨4, [lt (.bool false)]⟩) (some ⟨31, [.osl 7 0 acc.length 1]⟩) (some ⟨104, [lt (.map (some b))]⟩) (some ⟨3, acc.map lint⟩) [A2, A3, some ⟨4, [lt (.bool false)]⟩, some ⟨31, [.osl 11 0 (acc.length + 1) 1]⟩, some ⟨104, [lt (.map (some b))]⟩, none, some ⟨58, [lt (.int .i64 (T.getD k tok0).1), lt (.int .i64 (T.getD k tok0).2.1), lt (.string (ba (T.getD k tok0).2.2))]⟩, some ⟨105, []⟩, some ⟨3, [lt (.int .i64 (numR (T.getD k tok0).2.2 lo hi).1)]⟩, some ⟨3, (acc ++ [(numR (T.getD k tok0).2.2 lo hi).1]).map lint⟩] [(b, cnt, mSet (mF false acc))] [(b, cnt, mSet (mF false (acc ++ [(numR (T.getD k tok0).2.2 lo hi).1])))] hT hlt c1 rfl (by simp) hM
          generalize (T.getD k tok0).1 = tl at *
          generalize (T.getD k tok0).2.1 = tp at *
          generalize (T.getD k tok0).2.2 = tx at *
          generalize numR tx lo hi = q at *
          obtain ⟨n, e⟩ := q
          dsimp only at *
          subst c1
          have hs1 : (n == 0) = false := by simpa using c3
          (repeat (first | (first | (with_reducible first | refine AX_block ?_ | refine AX_skip ?_ | refine AX_exit ?_ | refine AX_ret ?_ | refine AX_ift ?_ | refine AX_iff ?_ | refine AX_seq_k (fun K hK => ?_) | refine ContX.use (by assumption) ?_) | simp only [thenX, inBlockX, if_true, if_false, reduceCtorEq]) | (first | ((first | (with_reducible refine XRes_op tyOK ?_ ?_) | ((with_reducible first | refine ADF_op tyOK ?_ ?_ ?_ | refine ADX_op tyOK ?_ ?_ ?_); (focus rfl)) | (with_reducible refine ADR_alloc1 tyOK ?_ ?_) | ((with_reducible refine ADR_free1 tyOK ?_ ?_ ?_); (focus rfl)) | ((with_reducible refine ADR_free0 tyOK ?_ ?_ ?_); (focus rfl)) | ((with_reducible refine ADR_read1 tyOK ?_ ?_ ?_); (focus rfl)) | (with_reducible refine ADR_chg1 tyOK ?_ ?_)); (focus (first | (with_reducible rfl) | ((simp (disch := omega) only [go_sem]); done))); simp (disch := omega) only [go_sem , hs1, hs2, hs3, hs4, Int.toNat_natCast, Nat.reduceEqDiff, List.length_map, List.length_cons, List.length_nil]; (first | (with_reducible refine XRes_id ?_) | (with_reducible refine ADF_id ?_) | (with_reducible refine ADR_id1 ?_) | (with_reducible refine ADX_id ?_))) | ((first | (with_reducible refine XRes_skip ?_ ?_) | (with_reducible refine ADF_skip (b := true) ?_ ?_) | (with_reducible refine ADX_skip ?_ ?_) | ((with_reducible refine ADR_skip1 ?_ ?_ ?_); (focus rfl))); (focus (first | rfl | ((simp (disch := omega) only [go_sem]); done))); (simp only [putL, List.set_cons_succ, List.set_cons_zero]))) | ((first | (with_reducible refine XRes_nil ?_) | (with_reducible refine ADF_nil ?_) | (with_reducible refine ADR_nil ?_) | (with_reducible refine ADX_nil ?_)); (first | refine hK _ ?_ | refine hK _ _ ?_); clear hK K) | ((first | (with_reducible refine AX_reg0 fun K hK => ?_) | (refine AX_drawG1 tyOK (by kernel_rfl) (by rfl) (by kernel_rfl) fun K hK => ?_) | (refine AX_drawT tyOK (by kernel_rfl) (by decide +kernel) fun K hK => ?_) | (refine AX_drawM1 (by kernel_rfl) (by rfl) (by decide +kernel) fun K hK => ?_) | (refine AX_drawA tyOK (by kernel_rfl) (by decide +kernel) fun K hK => ?_)); (first | simp only [go_sem, preN, effOp, runF, alM, mapOp, alD2, kdOf2, Bool.not_false, Bool.not_true, reduceCtorEq] | simp only [go_sem, preN, effOp, runF, alM, mapOp, Bool.not_false, Bool.not_true, reduceCtorEq] | simp only [go_sem, preN, effOp, runF, alD2, kdOf2, Bool.not_false, Bool.not_true, reduceCtorEq] | simp only [go_sem, alD2, kdOf2, Bool.not_false, Bool.not_true, reduceCtorEq] | simp only [go_sem, preN, effOp, runF, Bool.not_false, Bool.not_true, reduceCtorEq] | simp only [go_sem])) | (first | ((refine XRes_fnX (by rfl) hA ?_); (rintro r H' M' ⟨rfl, ⟨Z, rfl⟩, rfl⟩); (simp only [putL, List.set_cons_succ, List.set_cons_zero])) | ((refine XRes_fnX (by rfl) hA ?_); (rintro r H' M' ⟨rfl, rfl, rfl⟩); (simp only [putL, List.set_cons_succ, List.set_cons_zero])))))
          exact whx_ren [4, 5, 6, 11] (k + 1, tp, acc ++ [n], cnt) ⟨by omega, hq, by rw [List.length_append, List.length_singleton]; omega, by show cnt ≤ (acc ++ [n]).length; rw [List.length_append, List.length_singleton]; omega⟩ (by (first | omega | (dsimp only; omega) | (simp only; omega))) rfl (by decide) (by decide) (by (simp (disch := omega) only [go_sem, lint, Nat.reduceEqDiff, List.length_map, LowO.ok hL0, LowO.rn hL0, LowO.ok hL2, LowO.rn hL2, LowO.ok hL3, LowO.rn hL3])) (by (simp (disch := omega) only [go_sem, lint, Nat.reduceEqDiff, List.length_map, LowO.ok hL0, LowO.rn hL0, LowO.ok hL2, LowO.rn hL2, LowO.ok hL3, LowO.rn hL3])) (by (simp (disch := omega) only [go_sem, lint, Nat.reduceEqDiff, List.length_map, LowO.ok hL0, LowO.rn hL0, LowO.ok hL2, LowO.rn hL2, LowO.ok hL3, LowO.rn hL3])) (fun d => by first | ((simp (disch := omega) only [go_sem, lint, Nat.reduceEqDiff, List.length_map, LowO.ok hL0, LowO.rn hL0, LowO.ok hL2, LowO.rn hL2, LowO.ok hL3, LowO.rn hL3]); done) | ((simp (disch := omega) only [go_sem, lint, Nat.reduceEqDiff, List.length_map, LowO.ok hL0, LowO.rn hL0, LowO.ok hL2, LowO.rn hL2, LowO.ok hL3, LowO.rn hL3]); rfl))
  · obtain rfl : k = T.length := by omega
    rw [List.drop_length] at hq
    have hq : Q = ([], T.length, lastEnd T, 4) := hq
    have hA := sx_numEL T a lo hi (.fn 61 [] [.optr 6 0, .optr 5 0, .optr 4 0]) A0 A2 A3 (some ⟨4, [lt (.bool once)]⟩) (some ⟨31, [.osl 7 0 acc.length 1]⟩) (some ⟨104, [lt (.map (some b))]⟩) (some ⟨3, acc.map lint⟩) [(b, cnt, mSet (mF once acc))] hT h0
    (repeat (first | (first | (with_reducible first | refine AX_block ?_ | refine AX_skip ?_ | refine AX_exit ?_ | refine AX_ret ?_ | refine AX_ift ?_ | refine AX_iff ?_ | refine AX_seq_k (fun K hK => ?_) | refine ContX.use (by assumption) ?_) | simp only [thenX, inBlockX, if_true, if_false, reduceCtorEq]) | (first | ((first | (with_reducible refine XRes_op tyOK ?_ ?_) | ((with_reducible first | refine ADF_op tyOK ?_ ?_ ?_ | refine ADX_op tyOK ?_ ?_ ?_); (focus rfl)) | (with_reducible refine ADR_alloc1 tyOK ?_ ?_) | ((with_reducible refine ADR_free1 tyOK ?_ ?_ ?_); (focus rfl)) | ((with_reducible refine ADR_free0 tyOK ?_ ?_ ?_); (focus rfl)) | ((with_reducible refine ADR_read1 tyOK ?_ ?_ ?_); (focus rfl)) | (with_reducible refine ADR_chg1 tyOK ?_ ?_)); (focus (first | (with_reducible rfl) | ((simp (disch := omega) only [go_sem]); done))); simp (disch := omega) only [go_sem , hs1, hs2, hs3, hs4, Int.toNat_natCast, Nat.reduceEqDiff, List.length_map, List.length_cons, List.length_nil]; (first | (with_reducible refine XRes_id ?_) | (with_reducible refine ADF_id ?_) | (with_reducible refine ADR_id1 ?_) | (with_reducible refine ADX_id ?_))) | ((first | (with_reducible refine XRes_skip ?_ ?_) | (with_reducible refine ADF_skip (b := true) ?_ ?_) | (with_reducible refine ADX_skip ?_ ?_) | ((with_reducible refine ADR_skip1 ?_ ?_ ?_); (focus rfl))); (focus (first | rfl | ((simp (disch := omega) only [go_sem]); done))); (simp only [putL, List.set_cons_succ, List.set_cons_zero]))) | ((first | (with_reducible refine XRes_nil ?_) | (with_reducible refine ADF_nil ?_) | (with_reducible refine ADR_nil ?_) | (with_reducible refine ADX_nil ?_)); (first | refine hK _ ?_ | refine hK _ _ ?_); clear hK K) | ((first | (with_reducible refine AX_reg0 fun K hK => ?_) | (refine AX_drawG1 tyOK (by kernel_rfl) (by rfl) (by kernel_rfl) fun K hK => ?_) | (refine AX_drawT tyOK (by kernel_rfl) (by decide +kernel) fun K hK => ?_) | (refine AX_drawM1 (by kernel_rfl) (by rfl) (by decide +kernel) fun K hK => ?_) | (refine AX_drawA tyOK (by kernel_rfl) (by decide +kernel) fun K hK => ?_)); (first | simp only [go_sem, preN, effOp, runF, alM, mapOp, alD2, kdOf2, Bool.not_false, Bool.not_true, reduceCtorEq] | simp only [go_sem, preN, effOp, runF, alM, mapOp, Bool.not_false, Bool.not_true, reduceCtorEq] | simp only [go_sem, preN, effOp, runF, alD2, kdOf2, Bool.not_false, Bool.not_true, reduceCtorEq] | simp only [go_sem, alD2, kdOf2, Bool.not_false, Bool.not_true, reduceCtorEq] | simp only [go_sem, preN, effOp, runF, Bool.not_false, Bool.not_true, reduceCtorEq] | simp only [go_sem])) | (first | ((refine XRes_fnX (by rfl) hA ?_); (rintro r H' M' ⟨rfl, ⟨Z, rfl⟩, rfl⟩); (simp only [putL, List.set_cons_succ, List.set_cons_zero])) | ((refine XRes_fnX (by rfl) hA ?_); (rintro r H' M' ⟨rfl, rfl, rfl⟩); (simp only [putL, List.set_cons_succ, List.set_cons_zero])))))
    refine lead_frz10 [7] [(27, .iv (iInts acc)), (8, .iv (iInts acc))] (fun p hp => ?_) ?_
    · simp only [List.mem_cons, List.not_mem_nil, or_false] at hp
      rcases hp with rfl | rfl <;> exact frz_ints (only_mk (by decide) rfl) rfl
    simp only [setN, updS, List.set_cons_succ, List.set_cons_zero]
    (refine lead_drop [] [0, 1, 2, 3, 4, 5, 6, 7, 9, 10, 11, 12, 13, 14, 15, 16, 17, 18, 19, 20, 21, 22, 23, 24, 25, 26, 27] [A0, some ⟨55, [.iv (.sl (fun j => .lit ((tokL T).getD j undef)) T.length 3), lt (.int .i64 (T.length : Int)), lt (.int .i64 (lastEnd T)), lt (.int .i64 4)]⟩, A2, A3] (by decide) (by decide) (by (simp (disch := omega) only [go_sem, lint, Nat.reduceEqDiff, List.length_map, LowO.ok hL0, LowO.rn hL0, LowO.ok hL2, LowO.rn hL2, LowO.ok hL3, LowO.rn hL3])) (by (simp (disch := omega) only [go_sem, lint, Nat.reduceEqDiff, List.length_map, LowO.ok hL0, LowO.rn hL0, LowO.ok hL2, LowO.rn hL2, LowO.ok hL3, LowO.rn hL3])) (by (simp (disch := omega) only [go_sem, lint, Nat.reduceEqDiff, List.length_map, LowO.ok hL0, LowO.rn hL0, LowO.ok hL2, LowO.rn hL2, LowO.ok hL3, LowO.rn hL3])) (fun d => ?_); (simp (disch := omega) only [go_sem, lint, Nat.reduceEqDiff, List.length_map, LowO.ok hL0, LowO.rn hL0, LowO.ok hL2, LowO.rn hL2, LowO.ok hL3, LowO.rn hL3]))
    (simp only [bodyXM]; refine ⟨_, by simp only [aresults, aresult, XS.as, Tryd.results43, aload, go_sem, Option.bind_some]; rfl, ?_⟩)
    exact ⟨acc, T.length, lastEnd T, 4, rfl, rfl, by rw [hq], fun h => absurd h (by decide), fun _ => by rw [hq]⟩
end Go.Proofs.YtghdacijcnmhlaaDoor
namespace Go.Proofs.YtghdacijcnmhlaaDoor
open Go.RowKit Go.Lib
set_option linter.unusedVariables false
set_option linter.unusedSimpArgs false
theorem W1966a {A B : Prop} (h9 : B) (w : B → A := by (intro h9; (repeat intro K hK); refine ⟨?_⟩; (repeat (first | (first | (with_reducible first | refine AX_block ?_ | refine AX_skip ?_ | refine AX_exit ?_ | refine AX_ret ?_ | refine AX_ift ?_ | refine AX_iff ?_ | refine AX_seq_k (fun K hK => ?_) | refine ContX.use (by assumption) ?_) | simp only [thenX, inBlockX, if_true, if_false, reduceCtorEq]) | (first | ((first | (with_reducible refine XRes_op tyOK ?_ ?_) | ((with_reducible first | refine ADF_op tyOK ?_ ?_ ?_ | refine ADX_op tyOK ?_ ?_ ?_); (focus rfl)) | (with_reducible refine ADR_alloc1 tyOK ?_ ?_) | ((with_reducible refine ADR_free1 tyOK ?_ ?_ ?_); (focus rfl)) | ((with_reducible refine ADR_free0 tyOK ?_ ?_ ?_); (focus rfl)) | ((with_reducible refine ADR_read1 tyOK ?_ ?_ ?_); (focus rfl)) | (with_reducible refine ADR_chg1 tyOK ?_ ?_)); (focus (first | (with_reducible rfl) | ((simp (disch := omega) only [go_sem]); done))); simp (disch := omega) only [go_sem , hs1, hs2, hs3, hs4, Int.toNat_natCast, Nat.reduceEqDiff, List.length_map, List.length_cons, List.length_nil]; (first | (with_reducible refine XRes_id ?_) | (with_reducible refine ADF_id ?_) | (with_reducible refine ADR_id1 ?_) | (with_reducible refine ADX_id ?_))) | ((first | (with_reducible refine XRes_skip ?_ ?_) | (with_reducible refine ADF_skip (b := true) ?_ ?_) | (with_reducible refine ADX_skip ?_ ?_) | ((with_reducible refine ADR_skip1 ?_ ?_ ?_); (focus rfl))); (focus (first | rfl | ((simp (disch := omega) only [go_sem]); done))); (simp only [putL, List.set_cons_succ, List.set_cons_zero]))) | ((first | (with_reducible refine XRes_nil ?_) | (with_reducible refine ADF_nil ?_) | (with_reducible refine ADR_nil ?_) | (with_reducible refine ADX_nil ?_)); (first | refine hK _ ?_ | refine hK _ _ ?_); clear hK K) | ((first | (with_reducible refine AX_reg0 fun K hK => ?_) | (refine AX_drawG1 tyOK (by kernel_rfl) (by rfl) (by kernel_rfl) fun K hK => ?_) | (refine AX_drawT tyOK (by kernel_rfl) (by decide +kernel) fun K hK => ?_) | (refine AX_drawM1 (by kernel_rfl) (by rfl) (by decide +kernel) fun K hK => ?_) | (refine AX_drawA tyOK (by kernel_rfl) (by decide +kernel) fun K hK => ?_)); (first | simp only [go_sem, preN, effOp, runF, alM, mapOp, alD2, kdOf2, Bool.not_false, Bool.not_true, reduceCtorEq] | simp only [go_sem, preN, effOp, runF, alM, mapOp, Bool.not_false, Bool.not_true, reduceCtorEq] | simp only [go_sem, preN, effOp, runF, alD2, kdOf2, Bool.not_false, Bool.not_true, reduceCtorEq] | simp only [go_sem, alD2, kdOf2, Bool.not_false, Bool.not_true, reduceCtorEq] | simp only [go_sem, preN, effOp, runF, Bool.not_false, Bool.not_true, reduceCtorEq] | simp only [go_sem])) | (first | ((refine XRes_fnX (by rfl) hA ?_); (rintro r H' M' ⟨rfl, ⟨Z, rfl⟩, rfl⟩); (simp only [putL, List.set_cons_succ, List.set_cons_zero])) | ((refine XRes_fnX (by rfl) hA ?_); (rintro r H' M' ⟨rfl, rfl, rfl⟩); (simp only [putL, List.set_cons_succ, List.set_cons_zero]))))); refine Wk.o ?_; (repeat revert hK K); exact h9)) : A := w h9
set_option maxRecDepth 100000 in
set_option maxHeartbeats 8000000 in
theorem sx_numbersF (tv : IV) (k a f lo hi : Int) (once : Bool) (A0 A2 A3 : Option AObj) (hL0 : LowO A0) (hL2 : LowO A2) (hL3 : LowO A3) (hf : f ≠ 0) :
    SX Tryd.prog 43 [.optr 1 0, lt (.int .i64 lo), lt (.int .i64 hi), lt (.bool once)] [A0, some ⟨55, [.iv tv, lt (.int .i64 k), lt (.int .i64 a), lt (.int .i64 f)]⟩, A2, A3] [] fun r H' M' => r = .iv (iInts []) ∧ H' = [A0, some ⟨55, [.iv tv, lt (.int .i64 k), lt (.int .i64 a), lt (.int .i64 f)]⟩, A2, A3] := by
  have hs1 := trivial; have hs2 := trivial; have hs3 := trivial; have hs4 := trivial; have hA := trivial
  (refine SX_of_bodyL (aload tt) (aload_ok tyOK) Tryd.func43 rfl (by kernel_rfl) ?_; simp only [Tryd.ntmps43, List.length_cons, List.length_nil, Nat.reduceAdd, Nat.reduceSub, List.replicate_succ, List.replicate_zero, List.cons_append, List.nil_append])
  repeat (first | (first | (with_reducible first | refine AX_block ?_ | refine AX_skip ?_ | refine AX_exit ?_ | refine AX_ret ?_ | refine AX_ift ?_ | refine AX_iff ?_ | refine AX_seq_k (fun K hK => ?_) | refine ContX.use (by assumption) ?_) | simp only [thenX, inBlockX, if_true, if_false, reduceCtorEq]) | (first | ((first | (with_reducible refine XRes_op tyOK ?_ ?_) | ((with_reducible first | refine ADF_op tyOK ?_ ?_ ?_ | refine ADX_op tyOK ?_ ?_ ?_); (focus rfl)) | (with_reducible refine ADR_alloc1 tyOK ?_ ?_) | ((with_reducible refine ADR_free1 tyOK ?_ ?_ ?_); (focus rfl)) | ((with_reducible refine ADR_free0 tyOK ?_ ?_ ?_); (focus rfl)) | ((with_reducible refine ADR_read1 tyOK ?_ ?_ ?_); (focus rfl)) | (with_reducible refine ADR_chg1 tyOK ?_ ?_)); (focus (first | (with_reducible rfl) | ((simp (disch := omega) only [go_sem]); done))); simp (disch := omega) only [go_sem , hs1, hs2, hs3, hs4, Int.toNat_natCast, Nat.reduceEqDiff, List.length_map, List.length_cons, List.length_nil]; (first | (with_reducible refine XRes_id ?_) | (with_reducible refine ADF_id ?_) | (with_reducible refine ADR_id1 ?_) | (with_reducible refine ADX_id ?_))) | ((first | (with_reducible refine XRes_skip ?_ ?_) | (with_reducible refine ADF_skip (b := true) ?_ ?_) | (with_reducible refine ADX_skip ?_ ?_) | ((with_reducible refine ADR_skip1 ?_ ?_ ?_); (focus rfl))); (focus (first | rfl | ((simp (disch := omega) only [go_sem]); done))); (simp only [putL, List.set_cons_succ, List.set_cons_zero]))) | ((first | (with_reducible refine XRes_nil ?_) | (with_reducible refine ADF_nil ?_) | (with_reducible refine ADR_nil ?_) | (with_reducible refine ADX_nil ?_)); (first | refine hK _ ?_ | refine hK _ _ ?_); clear hK K) | ((with_reducible refine AX_reg0 fun K hK => ?_); simp only [go_sem]) | ((refine XRes_makeMap rfl (fun b => ?_)); simp only [putL, List.set_cons_succ, List.set_cons_zero, mSet_upd, mSet_get, mSet_is, List.nil_append, List.cons_append]))
  refine AX_cellNew 5 3 1 0 ⟨31, [lt (.slice none 0 0)]⟩ rfl rfl ?_
  simp only [List.length_cons, List.length_nil, List.cons_append, List.nil_append, Nat.zero_add, Nat.reduceAdd, List.set_cons_succ, List.set_cons_zero]
  have hinit : ([] : List Int).map lint = [] := rfl
  (refine AX_wh (σ := Unit × Unit) [14, 15, 16, 17, 18, 19, 20, 21, 22, 23, 24, 25, 26] (fun (u, v) => []) (fun (u, v) => [A0, some ⟨55, [.iv tv, lt (.int .i64 k), lt (.int .i64 a), lt (.int .i64 f)]⟩, A2, A3, some ⟨4, [lt (.bool once)]⟩, some ⟨31, [.osl 7 0 0 1]⟩, some ⟨104, [lt (.map (some b))]⟩, some ⟨3, []⟩]) (fun (u, v) => [(b, 0, mSet fun _ => false)]) (fun (u, v) => True) (fun (u, v) => 0) ((), ()) (fun d => by first | ((simp only [deadS, updS, List.set_cons_succ, List.set_cons_zero, lint, List.length_nil, List.length_cons]); done) | ((simp only [deadS, updS, List.set_cons_succ, List.set_cons_zero, lint, List.length_nil, List.length_cons]); rfl) | rfl) (by first | (with_reducible rfl) | (simp only [hinit]; done) | rfl) (by first | (with_reducible rfl) | rfl) (by first | exact trivial) ?_; rintro ⟨u, v⟩ d fr hfr hI; simp only [updS, deadS, List.set_cons_succ, List.set_cons_zero, lint] at hfr; subst hfr; (try dsimp only))
  have hA := sx_num0L tv k a f lo hi (.fn 61 [] [.optr 6 0, .optr 5 0, .optr 4 0]) A0 A2 A3 (some ⟨4, [lt (.bool once)]⟩) (some ⟨31, [.osl 7 0 0 1]⟩) (some ⟨104, [lt (.map (some b))]⟩) (some ⟨3, []⟩) [(b, 0, mSet fun _ => false)] hf
  (refine Wk.o ?_; (repeat revert hK K); refine W1966a ?_; (repeat intro K hK); refine ⟨?_⟩)
  refine lead_frz10 [7] [(27, .iv (iInts [])), (8, .iv (iInts []))] (fun p hp => ?_) ?_
  · simp only [List.mem_cons, List.not_mem_nil, or_false] at hp
    rcases hp with rfl | rfl <;> exact frz_ints (only_mk (by decide) rfl) rfl
  simp only [setN, updS, List.set_cons_succ, List.set_cons_zero]
  (refine lead_drop [] [0, 1, 2, 3, 4, 5, 6, 7, 9, 10, 11, 12, 13, 14, 15, 16, 17, 18, 19, 20, 21, 22, 23, 24, 25, 26, 27] [A0, some ⟨55, [.iv tv, lt (.int .i64 k), lt (.int .i64 a), lt (.int .i64 f)]⟩, A2, A3] (by decide) (by decide) (by (simp (disch := omega) only [go_sem, lint, Nat.reduceEqDiff, List.length_map, LowO.ok hL0, LowO.rn hL0, LowO.ok hL2, LowO.rn hL2, LowO.ok hL3, LowO.rn hL3])) (by (simp (disch := omega) only [go_sem, lint, Nat.reduceEqDiff, List.length_map, LowO.ok hL0, LowO.rn hL0, LowO.ok hL2, LowO.rn hL2, LowO.ok hL3, LowO.rn hL3])) (by (simp (disch := omega) only [go_sem, lint, Nat.reduceEqDiff, List.length_map, LowO.ok hL0, LowO.rn hL0, LowO.ok hL2, LowO.rn hL2, LowO.ok hL3, LowO.rn hL3])) (fun d => ?_); (simp (disch := omega) only [go_sem, lint, Nat.reduceEqDiff, List.length_map, LowO.ok hL0, LowO.rn hL0, LowO.ok hL2, LowO.rn hL2, LowO.ok hL3, LowO.rn hL3]))
  (simp only [bodyXM]; refine ⟨_, by simp only [aresults, aresult, XS.as, Tryd.results43, aload, go_sem, Option.bind_some]; rfl, ?_⟩)
  exact ⟨by first | trivial | rfl, by first | trivial | rfl⟩
theorem sf_numbersF (tv : IV) (k a f lo hi : Int) (once : Bool) (A0 A2 A3 : Option AObj) (hL0 : LowO A0) (hL2 : LowO A2) (hL3 : LowO A3) (hf : f ≠ 0) :
    SF Tryd.prog 43 [.optr 1 0, lt (.int .i64 lo), lt (.int .i64 hi), lt (.bool once)] [A0, some ⟨55, [.iv tv, lt (.int .i64 k), lt (.int .i64 a), lt (.int .i64 f)]⟩, A2, A3] fun r H' => ∃ M' : MS, r = .iv (iInts []) ∧ H' = [A0, some ⟨55, [.iv tv, lt (.int .i64 k), lt (.int .i64 a), lt (.int .i64 f)]⟩, A2, A3] :=
  (sx_numbersF tv k a f lo hi once A0 A2 A3 hL0 hL2 hL3 hf).sf
set_option maxRecDepth 100000 in
set_option maxHeartbeats 8000000 in
theorem sx_step1 (n : Int) (H : AHeap) (M : MS) : SX Tryd.prog 42 [lt (.int .i64 n)] H M fun r H' M' => r = lt (.int .i64 0) ∧ H' = H ∧ M' = M := by
  have hs1 := trivial; have hs2 := trivial; have hs3 := trivial; have hs4 := trivial; have hA := trivial
  (refine SX_of_bodyL (aload tt) (aload_ok tyOK) Tryd.func42 rfl (by kernel_rfl) ?_; simp only [Tryd.ntmps42, List.length_cons, List.length_nil, Nat.reduceAdd, Nat.reduceSub, List.replicate_succ, List.replicate_zero, List.cons_append, List.nil_append])
  (refine Wk.o ?_; (repeat revert hK K); refine W1966a ?_; (repeat intro K hK); refine ⟨?_⟩)
  refine LeadX.now ?_
  (simp only [bodyXM]; refine ⟨_, by simp only [aresults, aresult, XS.as, Tryd.results42, aload, go_sem, Option.bind_some]; rfl, ?_⟩)
  exact ⟨by first | trivial | rfl, by first | trivial | rfl, by first | trivial | rfl⟩
end Go.Proofs.YtghdacijcnmhlaaDoor
