import Derived.Test.YtfpmfjmjnmjcdaaMgAR
import Derived.Test.YtfpmfjmjnmjcdaaMgBD
import Derived.Test.YtfpmfjmjnmjcdaaMgAT
import Derived.Test.YtfpmfjmjnmjcdaaMgAA
import Derived.Test.YtfpmfjmjnmjcdaaMgAB
namespace Go.Proofs.Ytfpmfjmjnmjcdaa
open Go.RowKit
set_option linter.unusedVariables false
theorem frz_ints {HD : AHeap} {o : Nat} {t : TypeId} {xs : List Int} {n : Nat} (h : HD[o]? = some (some ⟨t, xs.map lint⟩)) (hn : n = xs.length) : FrzV HD (.osl o 0 n 1) (.iv (iInts xs)) := by
  subst hn
  exact .iv _ _ (SnapC.lits (fun j => .int .i64 (xs.getD j 0)) h fun j hj => by rw [Nat.zero_add]; exact lint_at hj)
theorem frz_flat {HD : AHeap} {o n w : Nat} {t : TypeId} {ys : List Int} (h : HD[o]? = some (some ⟨t, ys.map lint⟩)) (hw : w ≠ 0) (hl : ys.length = n * w) : FrzV HD (.osl o 0 n w) (.iv (iFlat ys n w)) :=
  .iv _ _ (.osl o 0 n w _ _ (fun j => lt (.int .i64 (ys.getD j 0))) hw h (fun j hj => by rw [Nat.zero_add]; exact lint_at (by omega)) fun j _ => .iv _)
end Go.Proofs.Ytfpmfjmjnmjcdaa
namespace Go.Proofs.Ytfpmfjmjnmjcdaa
open Go.RowKit
set_option linter.unusedVariables false
set_option linter.unusedSimpArgs false
structure MkS (L lv rs : List Int) (i : Nat) (M : List Int) : Prop where
  len : M.length = i * 3
  a1 : ∀ j, j < i → M.getD (j * 3 + 1) 0 = lv.getD j 0
  a2 : ∀ j, j < i → M.getD (j * 3 + 2) 0 = rs.getD j 0
theorem app3_at {M : List Int} {a b c : Int} {i : Nat} (h : M.length = i * 3) : (∀ k, k < i * 3 → (M ++ [a, b, c]).getD k 0 = M.getD k 0) ∧ (M ++ [a, b, c]).getD (i * 3 + 1) 0 = b ∧ (M ++ [a, b, c]).getD (i * 3 + 2) 0 = c := by
  refine ⟨fun k hk => ?_, ?_, ?_⟩
  · rw [List.getD_eq_getElem?_getD, List.getElem?_append_left (by omega), List.getD_eq_getElem?_getD]
  · rw [List.getD_eq_getElem?_getD, List.getElem?_append_right (by omega), show i * 3 + 1 - M.length = 1 by omega]; rfl
  · rw [List.getD_eq_getElem?_getD, List.getElem?_append_right (by omega), show i * 3 + 2 - M.length = 2 by omega]; rfl
theorem MkS.snoc {L lv rs M : List Int} {i : Nat} (h : MkS L lv rs i M) (x : Int) : MkS L lv rs (i + 1) (M ++ [x, lv.getD i 0, rs.getD i 0]) := by
  obtain ⟨e1, e2, e3⟩ := app3_at (a := x) (b := lv.getD i 0) (c := rs.getD i 0) h.len
  refine ⟨by rw [List.length_append, h.len]; show i * 3 + 3 = _; omega, fun j hj => ?_, fun j hj => ?_⟩
  · rcases Nat.lt_or_ge j i with hlt | hge
    · rw [e1 _ (by omega)]; exact h.a1 j hlt
    · rw [show j = i by omega]; exact e2
  · rcases Nat.lt_or_ge j i with hlt | hge
    · rw [e1 _ (by omega)]; exact h.a2 j hlt
    · rw [show j = i by omega]; exact e3
theorem W4419a {A B : Prop} (h9 : B) (w : B → A := by (intro h9; (repeat intro K hK); refine ⟨?_⟩; (repeat (first | (first | (with_reducible first | refine AX_block ?_ | refine AX_skip ?_ | refine AX_exit ?_ | refine AX_ret ?_ | refine AX_ift ?_ | refine AX_iff ?_ | refine AX_seq_k (fun K hK => ?_) | refine ContX.use (by assumption) ?_) | simp only [thenX, inBlockX, if_true, if_false, reduceCtorEq]) | (first | ((first | (with_reducible refine XRes_op tyOK ?_ ?_) | ((with_reducible first | refine ADF_op tyOK ?_ ?_ ?_ | refine ADX_op tyOK ?_ ?_ ?_); (focus rfl)) | (with_reducible refine ADR_alloc1 tyOK ?_ ?_) | ((with_reducible refine ADR_free1 tyOK ?_ ?_ ?_); (focus rfl)) | ((with_reducible refine ADR_free0 tyOK ?_ ?_ ?_); (focus rfl)) | ((with_reducible refine ADR_read1 tyOK ?_ ?_ ?_); (focus rfl)) | (with_reducible refine ADR_chg1 tyOK ?_ ?_)); (focus (first | (with_reducible rfl) | ((simp (disch := omega) only [go_sem]); done))); simp (disch := omega) only [go_sem , Nat.reduceLeDiff, List.length_set, hs1, hs2, hs3, hs4, hs5, hs6, hs7, Int.toNat_zero, Int.toNat_one, List.length_nil]; (first | (with_reducible refine XRes_id ?_) | (with_reducible refine ADF_id ?_) | (with_reducible refine ADR_id1 ?_) | (with_reducible refine ADX_id ?_))) | ((first | (with_reducible refine XRes_skip ?_ ?_) | (with_reducible refine ADF_skip (b := true) ?_ ?_) | (with_reducible refine ADX_skip ?_ ?_) | ((with_reducible refine ADR_skip1 ?_ ?_ ?_); (focus rfl))); (focus (first | rfl | ((simp (disch := omega) only [go_sem]); done))); (simp only [putL, List.set_cons_succ, List.set_cons_zero]))) | ((first | (with_reducible refine XRes_nil ?_) | (with_reducible refine ADF_nil ?_) | (with_reducible refine ADR_nil ?_) | (with_reducible refine ADX_nil ?_)); (first | refine hK _ ?_ | refine hK _ _ ?_); clear hK K) | ((first | (with_reducible refine AX_reg0 fun K hK => ?_) | (refine AX_drawG1 tyOK (by kernel_rfl) (by rfl) (by kernel_rfl) fun K hK => ?_) | (refine AX_drawT tyOK (by kernel_rfl) (by decide +kernel) fun K hK => ?_) | (refine AX_drawM1 (by kernel_rfl) (by rfl) (by decide +kernel) fun K hK => ?_) | (refine AX_drawA tyOK (by kernel_rfl) (by decide +kernel) fun K hK => ?_)); (first | simp only [go_sem, preN, effOp, runF, alM, mapOp, alD2, kdOf2, Bool.not_false, Bool.not_true, reduceCtorEq] | simp only [go_sem, preN, effOp, runF, alM, mapOp, Bool.not_false, Bool.not_true, reduceCtorEq] | simp only [go_sem, preN, effOp, runF, alD2, kdOf2, Bool.not_false, Bool.not_true, reduceCtorEq] | simp only [go_sem, alD2, kdOf2, Bool.not_false, Bool.not_true, reduceCtorEq] | simp only [go_sem, preN, effOp, runF, Bool.not_false, Bool.not_true, reduceCtorEq] | simp only [go_sem])) | (first | (first | refine XTL (by rfl) hC ?_ | refine ATL tyOK (by rfl) hC ?_ | refine XTL (by rfl) hAw ?_ | refine ATL tyOK (by rfl) hAw ?_ | refine XTL (by rfl) hChk ?_ | refine ATL tyOK (by rfl) hChk ?_) | ((refine XRes_fn (by rfl) hNo ?_); (rintro r H' ⟨rfl, rfl⟩); (simp only [putL, List.set_cons_succ, List.set_cons_zero])) | ((refine ADF_reads tyOK (by rfl) (by rfl) (fun H2 hs => qA H2 (TrAt.sub ⟨rfl, rfl, rfl, rfl, rfl⟩ hs)) ?_); (simp only [putL, List.set_cons_succ, List.set_cons_zero])) | ((refine ADF_reads tyOK (by rfl) (by rfl) (fun H2 hs => qB H2 (TrAt.sub ⟨rfl, rfl, rfl, rfl, rfl⟩ hs)) ?_); (simp only [putL, List.set_cons_succ, List.set_cons_zero])) | ((refine ADF_reads tyOK (by rfl) (by rfl) (fun H2 hs => qC H2 (TrAt.sub ⟨rfl, rfl, rfl, rfl, rfl⟩ hs)) ?_); (simp only [putL, List.set_cons_succ, List.set_cons_zero])) | ((refine ADF_reads tyOK (by rfl) (by rfl) (fun H2 hs => qD H2 (TrAt.sub ⟨rfl, rfl, rfl, rfl, rfl⟩ hs)) ?_); (simp only [putL, List.set_cons_succ, List.set_cons_zero])) | ((refine ADF_reads tyOK (by rfl) (by rfl) (fun H2 hs => qE H2 (TrAt.sub ⟨rfl, rfl, rfl, rfl, rfl⟩ hs)) ?_); (simp only [putL, List.set_cons_succ, List.set_cons_zero])) | ((refine ADF_reads tyOK (by rfl) (by rfl) (fun H2 hs => qF H2 (TrAt.sub ⟨rfl, rfl, rfl, rfl, rfl⟩ hs)) ?_); (simp only [putL, List.set_cons_succ, List.set_cons_zero])) | ((refine XRes_fn (by rfl) (qA _ ⟨rfl, rfl, rfl, rfl, rfl⟩) ?_); (rintro r H' ⟨rfl, rfl⟩); (simp only [putL, List.set_cons_succ, List.set_cons_zero])) | ((refine XRes_fn (by rfl) (qD _ ⟨rfl, rfl, rfl, rfl, rfl⟩) ?_); (rintro r H' ⟨rfl, rfl⟩); (simp only [putL, List.set_cons_succ, List.set_cons_zero]))))); refine Wk.o ?_; (repeat revert hK K); exact h9)) : A := w h9
theorem W4419b {A B : Prop} (h9 : B) (w : B → A := by (intro h9; (repeat intro K hK); refine ⟨?_⟩; (repeat (first | (first | ((first | (with_reducible refine XRes_op tyOK ?_ ?_) | ((with_reducible first | refine ADF_op tyOK ?_ ?_ ?_ | refine ADX_op tyOK ?_ ?_ ?_); (focus rfl)) | (with_reducible refine ADR_alloc1 tyOK ?_ ?_) | ((with_reducible refine ADR_free1 tyOK ?_ ?_ ?_); (focus rfl)) | ((with_reducible refine ADR_free0 tyOK ?_ ?_ ?_); (focus rfl)) | ((with_reducible refine ADR_read1 tyOK ?_ ?_ ?_); (focus rfl)) | (with_reducible refine ADR_chg1 tyOK ?_ ?_)); (focus (first | (with_reducible rfl) | ((simp (disch := omega) only [go_sem]); done))); simp (disch := omega) only [go_sem , Nat.reduceLeDiff, List.length_set, hs1, hs2, hs3, hs4, hs5, hs6, hs7, Int.toNat_zero, Int.toNat_one, List.length_nil]; (first | (with_reducible refine XRes_id ?_) | (with_reducible refine ADF_id ?_) | (with_reducible refine ADR_id1 ?_) | (with_reducible refine ADX_id ?_))) | ((first | (with_reducible refine XRes_skip ?_ ?_) | (with_reducible refine ADF_skip (b := true) ?_ ?_) | (with_reducible refine ADX_skip ?_ ?_) | ((with_reducible refine ADR_skip1 ?_ ?_ ?_); (focus rfl))); (focus (first | rfl | ((simp (disch := omega) only [go_sem]); done))); (simp only [putL, List.set_cons_succ, List.set_cons_zero]))) | ((first | (with_reducible refine XRes_nil ?_) | (with_reducible refine ADF_nil ?_) | (with_reducible refine ADR_nil ?_) | (with_reducible refine ADX_nil ?_)); (first | refine hK _ ?_ | refine hK _ _ ?_); clear hK K))); refine Wk.o ?_; (repeat revert hK K); exact h9)) : A := w h9
theorem W4419c {A B : Prop} (h9 : B) (w : B → A := by (intro h9; (repeat intro K hK); refine ⟨?_⟩; (repeat (first | (first | (with_reducible first | refine AX_block ?_ | refine AX_skip ?_ | refine AX_exit ?_ | refine AX_ret ?_ | refine AX_ift ?_ | refine AX_iff ?_ | refine AX_seq_k (fun K hK => ?_) | refine ContX.use (by assumption) ?_) | simp only [thenX, inBlockX, if_true, if_false, reduceCtorEq]) | (first | ((first | (with_reducible refine XRes_op tyOK ?_ ?_) | ((with_reducible first | refine ADF_op tyOK ?_ ?_ ?_ | refine ADX_op tyOK ?_ ?_ ?_); (focus rfl)) | (with_reducible refine ADR_alloc1 tyOK ?_ ?_) | ((with_reducible refine ADR_free1 tyOK ?_ ?_ ?_); (focus rfl)) | ((with_reducible refine ADR_free0 tyOK ?_ ?_ ?_); (focus rfl)) | ((with_reducible refine ADR_read1 tyOK ?_ ?_ ?_); (focus rfl)) | (with_reducible refine ADR_chg1 tyOK ?_ ?_)); (focus (first | (with_reducible rfl) | ((simp (disch := omega) only [go_sem]); done))); simp (disch := omega) only [go_sem , Nat.reduceLeDiff, List.length_set, hs1, hs2, hs3, hs4, hs5, hs6, hs7, Int.toNat_zero, Int.toNat_one, List.length_nil]; (first | (with_reducible refine XRes_id ?_) | (with_reducible refine ADF_id ?_) | (with_reducible refine ADR_id1 ?_) | (with_reducible refine ADX_id ?_))) | ((first | (with_reducible refine XRes_skip ?_ ?_) | (with_reducible refine ADF_skip (b := true) ?_ ?_) | (with_reducible refine ADX_skip ?_ ?_) | ((with_reducible refine ADR_skip1 ?_ ?_ ?_); (focus rfl))); (focus (first | rfl | ((simp (disch := omega) only [go_sem]); done))); (simp only [putL, List.set_cons_succ, List.set_cons_zero]))) | ((first | (with_reducible refine XRes_nil ?_) | (with_reducible refine ADF_nil ?_) | (with_reducible refine ADR_nil ?_) | (with_reducible refine ADX_nil ?_)); (first | refine hK _ ?_ | refine hK _ _ ?_); clear hK K) | ((with_reducible refine AX_reg0 fun K hK => ?_); simp only [go_sem]) | (first | (first | refine XTL (by rfl) hC ?_ | refine ATL tyOK (by rfl) hC ?_ | refine XTL (by rfl) hAw ?_ | refine ATL tyOK (by rfl) hAw ?_ | refine XTL (by rfl) hChk ?_ | refine ATL tyOK (by rfl) hChk ?_) | ((refine XRes_fn (by rfl) hNo ?_); (rintro r H' ⟨rfl, rfl⟩); (simp only [putL, List.set_cons_succ, List.set_cons_zero])) | ((refine ADF_reads tyOK (by rfl) (by rfl) (fun H2 hs => qA H2 (TrAt.sub ⟨rfl, rfl, rfl, rfl, rfl⟩ hs)) ?_); (simp only [putL, List.set_cons_succ, List.set_cons_zero])) | ((refine ADF_reads tyOK (by rfl) (by rfl) (fun H2 hs => qB H2 (TrAt.sub ⟨rfl, rfl, rfl, rfl, rfl⟩ hs)) ?_); (simp only [putL, List.set_cons_succ, List.set_cons_zero])) | ((refine ADF_reads tyOK (by rfl) (by rfl) (fun H2 hs => qC H2 (TrAt.sub ⟨rfl, rfl, rfl, rfl, rfl⟩ hs)) ?_); (simp only [putL, List.set_cons_succ, List.set_cons_zero])) | ((refine ADF_reads tyOK (by rfl) (by rfl) (fun H2 hs => qD H2 (TrAt.sub ⟨rfl, rfl, rfl, rfl, rfl⟩ hs)) ?_); (simp only [putL, List.set_cons_succ, List.set_cons_zero])) | ((refine ADF_reads tyOK (by rfl) (by rfl) (fun H2 hs => qE H2 (TrAt.sub ⟨rfl, rfl, rfl, rfl, rfl⟩ hs)) ?_); (simp only [putL, List.set_cons_succ, List.set_cons_zero])) | ((refine ADF_reads tyOK (by rfl) (by rfl) (fun H2 hs => qF H2 (TrAt.sub ⟨rfl, rfl, rfl, rfl, rfl⟩ hs)) ?_); (simp only [putL, List.set_cons_succ, List.set_cons_zero])) | ((refine XRes_fn (by rfl) (qA _ ⟨rfl, rfl, rfl, rfl, rfl⟩) ?_); (rintro r H' ⟨rfl, rfl⟩); (simp only [putL, List.set_cons_succ, List.set_cons_zero])) | ((refine XRes_fn (by rfl) (qD _ ⟨rfl, rfl, rfl, rfl, rfl⟩) ?_); (rintro r H' ⟨rfl, rfl⟩); (simp only [putL, List.set_cons_succ, List.set_cons_zero]))))); refine Wk.o ?_; (repeat revert hK K); exact h9)) : A := w h9
set_option maxRecDepth 100000 in
set_option maxHeartbeats 40000000 in
theorem pf_TrailBack (vars : Int) (us : List Int) (N : Nat) (lev : Int) (hv : -9223372036854775808 ≤ vars ∧ vars ≤ 9223372036854775807) (hll : -9223372036854775808 ≤ lev ∧ lev ≤ 9223372036854775807) (hN : N ≤ 9223372036854775807) (hu : us.length = N * 3) : PF Try.prog 4 [lt (.int .i64 vars), .iv (iFlat us N 3), lt (.int .i64 lev)] fun r H' => r = lt (.bool true) ∧ H' = [] := by
  refine SF.forgetAll ?_
  have hs1 := trivial; have hs2 := trivial; have hs3 := trivial; have hs4 := trivial; have hs5 := trivial; have hs6 := trivial; have hs7 := trivial
  have hC := trivial; have hNo := trivial; have hChk := trivial
  have hAw := pf_awake13
  by_cases hv0 : vars < 0 ∨ 100000 < vars
  · have hC := pf_tNewNo vars hv0
    by_cases hN1 : 80 < N
    · (refine SF_of_bodyX (aload tt) (aload_ok tyOK) Try.func4 rfl (by kernel_rfl) ?_; simp only [Try.ntmps4, List.length_cons, List.length_nil, Nat.reduceAdd, Nat.reduceSub, List.replicate_succ, List.replicate_zero, List.cons_append, List.nil_append])
      unfold iFlat
      (refine Wk.o ?_; (repeat revert hK K); refine W4419a ?_; (repeat intro K hK); refine ⟨?_⟩)
      (simp only [bodyX]; refine ⟨_, by simp only [aresults, aresult, XS.as, Try.results4, aload, go_sem, Option.bind_some]; rfl, ?_⟩)
      exact ⟨.iv _, rfl, trivial⟩
    · (refine SF_of_bodyX (aload tt) (aload_ok tyOK) Try.func4 rfl (by kernel_rfl) ?_; simp only [Try.ntmps4, List.length_cons, List.length_nil, Nat.reduceAdd, Nat.reduceSub, List.replicate_succ, List.replicate_zero, List.cons_append, List.nil_append])
      unfold iFlat
      (refine Wk.o ?_; (repeat revert hK K); refine W4419a ?_; (repeat intro K hK); refine ⟨?_⟩)
      (simp only [bodyX]; refine ⟨_, by simp only [aresults, aresult, XS.as, Try.results4, aload, go_sem, Option.bind_some]; rfl, ?_⟩)
      exact ⟨.iv _, rfl, trivial⟩
  obtain ⟨n, rfl⟩ : ∃ n : Nat, vars = n := ⟨vars.toNat, by omega⟩
  have hNw := pf_tNew n (by omega)
  by_cases hN1 : 80 < N
  · (refine SF_of_bodyX (aload tt) (aload_ok tyOK) Try.func4 rfl (by kernel_rfl) ?_; simp only [Try.ntmps4, List.length_cons, List.length_nil, Nat.reduceAdd, Nat.reduceSub, List.replicate_succ, List.replicate_zero, List.cons_append, List.nil_append])
    unfold iFlat
    (refine Wk.o ?_; (repeat revert hK K); refine W4419a ?_; (repeat intro K hK); refine ⟨?_⟩)
    refine XRes_fn (by rfl) hNw ?_
    rintro r H' ⟨rfl, Of0, Vl0, rfl, hT0⟩
    (simp only [putL, List.set_cons_succ, List.set_cons_zero])
    (refine Wk.o ?_; (repeat revert hK K); refine W4419a ?_; (repeat intro K hK); refine ⟨?_⟩)
    (simp only [bodyX]; refine ⟨_, by simp only [aresults, aresult, XS.as, Try.results4, aload, go_sem, Option.bind_some]; rfl, ?_⟩)
    exact ⟨.iv _, rfl, trivial⟩
  (refine SF_of_bodyX (aload tt) (aload_ok tyOK) Try.func4 rfl (by kernel_rfl) ?_; simp only [Try.ntmps4, List.length_cons, List.length_nil, Nat.reduceAdd, Nat.reduceSub, List.replicate_succ, List.replicate_zero, List.cons_append, List.nil_append])
  unfold iFlat
  (refine Wk.o ?_; (repeat revert hK K); refine W4419a ?_; (repeat intro K hK); refine ⟨?_⟩)
  refine XRes_fn (by rfl) hNw ?_
  rintro r H' ⟨rfl, Of0, Vl0, rfl, hT0⟩
  (simp only [putL, List.set_cons_succ, List.set_cons_zero])
  (refine Wk.o ?_; (repeat revert hK K); refine W4419a ?_; (repeat intro K hK); refine ⟨?_⟩)
  refine AX_wh (σ := Nat × List Int × List Int × List Int × List Int × List Int × List Int × List Int) [36, 37, 38, 39, 42, 43, 44, 45, 46, 47, 48, 49, 50, 51, 52, 6, 40, 41] (fun (i, _, _, _, _, _, _, _) => [(9, lint i)]) (fun (i, L, St, Of, Vl, lv, rs, E) => [some ⟨73, Of.map lint⟩, some ⟨70, Vl.map l8⟩, some ⟨57, [.osl 3 0 L.length 1, .osl 4 0 St.length 1, .osl 0 0 (n + 1) 3, .osl 1 0 Vl.length 1, lt (.bool true)]⟩, some ⟨3, L.map lint⟩, some ⟨3, St.map lint⟩]) (fun _ => []) (fun (i, L, St, Of, Vl, lv, rs, E) => i ≤ N ∧ L.length ≤ i ∧ St.length ≤ i ∧ TrS n L St Of Vl lv rs ∧ EnS E L lv rs) (fun (i, _) => N - i) (0, [], [], Of0, Vl0, [], [], []) (fun d => by first | ((simp only [deadS, updS, List.set_cons_succ, List.set_cons_zero, lint, List.length_nil, List.length_cons]); done) | ((simp only [deadS, updS, List.set_cons_succ, List.set_cons_zero, lint, List.length_nil, List.length_cons]); rfl) | rfl) rfl rfl ⟨Nat.zero_le _, Nat.le_refl _, Nat.le_refl _, hT0, en_nil⟩ ?_
  rintro ⟨i, L, St, Of, Vl, lv, rs, E⟩ d fr hfr ⟨hi, hLi, hSi, hT, hE⟩
  simp only [updS, deadS, List.set_cons_succ, List.set_cons_zero, lint] at hfr
  subst hfr
  (try dsimp only)
  by_cases hlt : i < N
  · obtain ⟨L1, St1, lv1, rs1, E1, e, O, _, hE1, hL1, hS1, hO1, hDo⟩ := step13u hT hE (by omega) (by omega) (us.getD (i * 3) 0) (us.getD (i * 3 + 1) 0) (us.getD (i * 3 + 2) 0)
    (refine Wk.o ?_; (repeat revert hK K); refine W4419a ?_; (repeat intro K hK); refine ⟨?_⟩)
    refine XRes_fn (by rfl) hDo ?_
    rintro r H' ⟨Of1, Vl1, hTT, hX⟩
    have qA := fun (H2 : AHeap) (h : TrAt n H2 3 4 L1 St1 Of1 Vl1) => pf_tLitsF h hTT (by omega)
    have hChk := pf_r03Chk hTT.n1 (by omega) hTT.rng hTT.inj
    unfold iInts at qA hChk
    rcases hX with ⟨rfl, rfl, rfl | ⟨a, b, rfl⟩ | ⟨b, rfl⟩ | rfl⟩ | ⟨rfl, rfl⟩
    · unfold hT13
      (simp only [putL, List.set_cons_succ, List.set_cons_zero])
      (refine Wk.o ?_; (repeat revert hK K); refine W4419b ?_; (repeat intro K hK); refine ⟨?_⟩)
      (repeat (first | (with_reducible first | refine AX_block ?_ | refine AX_skip ?_ | refine AX_exit ?_ | refine AX_ret ?_ | refine AX_ift ?_ | refine AX_iff ?_ | refine AX_seq_k (fun K hK => ?_) | refine ContX.use (by assumption) ?_) | simp only [thenX, inBlockX, if_true, if_false, reduceCtorEq]))
      refine AX_ren [0, 1, 2, 3, 4] [47] ?fra0 (hT13 n L1 St1 Of1 Vl1) (by decide) (by decide) (by (simp (disch := omega) only [go_sem, lint])) (by (simp (disch := omega) only [go_sem, lint])) (by (simp (disch := omega) only [go_sem, lint]); rfl) ?hfra0 (fun d2 => ?_)
      case hfra0 => (simp (disch := omega) only [go_sem, lint]); rfl
      simp only [deadS, List.set_cons_succ, List.set_cons_zero]
      unfold hT13
      (refine Wk.o ?_; (repeat revert hK K); refine W4419a ?_; (repeat intro K hK); refine ⟨?_⟩)
      exact WRN [0, 1, 2, 3, 4] (i + 1, L1, St1, Of1, Vl1, lv1, rs1, E1) ⟨by (first | omega | (dsimp only; omega) | (simp only; omega)), by (first | omega | (dsimp only; omega) | (simp only; omega)), by (first | omega | (dsimp only; omega) | (simp only; omega)), hTT, hE1⟩ (by (first | omega | (dsimp only; omega) | (simp only; omega)))
    · unfold hD13
      (simp only [putL, List.set_cons_succ, List.set_cons_zero])
      (refine Wk.o ?_; (repeat revert hK K); refine W4419b ?_; (repeat intro K hK); refine ⟨?_⟩)
      (repeat (first | (with_reducible first | refine AX_block ?_ | refine AX_skip ?_ | refine AX_exit ?_ | refine AX_ret ?_ | refine AX_ift ?_ | refine AX_iff ?_ | refine AX_seq_k (fun K hK => ?_) | refine ContX.use (by assumption) ?_) | simp only [thenX, inBlockX, if_true, if_false, reduceCtorEq]))
      refine AX_ren [0, 1, 2, 8, 6] [47] ?fra (hT13 n L1 St1 Of1 Vl1) (by decide) (by decide) (by (simp (disch := omega) only [go_sem, lint])) (by (simp (disch := omega) only [go_sem, lint])) (by (simp (disch := omega) only [go_sem, lint]); rfl) ?hfra (fun d2 => ?_)
      case hfra => (simp (disch := omega) only [go_sem, lint]); rfl
      simp only [deadS, List.set_cons_succ, List.set_cons_zero]
      unfold hT13
      (refine Wk.o ?_; (repeat revert hK K); refine W4419a ?_; (repeat intro K hK); refine ⟨?_⟩)
      exact WRN [0, 1, 2, 3, 4] (i + 1, L1, St1, Of1, Vl1, lv1, rs1, E1) ⟨by (first | omega | (dsimp only; omega) | (simp only; omega)), by (first | omega | (dsimp only; omega) | (simp only; omega)), by (first | omega | (dsimp only; omega) | (simp only; omega)), hTT, hE1⟩ (by (first | omega | (dsimp only; omega) | (simp only; omega)))
    · unfold hI13
      (simp only [putL, List.set_cons_succ, List.set_cons_zero])
      (refine Wk.o ?_; (repeat revert hK K); refine W4419b ?_; (repeat intro K hK); refine ⟨?_⟩)
      (repeat (first | (with_reducible first | refine AX_block ?_ | refine AX_skip ?_ | refine AX_exit ?_ | refine AX_ret ?_ | refine AX_ift ?_ | refine AX_iff ?_ | refine AX_seq_k (fun K hK => ?_) | refine ContX.use (by assumption) ?_) | simp only [thenX, inBlockX, if_true, if_false, reduceCtorEq]))
      refine AX_ren [0, 1, 2, 6, 4] [47] ?frb (hT13 n L1 St1 Of1 Vl1) (by decide) (by decide) (by (simp (disch := omega) only [go_sem, lint])) (by (simp (disch := omega) only [go_sem, lint])) (by (simp (disch := omega) only [go_sem, lint]); rfl) ?hfrb (fun d2 => ?_)
      case hfrb => (simp (disch := omega) only [go_sem, lint]); rfl
      simp only [deadS, List.set_cons_succ, List.set_cons_zero]
      unfold hT13
      (refine Wk.o ?_; (repeat revert hK K); refine W4419a ?_; (repeat intro K hK); refine ⟨?_⟩)
      exact WRN [0, 1, 2, 3, 4] (i + 1, L1, St1, Of1, Vl1, lv1, rs1, E1) ⟨by (first | omega | (dsimp only; omega) | (simp only; omega)), by (first | omega | (dsimp only; omega) | (simp only; omega)), by (first | omega | (dsimp only; omega) | (simp only; omega)), hTT, hE1⟩ (by (first | omega | (dsimp only; omega) | (simp only; omega)))
    · unfold hT13
      simp only [List.cons_append, List.nil_append]
      (simp only [putL, List.set_cons_succ, List.set_cons_zero])
      (refine Wk.o ?_; (repeat revert hK K); refine W4419b ?_; (repeat intro K hK); refine ⟨?_⟩)
      (repeat (first | (with_reducible first | refine AX_block ?_ | refine AX_skip ?_ | refine AX_exit ?_ | refine AX_ret ?_ | refine AX_ift ?_ | refine AX_iff ?_ | refine AX_seq_k (fun K hK => ?_) | refine ContX.use (by assumption) ?_) | simp only [thenX, inBlockX, if_true, if_false, reduceCtorEq]))
      refine AX_ren [0, 1, 2, 3, 4] [47] ?frc (hT13 n L1 St1 Of1 Vl1) (by decide) (by decide) (by (simp (disch := omega) only [go_sem, lint])) (by (simp (disch := omega) only [go_sem, lint])) (by (simp (disch := omega) only [go_sem, lint]); rfl) ?hfrc (fun d2 => ?_)
      case hfrc => (simp (disch := omega) only [go_sem, lint]); rfl
      simp only [deadS, List.set_cons_succ, List.set_cons_zero]
      unfold hT13
      (refine Wk.o ?_; (repeat revert hK K); refine W4419a ?_; (repeat intro K hK); refine ⟨?_⟩)
      exact WRN [0, 1, 2, 3, 4] (i + 1, L1, St1, Of1, Vl1, lv1, rs1, E1) ⟨by (first | omega | (dsimp only; omega) | (simp only; omega)), by (first | omega | (dsimp only; omega) | (simp only; omega)), by (first | omega | (dsimp only; omega) | (simp only; omega)), hTT, hE1⟩ (by (first | omega | (dsimp only; omega) | (simp only; omega)))
    · unfold hB13
      (simp only [putL, List.set_cons_succ, List.set_cons_zero])
      (refine Wk.o ?_; (repeat revert hK K); refine W4419b ?_; (repeat intro K hK); refine ⟨?_⟩)
      (repeat (first | (with_reducible first | refine AX_block ?_ | refine AX_skip ?_ | refine AX_exit ?_ | refine AX_ret ?_ | refine AX_ift ?_ | refine AX_iff ?_ | refine AX_seq_k (fun K hK => ?_) | refine ContX.use (by assumption) ?_) | simp only [thenX, inBlockX, if_true, if_false, reduceCtorEq]))
      refine AX_ren [0, 1, 2, 3, 4] [47] ?fre (hT13 n L1 St1 Of1 Vl1) (by decide) (by decide) (by (simp (disch := omega) only [go_sem, lint])) (by (simp (disch := omega) only [go_sem, lint])) (by (simp (disch := omega) only [go_sem, lint]); rfl) ?hfre (fun d2 => ?_)
      case hfre => (simp (disch := omega) only [go_sem, lint]); rfl
      simp only [deadS, List.set_cons_succ, List.set_cons_zero]
      unfold hT13
      (refine Wk.o ?_; (repeat revert hK K); refine W4419a ?_; (repeat intro K hK); refine ⟨?_⟩)
      exact WRN [0, 1, 2, 3, 4] (i + 1, L1, St1, Of1, Vl1, lv1, rs1, E1) ⟨by (first | omega | (dsimp only; omega) | (simp only; omega)), by (first | omega | (dsimp only; omega) | (simp only; omega)), by (first | omega | (dsimp only; omega) | (simp only; omega)), hTT, hE1⟩ (by (first | omega | (dsimp only; omega) | (simp only; omega)))
  · obtain rfl : i = N := by omega
    have qA := fun (H2 : AHeap) (h : TrAt n H2 3 4 L St Of Vl) => pf_tLitsF h hT (by omega)
    have hn := hT.n1
    unfold iInts at qA
    (refine Wk.o ?_; (repeat revert hK K); refine W4419a ?_; (repeat intro K hK); refine ⟨?_⟩)
    refine AX_nil 11 49 3 rfl ?_
    simp only [List.set_cons_succ, List.set_cons_zero, List.length_cons, List.length_nil, List.cons_append, List.nil_append, Nat.zero_add, Nat.reduceAdd]
    have hkl := bkP_le hT lev
    have hkf := fun (j : Nat) (h : j < L.length) => bkP_iff hT lev h
    have hBk := pf_BackAll hT (by omega) (by omega) lev
    have hgone := fun (i : Nat) (h : i < L.length) (hk : bkP L St lev ≤ i) => tv_gone hT h hk
    generalize bkP L St lev = k at *
    have hlev : max lev 0 = ((bkL lev : Nat) : Int) := by unfold bkL; omega
    generalize bkL lev = bl at *
    refine AX_wh (σ := Nat × Nat × List Int) [55, 56, 57, 58, 61, 62, 63, 64, 65, 66, 67, 68, 69, 70, 14, 71, 72, 73, 74, 75, 76, 77, 78, 79, 80, 81, 82, 83, 84, 85, 86, 87, 88, 89, 90, 91, 92, 93, 94, 95, 96, 97, 98, 99, 100, 101, 102, 103, 104, 105, 106, 107, 108, 109, 110, 6, 111, 112, 113, 114, 115, 116, 117, 118, 119, 120, 59, 60] (fun (j, s, M) => [(13, lint j), (11, .osl 5 0 j 3), (12, lint s)]) (fun (j, s, M) => [some ⟨73, Of.map lint⟩, some ⟨70, Vl.map l8⟩, some ⟨57, [.osl 3 0 L.length 1, .osl 4 0 St.length 1, .osl 0 0 (n + 1) 3, .osl 1 0 Vl.length 1, lt (.bool true)]⟩, some ⟨3, L.map lint⟩, some ⟨3, St.map lint⟩, some ⟨49, M.map lint⟩]) (fun _ => []) (fun (j, s, M) => j ≤ L.length ∧ s = min j k ∧ MkS L lv rs j M) (fun (j, _) => L.length - j) (0, 0, []) (fun d => by first | ((simp only [deadS, updS, List.set_cons_succ, List.set_cons_zero, lint, List.length_nil, List.length_cons]); done) | ((simp only [deadS, updS, List.set_cons_succ, List.set_cons_zero, lint, List.length_nil, List.length_cons]); rfl) | rfl) rfl rfl ⟨Nat.zero_le _, by omega, rfl, fun j h => by omega, fun j h => by omega⟩ ?_
    rintro ⟨j, s, M⟩ d2 fr hfr ⟨hj, hs, hM⟩
    simp only [updS, deadS, List.set_cons_succ, List.set_cons_zero, lint] at hfr
    subst hfr
    (try dsimp only)
    by_cases hlt2 : j < L.length
    · have hr := hT.rng j hlt2
      have hs1 := lmax hr.1
      have hs2 := hlev
      have hlb := lvar_bd (L.getD j 0)
      have hof := tr_of hT j (lvar (L.getD j 0)) hlt2 rfl (by omega) hr.2 (tv_lvar hlt2 hr.1)
      have qB := fun (H2 : AHeap) (h : TrAt n H2 3 4 L St Of Vl) => pf_tLevel h hT (lvar (L.getD j 0))
      have qC := fun (H2 : AHeap) (h : TrAt n H2 3 4 L St Of Vl) => pf_tReason h hT (lvar (L.getD j 0))
      have qD := fun (H2 : AHeap) (h : TrAt n H2 3 4 L St Of Vl) => pf_tDepth h hT (by omega)
      rw [hof.1] at qB
      rw [hof.2.1] at qC
      have hMn := hM.snoc (L.getD j 0)
      have hlvb := hT.lvb j hlt2
      have hkj := hkf j hlt2
      obtain ⟨e1, e2, e3⟩ := app3_at (a := L.getD j 0) (b := lv.getD j 0) (c := rs.getD j 0) hM.len
      have hMl := hM.len
      (refine Wk.o ?_; (repeat revert hK K); refine W4419c ?_; (repeat intro K hK); refine ⟨?_⟩)
      (refine AX_drawG1 tyOK (by kernel_rfl) (by rfl) (by kernel_rfl) fun K hK => ?_); simp only [go_sem]
      (refine Wk.o ?_; (repeat revert hK K); refine W4419c ?_; (repeat intro K hK); refine ⟨?_⟩)
      refine AX_drawU tyOK (by kernel_rfl) (by decide +kernel) fun K hK => ?_
      simp only [go_sem, alU, kdU, List.map_cons, List.map_nil]
      repeat (first | (first | ((first | (with_reducible refine XRes_op tyOK ?_ ?_) | ((with_reducible first | refine ADF_op tyOK ?_ ?_ ?_ | refine ADX_op tyOK ?_ ?_ ?_); (focus rfl)) | (with_reducible refine ADR_alloc1 tyOK ?_ ?_) | ((with_reducible refine ADR_free1 tyOK ?_ ?_ ?_); (focus rfl)) | ((with_reducible refine ADR_free0 tyOK ?_ ?_ ?_); (focus rfl)) | ((with_reducible refine ADR_read1 tyOK ?_ ?_ ?_); (focus rfl)) | (with_reducible refine ADR_chg1 tyOK ?_ ?_)); (focus (first | (with_reducible rfl) | ((simp (disch := omega) only [go_sem]); done))); simp (disch := omega) only [go_sem , Nat.reduceLeDiff, List.length_set, hs1, hs2, hs3, hs4, hs5, hs6, hs7, Int.toNat_zero, Int.toNat_one, List.length_nil]; (first | (with_reducible refine XRes_id ?_) | (with_reducible refine ADF_id ?_) | (with_reducible refine ADR_id1 ?_) | (with_reducible refine ADX_id ?_))) | ((first | (with_reducible refine XRes_skip ?_ ?_) | (with_reducible refine ADF_skip (b := true) ?_ ?_) | (with_reducible refine ADX_skip ?_ ?_) | ((with_reducible refine ADR_skip1 ?_ ?_ ?_); (focus rfl))); (focus (first | rfl | ((simp (disch := omega) only [go_sem]); done))); (simp only [putL, List.set_cons_succ, List.set_cons_zero]))) | ((first | (with_reducible refine XRes_nil ?_) | (with_reducible refine ADF_nil ?_) | (with_reducible refine ADR_nil ?_) | (with_reducible refine ADX_nil ?_)); (first | refine hK _ ?_ | refine hK _ _ ?_); clear hK K) | (first | ((refine ADR_readsR (by rfl) (by rfl) (fun H2 hs => qB H2 (TrAt.sub ⟨rfl, rfl, rfl, rfl, rfl⟩ hs)) ?_); (simp only [putL, List.set_cons_succ, List.set_cons_zero])) | ((refine ADR_readsR (by rfl) (by rfl) (fun H2 hs => qC H2 (TrAt.sub ⟨rfl, rfl, rfl, rfl, rfl⟩ hs)) ?_); (simp only [putL, List.set_cons_succ, List.set_cons_zero]))))
      refine ADR_grow1 tyOK (x := .osl 6 0 1 3) (new := [some ⟨49, [lt (.int .i64 (L.getD j 0)), lt (.int .i64 (lv.getD j 0)), lt (.int .i64 (rs.getD j 0))]⟩]) (by rfl) (fun H1 hl1 => ?_) ?_
      · simp (disch := omega) only [go_sem , Nat.reduceLeDiff, List.length_set, hs1, hs2, hs3, hs4, hs5, hs6, hs7, Int.toNat_zero, Int.toNat_one, List.length_nil]
        rw [hl1]; rfl
      (simp only [putL, List.set_cons_succ, List.set_cons_zero])
      simp only [List.cons_append, List.nil_append]
      repeat (first | (first | ((first | (with_reducible refine XRes_op tyOK ?_ ?_) | ((with_reducible first | refine ADF_op tyOK ?_ ?_ ?_ | refine ADX_op tyOK ?_ ?_ ?_); (focus rfl)) | (with_reducible refine ADR_alloc1 tyOK ?_ ?_) | ((with_reducible refine ADR_free1 tyOK ?_ ?_ ?_); (focus rfl)) | ((with_reducible refine ADR_free0 tyOK ?_ ?_ ?_); (focus rfl)) | ((with_reducible refine ADR_read1 tyOK ?_ ?_ ?_); (focus rfl)) | (with_reducible refine ADR_chg1 tyOK ?_ ?_)); (focus (first | (with_reducible rfl) | ((simp (disch := omega) only [go_sem]); done))); simp (disch := omega) only [go_sem , Nat.reduceLeDiff, List.length_set, hs1, hs2, hs3, hs4, hs5, hs6, hs7, Int.toNat_zero, Int.toNat_one, List.length_nil]; (first | (with_reducible refine XRes_id ?_) | (with_reducible refine ADF_id ?_) | (with_reducible refine ADR_id1 ?_) | (with_reducible refine ADX_id ?_))) | ((first | (with_reducible refine XRes_skip ?_ ?_) | (with_reducible refine ADF_skip (b := true) ?_ ?_) | (with_reducible refine ADX_skip ?_ ?_) | ((with_reducible refine ADR_skip1 ?_ ?_ ?_); (focus rfl))); (focus (first | rfl | ((simp (disch := omega) only [go_sem]); done))); (simp only [putL, List.set_cons_succ, List.set_cons_zero]))) | ((first | (with_reducible refine XRes_nil ?_) | (with_reducible refine ADF_nil ?_) | (with_reducible refine ADR_nil ?_) | (with_reducible refine ADX_nil ?_)); (first | refine hK _ ?_ | refine hK _ _ ?_); clear hK K))
      generalize hM1 : M ++ [L.getD j 0, lv.getD j 0, rs.getD j 0] = M1 at *
      have hM1l := hMn.len
      rcases j with _ | j
      · have hs3 : M1.getD 1 0 = lv.getD 0 0 := hMn.a1 0 (by omega)
        generalize lv.getD 0 0 = l0 at *
        by_cases hjk : 0 < k
        · have hle := hkj.2 hjk
          (refine Wk.o ?_; (repeat revert hK K); refine W4419a ?_; (repeat intro K hK); refine ⟨?_⟩)
          exact WRN [0, 1, 2, 3, 4, 7] (1, s + 1, M1) ⟨by (first | omega | (dsimp only; omega) | (simp only; omega)), by (first | omega | (dsimp only; omega) | (simp only; omega)), hMn⟩ (by (first | omega | (dsimp only; omega) | (simp only; omega)))
        · have hle : ¬ l0 ≤ (bl : Int) := fun h => hjk (hkj.1 h)
          (refine Wk.o ?_; (repeat revert hK K); refine W4419a ?_; (repeat intro K hK); refine ⟨?_⟩)
          exact WRN [0, 1, 2, 3, 4, 7] (1, s, M1) ⟨by (first | omega | (dsimp only; omega) | (simp only; omega)), by (first | omega | (dsimp only; omega) | (simp only; omega)), hMn⟩ (by (first | omega | (dsimp only; omega) | (simp only; omega)))
      · have hs3 := hMn.a1 (j + 1) (by omega)
        have hs4 := hMn.a1 j (by omega)
        have hs5 : ((j + 1 : Nat) : Int) - 1 = (j : Int) := by omega
        have hmo := lv_mono hT hlt2
        generalize lv.getD (j + 1) 0 = l1 at *
        generalize lv.getD j 0 = l0 at *
        by_cases hjk : j + 1 < k
        · have hle := hkj.2 hjk
          (refine Wk.o ?_; (repeat revert hK K); refine W4419a ?_; (repeat intro K hK); refine ⟨?_⟩)
          exact WRN [0, 1, 2, 3, 4, 7] (j + 1 + 1, s + 1, M1) ⟨by (first | omega | (dsimp only; omega) | (simp only; omega)), by (first | omega | (dsimp only; omega) | (simp only; omega)), hMn⟩ (by (first | omega | (dsimp only; omega) | (simp only; omega)))
        · have hle : ¬ l1 ≤ (bl : Int) := fun h => hjk (hkj.1 h)
          (refine Wk.o ?_; (repeat revert hK K); refine W4419a ?_; (repeat intro K hK); refine ⟨?_⟩)
          exact WRN [0, 1, 2, 3, 4, 7] (j + 1 + 1, s, M1) ⟨by (first | omega | (dsimp only; omega) | (simp only; omega)), by (first | omega | (dsimp only; omega) | (simp only; omega)), hMn⟩ (by (first | omega | (dsimp only; omega) | (simp only; omega)))
    · obtain rfl : j = L.length := by omega
      have hMl := hM.len
      obtain rfl : s = k := by omega
      have hs2 := hlev
      have hMa1 := hM.a1
      have hMa2 := hM.a2
      (refine Wk.o ?_; (repeat revert hK K); refine W4419a ?_; (repeat intro K hK); refine ⟨?_⟩)
      refine XRes_freeze [5] [(11, .iv (iFlat M L.length 3))] (fun p hp => ?_) ?_
      · rw [List.mem_singleton.1 hp]; exact frz_flat (only_mk (by decide) rfl) (by decide) hMl
      simp only [setN, updS, List.set_cons_succ, List.set_cons_zero]
      refine XRes_ren [0, 1, 2, 3, 4] [] ?frm [some ⟨73, Of.map lint⟩, some ⟨70, Vl.map l8⟩, some ⟨57, [.osl 3 0 L.length 1, .osl 4 0 St.length 1, .osl 0 0 (n + 1) 3, .osl 1 0 Vl.length 1, lt (.bool true)]⟩, some ⟨3, L.map lint⟩, some ⟨3, St.map lint⟩] (by decide) (by decide) (by (simp (disch := omega) only [go_sem, lint])) (by (simp (disch := omega) only [go_sem, lint])) (by (simp (disch := omega) only [go_sem, lint])) ?hfrm (fun d3 => ?_)
      case hfrm => (simp (disch := omega) only [go_sem, lint]); rfl
      simp only [deadS]
      unfold iFlat
      refine XRes_fn (by rfl) hBk ?_
      rintro r H' ⟨V, St1, hT2, hd1, hd2, hX⟩
      have hO1 : ∀ j, s ≤ j → j < L.length → ((L.drop s).reverse).getD (L.length - 1 - j) 0 = L.getD j 0 := fun j h1 h2 => by
        rw [List.getD_eq_getElem?_getD, List.getElem?_reverse (by rw [List.length_drop]; omega), List.length_drop, List.getElem?_drop, List.getD_eq_getElem?_getD]
        congr 2; omega
      have hO2 : ((L.drop s).reverse).length = L.length - s := by rw [List.length_reverse, List.length_drop]
      have hL1 : (L.take s).length = s := by rw [List.length_take]; omega
      have hL2 : ∀ j, j < s → (L.take s).getD j 0 = L.getD j 0 := fun j h => take_at h
      have hl2 : ∀ j, j < s → (lv.take s).getD j 0 = lv.getD j 0 := fun j h => take_at h
      have hr2 : ∀ j, j < s → (rs.take s).getD j 0 = rs.getD j 0 := fun j h => take_at h
      generalize (L.drop s).reverse = O at *
      generalize L.take s = L2 at *
      generalize lv.take s = lv2 at *
      generalize rs.take s = rs2 at *
      rcases hX with ⟨rfl, hO, rfl⟩ | ⟨rfl, rfl⟩
      · unfold hT13
        simp only [List.cons_append, List.nil_append]
        (simp only [putL, List.set_cons_succ, List.set_cons_zero])
        (refine Wk.o ?_; (repeat revert hK K); refine W4419b ?_; (repeat intro K hK); refine ⟨?_⟩)
        (repeat (first | (with_reducible first | refine AX_block ?_ | refine AX_skip ?_ | refine AX_exit ?_ | refine AX_ret ?_ | refine AX_ift ?_ | refine AX_iff ?_ | refine AX_seq_k (fun K hK => ?_) | refine ContX.use (by assumption) ?_) | simp only [thenX, inBlockX, if_true, if_false, reduceCtorEq]))
        refine AX_nil 15 3 1 rfl ?_
        simp only [List.set_cons_succ, List.set_cons_zero, List.length_cons, List.length_nil, List.cons_append, List.nil_append, Nat.zero_add, Nat.reduceAdd]
        refine AX_freeze [6] [(15, .iv (iInts O))] (fun p hp => ?_) ?_
        · rw [List.mem_singleton.1 hp, hO]; exact frz_ints (xs := []) (only_mk (by decide) rfl) rfl
        simp only [setN, updS, List.set_cons_succ, List.set_cons_zero]
        refine AX_ren [0, 1, 2, 3, 4] [] ?frn (hT13 n L2 St1 Of V) (by decide) (by decide) (by (simp (disch := omega) only [go_sem, lint])) (by (simp (disch := omega) only [go_sem, lint])) (by (simp (disch := omega) only [go_sem, lint]); rfl) ?hfrn (fun d3 => ?_)
        case hfrn => (simp (disch := omega) only [go_sem, lint]); rfl
        simp only [deadS]
        unfold hT13 iInts
        have qA := fun (H2 : AHeap) (h : TrAt n H2 3 4 L2 St1 Of V) => pf_tLitsF h hT2 (by omega)
        have qD := fun (H2 : AHeap) (h : TrAt n H2 3 4 L2 St1 Of V) => pf_tDepth h hT2 (by omega)
        unfold iInts at qA
        (refine Wk.o ?_; (repeat revert hK K); refine W4419a ?_; (repeat intro K hK); refine ⟨?_⟩)
        refine AX_wh (σ := Nat) [146, 147, 148, 149, 152, 153, 154, 155, 156, 157, 158, 159, 160, 161, 18, 162, 163, 164, 165, 166, 167, 168, 169, 170, 171, 172, 173, 174, 175, 176, 177, 178, 179, 180, 181, 182, 183, 184, 185, 186, 187, 188, 189, 190, 191, 192, 193, 194, 195, 196, 197, 198, 199, 200, 201, 202, 203, 204, 6, 205, 206, 207, 208, 209, 210, 211, 212, 213, 214, 215, 216, 217, 218, 219, 220, 221, 222, 223, 224, 225, 226, 227, 228, 150, 151] (fun j => [(17, lint j)]) (fun _ => [some ⟨73, Of.map lint⟩, some ⟨70, V.map l8⟩, some ⟨57, [.osl 3 0 L2.length 1, .osl 4 0 St1.length 1, .osl 0 0 (n + 1) 3, .osl 1 0 V.length 1, lt (.bool true)]⟩, some ⟨3, L2.map lint⟩, some ⟨3, St1.map lint⟩]) (fun _ => []) (fun j => j ≤ L.length) (fun j => L.length - j) 0 (fun d => by first | ((simp only [deadS, updS, List.set_cons_succ, List.set_cons_zero, lint, List.length_nil, List.length_cons]); done) | ((simp only [deadS, updS, List.set_cons_succ, List.set_cons_zero, lint, List.length_nil, List.length_cons]); rfl) | rfl) rfl rfl (Nat.zero_le _) ?_
        rintro j d4 fr hfr hj
        simp only [updS, deadS, List.set_cons_succ, List.set_cons_zero, lint] at hfr
        subst hfr
        (try dsimp only)
        by_cases hlt2 : j < L.length
        · have hr := hT.rng j hlt2
          have hs1 := lmax hr.1
          have hlb := lvar_bd (L.getD j 0)
          have hb1 := hMa1 j hlt2
          have hb2 := hMa2 j hlt2
          by_cases hjs : j < s
          · have hs3 := hL2 j hjs
            have hof := tr_of hT2 j (lvar (L.getD j 0)) (by omega) (by rw [hs3]) (by omega) hr.2 (by rw [← hs3]; exact tv_lvar (by omega) (by rw [hs3]; exact hr.1))
            have qB := fun (H2 : AHeap) (h : TrAt n H2 3 4 L2 St1 Of V) => pf_tLevel h hT2 (lvar (L.getD j 0))
            have qC := fun (H2 : AHeap) (h : TrAt n H2 3 4 L2 St1 Of V) => pf_tReason h hT2 (lvar (L.getD j 0))
            have qE := fun (H2 : AHeap) (h : TrAt n H2 3 4 L2 St1 Of V) => pf_tPlace h hT2 (lvar (L.getD j 0))
            rw [hof.1, hl2 j hjs, ← hb1] at qB
            rw [hof.2.1, hr2 j hjs, ← hb2] at qC
            rw [hof.2.2] at qE
            (refine Wk.o ?_; (repeat revert hK K); refine W4419a ?_; (repeat intro K hK); refine ⟨?_⟩)
            exact WEND (j + 1) (show j + 1 ≤ L.length by omega) (by (first | omega | (dsimp only; omega) | (simp only; omega)))
          · have hs3 := hO1 j (by omega) hlt2
            have qF := fun (H2 : AHeap) (h : TrAt n H2 3 4 L2 St1 Of V) => pf_tValue h hT2 (lvar (L.getD j 0))
            rw [hgone j hlt2 (by omega)] at qF
            have hs4 : ((((L.length : Int) - 1) - (j : Int)).toNat) = L.length - 1 - j := by omega
            (refine Wk.o ?_; (repeat revert hK K); refine W4419a ?_; (repeat intro K hK); refine ⟨?_⟩)
            exact WEND (j + 1) (show j + 1 ≤ L.length by omega) (by (first | omega | (dsimp only; omega) | (simp only; omega)))
        · obtain rfl : j = L.length := by omega
          (refine Wk.o ?_; (repeat revert hK K); refine W4419a ?_; (repeat intro K hK); refine ⟨?_⟩)
          (simp only [bodyX]; refine ⟨_, by simp only [aresults, aresult, XS.as, Try.results4, aload, go_sem, Option.bind_some]; rfl, ?_⟩)
          exact ⟨.iv _, rfl, trivial⟩
      · unfold hB13
        (simp only [putL, List.set_cons_succ, List.set_cons_zero])
        (refine Wk.o ?_; (repeat revert hK K); refine W4419b ?_; (repeat intro K hK); refine ⟨?_⟩)
        (repeat (first | (with_reducible first | refine AX_block ?_ | refine AX_skip ?_ | refine AX_exit ?_ | refine AX_ret ?_ | refine AX_ift ?_ | refine AX_iff ?_ | refine AX_seq_k (fun K hK => ?_) | refine ContX.use (by assumption) ?_) | simp only [thenX, inBlockX, if_true, if_false, reduceCtorEq]))
        refine AX_freeze [6] [(15, .iv (iInts O))] (fun p hp => ?_) ?_
        · rw [List.mem_singleton.1 hp]; exact frz_ints (only_mk (by decide) rfl) rfl
        simp only [setN, updS, List.set_cons_succ, List.set_cons_zero]
        refine AX_ren [0, 1, 2, 3, 4] [123] ?fro (hT13 n L2 St1 Of V) (by decide) (by decide) (by (simp (disch := omega) only [go_sem, lint])) (by (simp (disch := omega) only [go_sem, lint])) (by (simp (disch := omega) only [go_sem, lint]); rfl) ?hfro (fun d3 => ?_)
        case hfro => (simp (disch := omega) only [go_sem, lint]); rfl
        simp only [deadS, List.set_cons_succ, List.set_cons_zero]
        unfold hT13 iInts
        have qA := fun (H2 : AHeap) (h : TrAt n H2 3 4 L2 St1 Of V) => pf_tLitsF h hT2 (by omega)
        have qD := fun (H2 : AHeap) (h : TrAt n H2 3 4 L2 St1 Of V) => pf_tDepth h hT2 (by omega)
        unfold iInts at qA
        (refine Wk.o ?_; (repeat revert hK K); refine W4419a ?_; (repeat intro K hK); refine ⟨?_⟩)
        refine AX_wh (σ := Nat) [146, 147, 148, 149, 152, 153, 154, 155, 156, 157, 158, 159, 160, 161, 18, 162, 163, 164, 165, 166, 167, 168, 169, 170, 171, 172, 173, 174, 175, 176, 177, 178, 179, 180, 181, 182, 183, 184, 185, 186, 187, 188, 189, 190, 191, 192, 193, 194, 195, 196, 197, 198, 199, 200, 201, 202, 203, 204, 6, 205, 206, 207, 208, 209, 210, 211, 212, 213, 214, 215, 216, 217, 218, 219, 220, 221, 222, 223, 224, 225, 226, 227, 228, 150, 151] (fun j => [(17, lint j)]) (fun _ => [some ⟨73, Of.map lint⟩, some ⟨70, V.map l8⟩, some ⟨57, [.osl 3 0 L2.length 1, .osl 4 0 St1.length 1, .osl 0 0 (n + 1) 3, .osl 1 0 V.length 1, lt (.bool true)]⟩, some ⟨3, L2.map lint⟩, some ⟨3, St1.map lint⟩]) (fun _ => []) (fun j => j ≤ L.length) (fun j => L.length - j) 0 (fun d => by first | ((simp only [deadS, updS, List.set_cons_succ, List.set_cons_zero, lint, List.length_nil, List.length_cons]); done) | ((simp only [deadS, updS, List.set_cons_succ, List.set_cons_zero, lint, List.length_nil, List.length_cons]); rfl) | rfl) rfl rfl (Nat.zero_le _) ?_
        rintro j d4 fr hfr hj
        simp only [updS, deadS, List.set_cons_succ, List.set_cons_zero, lint] at hfr
        subst hfr
        (try dsimp only)
        by_cases hlt2 : j < L.length
        · have hr := hT.rng j hlt2
          have hs1 := lmax hr.1
          have hlb := lvar_bd (L.getD j 0)
          have hb1 := hMa1 j hlt2
          have hb2 := hMa2 j hlt2
          by_cases hjs : j < s
          · have hs3 := hL2 j hjs
            have hof := tr_of hT2 j (lvar (L.getD j 0)) (by omega) (by rw [hs3]) (by omega) hr.2 (by rw [← hs3]; exact tv_lvar (by omega) (by rw [hs3]; exact hr.1))
            have qB := fun (H2 : AHeap) (h : TrAt n H2 3 4 L2 St1 Of V) => pf_tLevel h hT2 (lvar (L.getD j 0))
            have qC := fun (H2 : AHeap) (h : TrAt n H2 3 4 L2 St1 Of V) => pf_tReason h hT2 (lvar (L.getD j 0))
            have qE := fun (H2 : AHeap) (h : TrAt n H2 3 4 L2 St1 Of V) => pf_tPlace h hT2 (lvar (L.getD j 0))
            rw [hof.1, hl2 j hjs, ← hb1] at qB
            rw [hof.2.1, hr2 j hjs, ← hb2] at qC
            rw [hof.2.2] at qE
            (refine Wk.o ?_; (repeat revert hK K); refine W4419a ?_; (repeat intro K hK); refine ⟨?_⟩)
            exact WEND (j + 1) (show j + 1 ≤ L.length by omega) (by (first | omega | (dsimp only; omega) | (simp only; omega)))
          · have hs3 := hO1 j (by omega) hlt2
            have qF := fun (H2 : AHeap) (h : TrAt n H2 3 4 L2 St1 Of V) => pf_tValue h hT2 (lvar (L.getD j 0))
            rw [hgone j hlt2 (by omega)] at qF
            have hs4 : ((((L.length : Int) - 1) - (j : Int)).toNat) = L.length - 1 - j := by omega
            (refine Wk.o ?_; (repeat revert hK K); refine W4419a ?_; (repeat intro K hK); refine ⟨?_⟩)
            exact WEND (j + 1) (show j + 1 ≤ L.length by omega) (by (first | omega | (dsimp only; omega) | (simp only; omega)))
        · obtain rfl : j = L.length := by omega
          (refine Wk.o ?_; (repeat revert hK K); refine W4419a ?_; (repeat intro K hK); refine ⟨?_⟩)
          (simp only [bodyX]; refine ⟨_, by simp only [aresults, aresult, XS.as, Try.results4, aload, go_sem, Option.bind_some]; rfl, ?_⟩)
          exact ⟨.iv _, rfl, trivial⟩
end Go.Proofs.Ytfpmfjmjnmjcdaa
namespace Go.Proofs.Ytfpmfjmjnmjcdaa
open Go.RowKit
set_option linter.unusedVariables false
theorem wf_i13b {x : Int} (h : (Lit.int .i64 x).wf = true) : -9223372036854775808 ≤ x ∧ x ≤ 9223372036854775807 := bounds_i64 h
theorem trailBack_walk (w : World) (x : Int) (wx : (Lit.int .i64 x).wf = true) (a : Option Addr) (len cap : Nat) (hs : StructRow w 3 a len cap) (y : Int) (wy : (Lit.int .i64 y).wf = true) :
    Calls Try.prog 4 #[.int .i64 x, .slice a len cap, .int .i64 y] w fun e w' => e = .returned (.bool true) ∧ Below w.heap.size w w' := by
  obtain ⟨us, h1, h2, h3⟩ := hs.flat (by decide)
  have b1 := hs.2.1; have c1 := hs.1
  unfold maxLen at b1
  exact law_of (SF.mono (pf_TrailBack x us len y (wf_i13b wx) (wf_i13b wy) (by omega) h1) fun r H' h => h.1) w _ (RL.three (.iv _ _ (.lit _)) (.iv _ _ h3) (.iv _ _ (.lit _)))
end Go.Proofs.Ytfpmfjmjnmjcdaa
