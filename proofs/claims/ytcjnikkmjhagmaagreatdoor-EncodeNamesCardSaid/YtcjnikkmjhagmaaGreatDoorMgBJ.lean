import Derived.Test.YtcjnikkmjhagmaaGreatDoorMgBI
import Derived.Test.YtcjnikkmjhagmaaGreatDoorMgAQ
import Derived.Test.YtcjnikkmjhagmaaGreatDoorMgBH
namespace Go.Proofs.YtcjnikkmjhagmaaGreatDoor
open Go.RowKit
set_option linter.unusedVariables false
set_option linter.unusedSimpArgs false
theorem take_snoc {α : Type} {xs : List α} {k : Nat} (d : α) (h : k < xs.length) : xs.take (k + 1) = xs.take k ++ [xs.getD k d] := by
  rw [List.take_add_one, List.getD_eq_getElem?_getD, List.getElem?_eq_getElem h]; rfl
theorem Wc894a {A B : Prop} (h9 : B) (w : B → A := by (intro h9; (repeat intro K hK); refine ⟨?_⟩; (repeat (first | (first | (with_reducible first | refine AX_block ?_ | refine AX_skip ?_ | refine AX_exit ?_ | refine AX_ret ?_ | refine AX_ift ?_ | refine AX_iff ?_ | refine AX_seq_k (fun K hK => ?_) | refine ContX.use (by assumption) ?_) | simp only [thenX, inBlockX, if_true, if_false, reduceCtorEq]) | (first | ((with_reducible refine XOP tyOK ?_); simp (disch := omega) only [go_sem , range_rowsU, iInts, iRows, iRows3, hs1, hs2, hs3, rows_one, rows_take, List.length_nil]; (with_reducible refine XRes_id ?_)) | (with_reducible refine XSK ?_)) | ((with_reducible refine XRes_nil ?_); refine hK _ ?_; clear hK K) | ((with_reducible refine AX_reg0 fun K hK => ?_); simp only [go_sem]) | (first | (first | refine XTL (by rfl) hC ?_)))); refine Wk.o ?_; (repeat revert hK K); exact h9)) : A := w h9
set_option maxRecDepth 100000 in
set_option maxHeartbeats 4000000 in
theorem pf_Concat (L : List (List (List Int))) (hn : L.length ≤ 1000) (hL : ∀ k, (L.getD k []).length ≤ 100000000) (hr : ∀ k j, ((L.getD k []).getD j []).length ≤ 1000000) : PF Tryz.prog 18 [.iv (iRows3 L)] fun r H' => r = .iv (iRows L.flatten) ∧ H' = [] := by
  refine SF.frozen ?_
  have hs1 := trivial; have hs2 := trivial; have hs3 := trivial; have hC := trivial
  (refine SF_of_bodyX (aload tt) (aload_ok tyOK) Tryz.func18 rfl (by kernel_rfl) ?_; simp only [Tryz.ntmps18, List.length_cons, List.length_nil, Nat.reduceAdd, Nat.reduceSub, List.replicate_succ, List.replicate_zero, List.cons_append, List.nil_append])
  unfold iRows3
  (refine Wk.o ?_; (repeat revert hK K); refine Wc894a ?_; (repeat intro K hK); refine ⟨?_⟩)
  refine AX_nil 3 57 1 rfl ?_
  (refine AWH (σ := Nat × List (List Int)) [11, 12, 13, 5, 14, 15, 16, 17, 18, 19, 7, 20, 21, 22, 23, 24, 25, 26] (fun (k, R) => [(10, lint k), (3, .osl 0 0 R.length 1)]) (fun (k, R) => [some ⟨57, R.map rowA⟩]) (fun (k, R) => []) (fun (k, R) => k ≤ L.length ∧ R = (L.take k).flatten ∧ R.length ≤ 100000000 * k) (fun (k, R) => L.length - k) (0, []) (by first | exact ⟨Nat.zero_le _, by simp, Nat.le_refl _⟩) ?_; rintro ⟨k, R⟩ d fr hfr ⟨hk, hR, hRl⟩; simp only [updS, deadS, List.set_cons_succ, List.set_cons_zero, lint] at hfr; subst hfr; (try dsimp only))
  by_cases hlt : k < L.length
  · have hP := hL k
    have hP2 := hr k
    have hts := take_snoc [] hlt
    (refine Wk.o ?_; (repeat revert hK K); refine Wc894a ?_; (repeat intro K hK); refine ⟨?_⟩)
    (refine AWH (σ := Nat × List (List Int)) [17, 18, 19, 7, 20, 21, 22, 23, 24, 25] (fun (j, R1) => [(16, lint j), (3, .osl 0 0 R1.length 1)]) (fun (j, R1) => [some ⟨57, R1.map rowA⟩]) (fun (j, R1) => []) (fun (j, R1) => j ≤ (L.getD k []).length ∧ R1 = R ++ (L.getD k []).take j ∧ R1.length ≤ R.length + j) (fun (j, R1) => (L.getD k []).length - j) (0, R) (by first | exact ⟨Nat.zero_le _, by simp, Nat.le_refl _⟩) ?_; rintro ⟨j, R1⟩ d fr hfr ⟨hj, hR1, hR1l⟩; simp only [updS, deadS, List.set_cons_succ, List.set_cons_zero, lint] at hfr; subst hfr; (try dsimp only))
    by_cases hlj : j < (L.getD k []).length
    · have hC := pf_Clone ((L.getD k []).getD j []) (hP2 j)
      have hts2 := take_snoc [] hlj
      (refine Wk.o ?_; (repeat revert hK K); refine Wc894a ?_; (repeat intro K hK); refine ⟨?_⟩)
      obtain ⟨R3, hR3⟩ : ∃ R3, R3 = R1 ++ [(L.getD k []).getD j []] := ⟨_, rfl⟩
      have hlen : R3.length = R1.length + 1 := by rw [hR3, List.length_append]; rfl
      refine xs_set (P := WhX _ _ _ _ _ _ _ _ _) 2 57 _ (R3.map rowA) rfl ?_ ?_
      · rw [hR3, List.map_append]; rfl
      simp only [List.set_cons_succ, List.set_cons_zero]
      exact whx_ren [2] (j + 1, R3) ⟨by omega, by rw [hR3, hR1, hts2, List.append_assoc], by show R3.length ≤ _; omega⟩ (by (first | omega | (dsimp only; omega) | (simp only; omega))) rfl (by decide) (by decide) (by (simp (disch := omega) only [go_sem, lint, rows_rn, rows_id, rows_one])) (by (simp (disch := omega) only [go_sem, lint, rows_rn, rows_id, rows_one])) (by (simp (disch := omega) only [go_sem, lint, rows_rn, rows_id, rows_one])) (fun d => by simp (disch := omega) only [go_sem, lint, rows_rn, rows_id, rows_one, hlen])
    · obtain rfl : j = (L.getD k []).length := by omega
      (refine Wk.o ?_; (repeat revert hK K); refine Wc894a ?_; (repeat intro K hK); refine ⟨?_⟩)
      exact whx_ren [0] (k + 1, R1) ⟨by omega, by rw [hR1, hR, hts, List.take_length]; simp, by show R1.length ≤ _; omega⟩ (by (first | omega | (dsimp only; omega) | (simp only; omega))) rfl (by decide) (by decide) (by (simp (disch := omega) only [go_sem, lint, rows_rn, rows_id, rows_one])) (by (simp (disch := omega) only [go_sem, lint, rows_rn, rows_id, rows_one])) (by (simp (disch := omega) only [go_sem, lint, rows_rn, rows_id, rows_one])) (fun d => by (simp (disch := omega) only [go_sem, lint, rows_rn, rows_id, rows_one]))
  · obtain rfl : k = L.length := by omega
    (refine Wk.o ?_; (repeat revert hK K); refine Wc894a ?_; (repeat intro K hK); refine ⟨?_⟩)
    (simp only [bodyX]; refine ⟨_, by simp only [aresults, aresult, XS.as, Tryz.results18, aload, go_sem, Option.bind_some]; rfl, ?_⟩)
    exact ⟨_, snap_rws rfl rfl, by rw [hR, List.take_length], trivial⟩
end Go.Proofs.YtcjnikkmjhagmaaGreatDoor
namespace Go.Proofs.YtcjnikkmjhagmaaGreatDoor
open Go.RowKit
set_option linter.unusedVariables false
set_option linter.unusedSimpArgs false
abbrev w1 : Op5 := ⟨1, 0, 0, 1, 0⟩
abbrev w2 : Op5 := ⟨1, 0, 2, 3, 0⟩
abbrev w3 : Op5 := ⟨2, 0, 4, -1, -1⟩
end Go.Proofs.YtcjnikkmjhagmaaGreatDoor
namespace Go.Proofs.YtcjnikkmjhagmaaGreatDoor
open Go.RowKit
set_option linter.unusedVariables false
set_option linter.unusedSimpArgs false
structure ClLen (o : Ob) (l : List Op5) : Prop where
  pl : ((plCl (mN o l) (mS o l)).length : Int) = qP (mN o l) (mS o l)
  st : ((stL (mN o l) (mS o l) o.I).length : Int) = qS (mN o l) (mS o l)
  tm : (tmL (mN o l) (mS o l) (oPairL l l.length) (prN l)).length ≤ 100000000
  mv : (mRes o l).length ≤ 100000000
  all : ((plCl (mN o l) (mS o l)).length : Int) + (tmL (mN o l) (mS o l) (oPairL l l.length) (prN l)).length + (stL (mN o l) (mS o l) o.I).length + (mRes o l).length = cAll (mN o l) (mS o l) l
  no : ¬ nOk (mN o l) (mS o l) → cAll (mN o l) (mS o l) l = 0
theorem pairs_even (l : List Op5) : ∀ k, ∃ z, (oPairL l k).length = z * 2
  | 0 => ⟨0, by simp [oPairL]⟩
  | k + 1 => by
    obtain ⟨n, h1, h2⟩ := oPair_len l k l.length
    obtain ⟨z, hz⟩ := pairs_even l k
    exact ⟨z + n, by rw [oPairL_succ, List.length_append, h2, hz]; omega⟩
set_option maxRecDepth 100000 in
set_option maxHeartbeats 1000000 in
theorem pf_few (o : Ob) : PF Tryz.prog 7 [obA o] fun r H' => r = lt (.bool (decide ((o.R.length : Int) ≤ 300))) ∧ H' = [] := by
  refine SF.forgetAll ?_
  (refine SF_of_bodyX (aload tt) (aload_ok tyOK) Tryz.func7 rfl (by kernel_rfl) ?_; simp only [Tryz.ntmps7, List.length_cons, List.length_nil, Nat.reduceAdd, Nat.reduceSub, List.replicate_succ, List.replicate_zero, List.cons_append, List.nil_append])
  have hs1 := trivial; have hs2 := trivial; have hs3 := trivial
  repeat (first | (first | (with_reducible first | refine AX_block ?_ | refine AX_skip ?_ | refine AX_exit ?_ | refine AX_ret ?_ | refine AX_ift ?_ | refine AX_iff ?_ | refine AX_seq_k (fun K hK => ?_) | refine ContX.use (by assumption) ?_) | simp only [thenX, inBlockX, if_true, if_false, reduceCtorEq]) | (first | ((first | (with_reducible refine XRes_op tyOK ?_ ?_) | ((with_reducible first | refine ADF_op tyOK ?_ ?_ ?_ | refine ADX_op tyOK ?_ ?_ ?_); (focus rfl)) | (with_reducible refine ADR_alloc1 tyOK ?_ ?_) | ((with_reducible refine ADR_free1 tyOK ?_ ?_ ?_); (focus rfl)) | ((with_reducible refine ADR_free0 tyOK ?_ ?_ ?_); (focus rfl)) | ((with_reducible refine ADR_read1 tyOK ?_ ?_ ?_); (focus rfl)) | (with_reducible refine ADR_chg1 tyOK ?_ ?_)); (focus (first | (with_reducible rfl) | ((simp (disch := omega) only [go_sem]); done))); simp (disch := omega) only [go_sem , iOps, iFlat, iInts, iRows, hs1, hs2, hs3, List.length_nil]; (first | (with_reducible refine XRes_id ?_) | (with_reducible refine ADF_id ?_) | (with_reducible refine ADR_id1 ?_) | (with_reducible refine ADX_id ?_))) | ((first | (with_reducible refine XRes_skip ?_ ?_) | (with_reducible refine ADF_skip (b := true) ?_ ?_) | (with_reducible refine ADX_skip ?_ ?_) | ((with_reducible refine ADR_skip1 ?_ ?_ ?_); (focus rfl))); (focus (first | rfl | ((simp (disch := omega) only [go_sem]); done))); (simp only [putL, List.set_cons_succ, List.set_cons_zero]))) | ((first | (with_reducible refine XRes_nil ?_) | (with_reducible refine ADF_nil ?_) | (with_reducible refine ADR_nil ?_) | (with_reducible refine ADX_nil ?_)); (first | refine hK _ ?_ | refine hK _ _ ?_); clear hK K) | ((first | (with_reducible refine AX_reg0 fun K hK => ?_) | (refine AX_drawG1 tyOK (by kernel_rfl) (by rfl) (by kernel_rfl) fun K hK => ?_) | (refine AX_drawT tyOK (by kernel_rfl) (by decide +kernel) fun K hK => ?_) | (refine AX_drawM1 (by kernel_rfl) (by rfl) (by decide +kernel) fun K hK => ?_) | (refine AX_drawA tyOK (by kernel_rfl) (by decide +kernel) fun K hK => ?_)); (first | simp only [go_sem, preN, effOp, runF, alM, mapOp, alD2, kdOf2, Bool.not_false, Bool.not_true, reduceCtorEq] | simp only [go_sem, preN, effOp, runF, alM, mapOp, Bool.not_false, Bool.not_true, reduceCtorEq] | simp only [go_sem, preN, effOp, runF, alD2, kdOf2, Bool.not_false, Bool.not_true, reduceCtorEq] | simp only [go_sem, alD2, kdOf2, Bool.not_false, Bool.not_true, reduceCtorEq] | simp only [go_sem, preN, effOp, runF, Bool.not_false, Bool.not_true, reduceCtorEq] | simp only [go_sem])))
  (simp only [bodyX]; refine ⟨_, by simp only [aresults, aresult, XS.as, Tryz.results7, aload, go_sem, Option.bind_some]; rfl, ?_⟩)
  exact ⟨.iv _, rfl, trivial⟩
end Go.Proofs.YtcjnikkmjhagmaaGreatDoor
