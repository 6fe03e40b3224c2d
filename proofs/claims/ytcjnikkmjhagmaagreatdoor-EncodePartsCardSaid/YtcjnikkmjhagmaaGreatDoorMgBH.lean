import Derived.Test.YtcjnikkmjhagmaaGreatDoorMgBG
import Derived.Test.YtcjnikkmjhagmaaGreatDoorMgAQ
import Derived.Test.YtcjnikkmjhagmaaGreatDoorMgBF
namespace Go.Proofs.YtcjnikkmjhagmaaGreatDoor
open Go.RowKit
set_option linter.unusedVariables false
set_option linter.unusedSimpArgs false
def stUp (n : Int) (S : Nat) (k : Nat) : List (List Int) := (List.range k).flatMap (stP n S S)
def stL (n m init : Int) : List (List Int) := if nOk n m ∧ 0 ≤ init ∧ init < m then [nVar n m 3 0 init] :: stUp n m.toNat (n.toNat + 1) else []
theorem stUp_succ (n : Int) (S k : Nat) : stUp n S (k + 1) = stUp n S k ++ stP n S S k := by unfold stUp; rw [List.range_succ, List.flatMap_append]; simp
theorem stP_len (n : Int) (S i : Nat) (hS : S ≤ 32) : (stP n S S i).length ≤ 1025 := by
  unfold stP
  have h := msAll_len (atV n S i S)
  rw [atV_len] at h
  have h2 : S * S ≤ 32 * 32 := Nat.mul_le_mul hS hS
  rw [List.length_cons]; omega
theorem atV_at (n m q : Int) {k i : Nat} (h : i < k) : (atV n m q k).getD i 0 = nVar n m 3 q i := by
  unfold atV; rw [List.getD_eq_getElem?_getD, List.getElem?_map, List.getElem?_range h]; rfl
theorem g3_at {v : Nat → List (List Int)} {n k : Nat} (h : k < n) : ((List.range n).map v).getD k [] = v k := by
  rw [List.getD_eq_getElem?_getD, List.getElem?_map, List.getElem?_range h]; rfl
set_option maxRecDepth 100000 in
set_option maxHeartbeats 4000000 in
theorem pf_stClauses (n m init : Int) : PF Tryz.prog 28 [szA n m, lt (.int .i64 init)] fun r H' => r = .iv (iRows (stL n m init)) ∧ H' = [] := by
  refine SF.frozen ?_
  have hs1 := trivial; have hs2 := trivial; have hs3 := trivial; have hG := trivial; have hA := trivial
  have hCk := pf_nCheck n m
  by_cases hok : nOk n m
  · rw [nCheck_yes hok] at hCk
    by_cases hi : 0 ≤ init
    · by_cases hi2 : init < m
      · rw [show stL n m init = [nVar n m 3 0 init] :: stUp n m.toNat (n.toNat + 1) by unfold stL; rw [if_pos ⟨hok, hi, hi2⟩]]
        obtain ⟨n, rfl⟩ : ∃ N : Nat, n = N := ⟨n.toNat, by unfold nOk at hok; omega⟩
        obtain ⟨m, rfl⟩ : ∃ N : Nat, m = N := ⟨m.toNat, by unfold nOk at hok; omega⟩
        obtain ⟨init, rfl⟩ : ∃ N : Nat, init = N := ⟨init.toNat, by omega⟩
        have hn : n ≤ 64 := by unfold nOk at hok; omega
        have hm : m ≤ 32 := by unfold nOk at hok; omega
        rw [Int.toNat_natCast, Int.toNat_natCast]
        have hA := pf_at n m 0 hm
        have hG := pf_gatherR (n + 1) (by omega) 77 (.ptr (szG n m) 2) (stP n m m) fun i hi => pf_stCl1 n m i hm
        obtain ⟨L, hL⟩ : ∃ L, L = (List.range (n + 1)).map (stP n m m) := ⟨_, rfl⟩
        rw [← hL] at hG
        unfold iRows3 at hG
        have hs1 : (atV n m 0 m).getD init 0 = nVar n m 3 0 init := atV_at _ _ _ (by omega)
        have hs2 : L.length = n + 1 := by rw [hL]; simp
        have hLk : ∀ k, k < n + 1 → L.getD k [] = stP n m m k := fun k hk => by rw [hL]; exact g3_at hk
        clear hL
        (refine SF_of_bodyX (aload tt) (aload_ok tyOK) Tryz.func28 rfl (by kernel_rfl) ?_; simp only [Tryz.ntmps28, List.length_cons, List.length_nil, Nat.reduceAdd, Nat.reduceSub, List.replicate_succ, List.replicate_zero, List.cons_append, List.nil_append])
        (repeat (first | (with_reducible first | refine AX_block ?_ | refine AX_skip ?_ | refine AX_exit ?_ | refine AX_ret ?_ | refine AX_ift ?_ | refine AX_iff ?_ | refine AX_seq_k (fun K hK => ?_) | refine ContX.use (by assumption) ?_) | simp only [thenX, inBlockX, if_true, if_false, reduceCtorEq]))
        ((with_reducible refine AX_reg0 fun K hK => ?_); simp only [go_sem])
        repeat (first | ((with_reducible refine XOP tyOK ?_); simp (maxSteps := 2000000) (disch := omega) only [go_sem , range_rowsU, iInts, iRows, iRows3, iFlat, szG, hs1, hs2, hs3, rows_one, rows_take, atV_len, List.length_nil]; (with_reducible refine XRes_id ?_)) | ((with_reducible refine XSK ?_); (simp only [putL, List.set_cons_succ, List.set_cons_zero])))
        ((with_reducible refine XRes_nil ?_); refine hK _ ?_; clear hK K)
        (repeat (first | (with_reducible first | refine AX_block ?_ | refine AX_skip ?_ | refine AX_exit ?_ | refine AX_ret ?_ | refine AX_ift ?_ | refine AX_iff ?_ | refine AX_seq_k (fun K hK => ?_) | refine ContX.use (by assumption) ?_) | simp only [thenX, inBlockX, if_true, if_false, reduceCtorEq]))
        refine AX_freeze [0] [(2, .iv (.ptr (szG n m) 2))] (fun p hp => ?_) ?_
        · rw [List.mem_singleton.1 hp]; exact frz_sz (by decide) rfl
        simp only [setN, updS, List.set_cons_succ, List.set_cons_zero]
        (repeat (first | (first | (with_reducible first | refine AX_block ?_ | refine AX_skip ?_ | refine AX_exit ?_ | refine AX_ret ?_ | refine AX_ift ?_ | refine AX_iff ?_ | refine AX_seq_k (fun K hK => ?_) | refine ContX.use (by assumption) ?_) | simp only [thenX, inBlockX, if_true, if_false, reduceCtorEq]) | ((refine XRes_litF tyOK (by rfl) rfl (by decide) rfl rfl ?_); (simp only [List.map_cons, List.map_nil, intOf, putL, List.set_cons_succ, List.set_cons_zero])) | (first | ((with_reducible refine XOP tyOK ?_); simp (maxSteps := 2000000) (disch := omega) only [go_sem , range_rowsU, iInts, iRows, iRows3, iFlat, szG, hs1, hs2, hs3, rows_one, rows_take, atV_len, List.length_nil]; (with_reducible refine XRes_id ?_)) | ((with_reducible refine XSK ?_); (simp only [putL, List.set_cons_succ, List.set_cons_zero]))) | ((with_reducible refine XRes_nil ?_); refine hK _ ?_; clear hK K) | ((with_reducible refine AX_reg0 fun K hK => ?_); simp only [go_sem]) | (first | ((first | refine XTL (by rfl) hCk ?_ | refine XTL (by rfl) hG ?_ | refine XTL (by rfl) hA ?_); (simp only [putL, List.set_cons_succ, List.set_cons_zero])))))
        refine xs_set (P := AX _ _ _ _) 1 57 _ ([[nVar n m 3 0 init]].map rowA) rfl rfl ?_
        simp only [List.set_cons_succ, List.set_cons_zero]
        refine AX_ren [1] [29] ?fr2 [some ⟨57, [[nVar n m 3 0 init]].map rowA⟩] (by decide) (by decide) (by (simp (maxSteps := 2000000) (disch := omega) only [go_sem, lint, rows_rn, rows_id, rows_one])) (by (simp (maxSteps := 2000000) (disch := omega) only [go_sem, lint, rows_rn, rows_id, rows_one])) (by (simp (maxSteps := 2000000) (disch := omega) only [go_sem, lint, rows_rn, rows_id, rows_one])) ?hfr (fun d2 => ?_)
        case hfr =>
          (simp (maxSteps := 2000000) (disch := omega) only [go_sem, lint, rows_rn, rows_id, rows_one])
          rfl
        simp only [deadS, List.set_cons_succ, List.set_cons_zero]
        (refine AX_wh (σ := Nat × List (List Int)) [41, 42, 43, 9, 44, 45, 46, 47] (fun (k, R) => [(40, lint k), (5, .osl 0 0 R.length 1)]) (fun (k, R) => [some ⟨57, R.map rowA⟩]) (fun (k, R) => []) (fun (k, R) => k ≤ n + 1 ∧ R = [[nVar n m 3 0 init]] ++ stUp n m k ∧ R.length ≤ 1 + 1025 * k) (fun (k, R) => n + 1 - k) (0, [[nVar n m 3 0 init]]) (fun d => by first | ((simp only [deadS, updS, List.set_cons_succ, List.set_cons_zero, lint, List.length_nil, List.length_cons]); done) | ((simp only [deadS, updS, List.set_cons_succ, List.set_cons_zero, lint, List.length_nil, List.length_cons]); rfl) | rfl) (by first | (with_reducible rfl) | (simp only [hinit]; done) | rfl) (by first | (with_reducible rfl) | rfl) (by first | exact ⟨Nat.zero_le _, by simp [stUp], Nat.le_refl _⟩) ?_; rintro ⟨k, R⟩ d fr hfr ⟨hk, hR, hRl⟩; simp only [updS, deadS, List.set_cons_succ, List.set_cons_zero, lint] at hfr; subst hfr; (try dsimp only))
        by_cases hlt : k < n + 1
        · have hs3 := hLk k hlt
          have hsl := stP_len n m k hm
          (repeat (first | (first | (with_reducible first | refine AX_block ?_ | refine AX_skip ?_ | refine AX_exit ?_ | refine AX_ret ?_ | refine AX_ift ?_ | refine AX_iff ?_ | refine AX_seq_k (fun K hK => ?_) | refine ContX.use (by assumption) ?_) | simp only [thenX, inBlockX, if_true, if_false, reduceCtorEq]) | (first | ((with_reducible refine XOP tyOK ?_); simp (maxSteps := 2000000) (disch := omega) only [go_sem , range_rowsU, iInts, iRows, iRows3, iFlat, szG, hs1, hs2, hs3, rows_one, rows_take, atV_len, List.length_nil]; (with_reducible refine XRes_id ?_)) | ((with_reducible refine XSK ?_); (simp only [putL, List.set_cons_succ, List.set_cons_zero]))) | ((with_reducible refine XRes_nil ?_); refine hK _ ?_; clear hK K) | ((with_reducible refine AX_reg0 fun K hK => ?_); simp only [go_sem]) | (first | ((first | refine XTL (by rfl) hCk ?_ | refine XTL (by rfl) hG ?_ | refine XTL (by rfl) hA ?_); (simp only [putL, List.set_cons_succ, List.set_cons_zero])))))
          obtain ⟨R3, hR3⟩ : ∃ R3, R3 = R ++ stP n m m k := ⟨_, rfl⟩
          have hlen : R3.length = R.length + (stP n m m k).length := by rw [hR3, List.length_append]
          refine xs_set (P := WhX _ _ _ _ _ _ _ _ _) 1 57 _ (R3.map rowA) rfl ?_ ?_
          · rw [hR3, List.map_append]
          simp only [List.set_cons_succ, List.set_cons_zero]
          exact whx_ren [1] (k + 1, R3) ⟨by omega, by rw [hR3, hR, stUp_succ, List.append_assoc], by show R3.length ≤ _; omega⟩ (by (first | omega | (dsimp only; omega) | (simp only; omega))) rfl (by decide) (by decide) (by (simp (maxSteps := 2000000) (disch := omega) only [go_sem, lint, rows_rn, rows_id, rows_one])) (by (simp (maxSteps := 2000000) (disch := omega) only [go_sem, lint, rows_rn, rows_id, rows_one])) (by (simp (maxSteps := 2000000) (disch := omega) only [go_sem, lint, rows_rn, rows_id, rows_one])) (fun d => by simp (maxSteps := 2000000) (disch := omega) only [go_sem, lint, rows_rn, rows_id, rows_one, hlen])
        · obtain rfl : k = n + 1 := by omega
          (repeat (first | (first | (with_reducible first | refine AX_block ?_ | refine AX_skip ?_ | refine AX_exit ?_ | refine AX_ret ?_ | refine AX_ift ?_ | refine AX_iff ?_ | refine AX_seq_k (fun K hK => ?_) | refine ContX.use (by assumption) ?_) | simp only [thenX, inBlockX, if_true, if_false, reduceCtorEq]) | (first | ((with_reducible refine XOP tyOK ?_); simp (maxSteps := 2000000) (disch := omega) only [go_sem , range_rowsU, iInts, iRows, iRows3, iFlat, szG, hs1, hs2, hs3, rows_one, rows_take, atV_len, List.length_nil]; (with_reducible refine XRes_id ?_)) | ((with_reducible refine XSK ?_); (simp only [putL, List.set_cons_succ, List.set_cons_zero]))) | ((with_reducible refine XRes_nil ?_); refine hK _ ?_; clear hK K) | ((with_reducible refine AX_reg0 fun K hK => ?_); simp only [go_sem]) | (first | ((first | refine XTL (by rfl) hCk ?_ | refine XTL (by rfl) hG ?_ | refine XTL (by rfl) hA ?_); (simp only [putL, List.set_cons_succ, List.set_cons_zero])))))
          (simp only [bodyX]; refine ⟨_, by simp only [aresults, aresult, XS.as, Tryz.results28, aload, go_sem, Option.bind_some]; rfl, ?_⟩)
          exact ⟨_, snap_rws rfl rfl, by rw [hR]; rfl, trivial⟩
      · rw [show stL n m init = [] by unfold stL; rw [if_neg (fun h => hi2 h.2.2)]]
        (refine SF_of_bodyX (aload tt) (aload_ok tyOK) Tryz.func28 rfl (by kernel_rfl) ?_; simp only [Tryz.ntmps28, List.length_cons, List.length_nil, Nat.reduceAdd, Nat.reduceSub, List.replicate_succ, List.replicate_zero, List.cons_append, List.nil_append])
        (repeat (first | (with_reducible first | refine AX_block ?_ | refine AX_skip ?_ | refine AX_exit ?_ | refine AX_ret ?_ | refine AX_ift ?_ | refine AX_iff ?_ | refine AX_seq_k (fun K hK => ?_) | refine ContX.use (by assumption) ?_) | simp only [thenX, inBlockX, if_true, if_false, reduceCtorEq]))
        ((with_reducible refine AX_reg0 fun K hK => ?_); simp only [go_sem])
        repeat (first | ((with_reducible refine XOP tyOK ?_); simp (maxSteps := 2000000) (disch := omega) only [go_sem , range_rowsU, iInts, iRows, iRows3, iFlat, szG, hs1, hs2, hs3, rows_one, rows_take, atV_len, List.length_nil]; (with_reducible refine XRes_id ?_)) | ((with_reducible refine XSK ?_); (simp only [putL, List.set_cons_succ, List.set_cons_zero])))
        ((with_reducible refine XRes_nil ?_); refine hK _ ?_; clear hK K)
        (repeat (first | (with_reducible first | refine AX_block ?_ | refine AX_skip ?_ | refine AX_exit ?_ | refine AX_ret ?_ | refine AX_ift ?_ | refine AX_iff ?_ | refine AX_seq_k (fun K hK => ?_) | refine ContX.use (by assumption) ?_) | simp only [thenX, inBlockX, if_true, if_false, reduceCtorEq]))
        refine AX_freeze [0] [(2, .iv (.ptr (szG n m) 2))] (fun p hp => ?_) ?_
        · rw [List.mem_singleton.1 hp]; exact frz_sz (by decide) rfl
        simp only [setN, updS, List.set_cons_succ, List.set_cons_zero]
        (repeat (first | (first | (with_reducible first | refine AX_block ?_ | refine AX_skip ?_ | refine AX_exit ?_ | refine AX_ret ?_ | refine AX_ift ?_ | refine AX_iff ?_ | refine AX_seq_k (fun K hK => ?_) | refine ContX.use (by assumption) ?_) | simp only [thenX, inBlockX, if_true, if_false, reduceCtorEq]) | (first | ((with_reducible refine XOP tyOK ?_); simp (maxSteps := 2000000) (disch := omega) only [go_sem , range_rowsU, iInts, iRows, iRows3, iFlat, szG, hs1, hs2, hs3, rows_one, rows_take, atV_len, List.length_nil]; (with_reducible refine XRes_id ?_)) | ((with_reducible refine XSK ?_); (simp only [putL, List.set_cons_succ, List.set_cons_zero]))) | ((with_reducible refine XRes_nil ?_); refine hK _ ?_; clear hK K) | ((with_reducible refine AX_reg0 fun K hK => ?_); simp only [go_sem]) | (first | ((first | refine XTL (by rfl) hCk ?_ | refine XTL (by rfl) hG ?_ | refine XTL (by rfl) hA ?_); (simp only [putL, List.set_cons_succ, List.set_cons_zero])))))
        (simp only [bodyX]; refine ⟨_, by simp only [aresults, aresult, XS.as, Tryz.results28, aload, go_sem, Option.bind_some]; rfl, ?_⟩)
        exact ⟨_, .iv _ _ (.nil _ _), rfl, trivial⟩
    · rw [show stL n m init = [] by unfold stL; rw [if_neg (fun h => hi h.2.1)]]
      (refine SF_of_bodyX (aload tt) (aload_ok tyOK) Tryz.func28 rfl (by kernel_rfl) ?_; simp only [Tryz.ntmps28, List.length_cons, List.length_nil, Nat.reduceAdd, Nat.reduceSub, List.replicate_succ, List.replicate_zero, List.cons_append, List.nil_append])
      (repeat (first | (with_reducible first | refine AX_block ?_ | refine AX_skip ?_ | refine AX_exit ?_ | refine AX_ret ?_ | refine AX_ift ?_ | refine AX_iff ?_ | refine AX_seq_k (fun K hK => ?_) | refine ContX.use (by assumption) ?_) | simp only [thenX, inBlockX, if_true, if_false, reduceCtorEq]))
      ((with_reducible refine AX_reg0 fun K hK => ?_); simp only [go_sem])
      repeat (first | ((with_reducible refine XOP tyOK ?_); simp (maxSteps := 2000000) (disch := omega) only [go_sem , range_rowsU, iInts, iRows, iRows3, iFlat, szG, hs1, hs2, hs3, rows_one, rows_take, atV_len, List.length_nil]; (with_reducible refine XRes_id ?_)) | ((with_reducible refine XSK ?_); (simp only [putL, List.set_cons_succ, List.set_cons_zero])))
      ((with_reducible refine XRes_nil ?_); refine hK _ ?_; clear hK K)
      (repeat (first | (with_reducible first | refine AX_block ?_ | refine AX_skip ?_ | refine AX_exit ?_ | refine AX_ret ?_ | refine AX_ift ?_ | refine AX_iff ?_ | refine AX_seq_k (fun K hK => ?_) | refine ContX.use (by assumption) ?_) | simp only [thenX, inBlockX, if_true, if_false, reduceCtorEq]))
      refine AX_freeze [0] [(2, .iv (.ptr (szG n m) 2))] (fun p hp => ?_) ?_
      · rw [List.mem_singleton.1 hp]; exact frz_sz (by decide) rfl
      simp only [setN, updS, List.set_cons_succ, List.set_cons_zero]
      (repeat (first | (first | (with_reducible first | refine AX_block ?_ | refine AX_skip ?_ | refine AX_exit ?_ | refine AX_ret ?_ | refine AX_ift ?_ | refine AX_iff ?_ | refine AX_seq_k (fun K hK => ?_) | refine ContX.use (by assumption) ?_) | simp only [thenX, inBlockX, if_true, if_false, reduceCtorEq]) | (first | ((with_reducible refine XOP tyOK ?_); simp (maxSteps := 2000000) (disch := omega) only [go_sem , range_rowsU, iInts, iRows, iRows3, iFlat, szG, hs1, hs2, hs3, rows_one, rows_take, atV_len, List.length_nil]; (with_reducible refine XRes_id ?_)) | ((with_reducible refine XSK ?_); (simp only [putL, List.set_cons_succ, List.set_cons_zero]))) | ((with_reducible refine XRes_nil ?_); refine hK _ ?_; clear hK K) | ((with_reducible refine AX_reg0 fun K hK => ?_); simp only [go_sem]) | (first | ((first | refine XTL (by rfl) hCk ?_ | refine XTL (by rfl) hG ?_ | refine XTL (by rfl) hA ?_); (simp only [putL, List.set_cons_succ, List.set_cons_zero])))))
      (simp only [bodyX]; refine ⟨_, by simp only [aresults, aresult, XS.as, Tryz.results28, aload, go_sem, Option.bind_some]; rfl, ?_⟩)
      exact ⟨_, .iv _ _ (.nil _ _), rfl, trivial⟩
  · rw [nCheck_no hok] at hCk
    rw [show stL n m init = [] by unfold stL; rw [if_neg (fun h => hok h.1)]]
    (refine SF_of_bodyX (aload tt) (aload_ok tyOK) Tryz.func28 rfl (by kernel_rfl) ?_; simp only [Tryz.ntmps28, List.length_cons, List.length_nil, Nat.reduceAdd, Nat.reduceSub, List.replicate_succ, List.replicate_zero, List.cons_append, List.nil_append])
    (repeat (first | (with_reducible first | refine AX_block ?_ | refine AX_skip ?_ | refine AX_exit ?_ | refine AX_ret ?_ | refine AX_ift ?_ | refine AX_iff ?_ | refine AX_seq_k (fun K hK => ?_) | refine ContX.use (by assumption) ?_) | simp only [thenX, inBlockX, if_true, if_false, reduceCtorEq]))
    ((with_reducible refine AX_reg0 fun K hK => ?_); simp only [go_sem])
    repeat (first | ((with_reducible refine XOP tyOK ?_); simp (maxSteps := 2000000) (disch := omega) only [go_sem , range_rowsU, iInts, iRows, iRows3, iFlat, szG, hs1, hs2, hs3, rows_one, rows_take, atV_len, List.length_nil]; (with_reducible refine XRes_id ?_)) | ((with_reducible refine XSK ?_); (simp only [putL, List.set_cons_succ, List.set_cons_zero])))
    ((with_reducible refine XRes_nil ?_); refine hK _ ?_; clear hK K)
    (repeat (first | (with_reducible first | refine AX_block ?_ | refine AX_skip ?_ | refine AX_exit ?_ | refine AX_ret ?_ | refine AX_ift ?_ | refine AX_iff ?_ | refine AX_seq_k (fun K hK => ?_) | refine ContX.use (by assumption) ?_) | simp only [thenX, inBlockX, if_true, if_false, reduceCtorEq]))
    refine AX_freeze [0] [(2, .iv (.ptr (szG n m) 2))] (fun p hp => ?_) ?_
    · rw [List.mem_singleton.1 hp]; exact frz_sz (by decide) rfl
    simp only [setN, updS, List.set_cons_succ, List.set_cons_zero]
    (repeat (first | (first | (with_reducible first | refine AX_block ?_ | refine AX_skip ?_ | refine AX_exit ?_ | refine AX_ret ?_ | refine AX_ift ?_ | refine AX_iff ?_ | refine AX_seq_k (fun K hK => ?_) | refine ContX.use (by assumption) ?_) | simp only [thenX, inBlockX, if_true, if_false, reduceCtorEq]) | (first | ((with_reducible refine XOP tyOK ?_); simp (maxSteps := 2000000) (disch := omega) only [go_sem , range_rowsU, iInts, iRows, iRows3, iFlat, szG, hs1, hs2, hs3, rows_one, rows_take, atV_len, List.length_nil]; (with_reducible refine XRes_id ?_)) | ((with_reducible refine XSK ?_); (simp only [putL, List.set_cons_succ, List.set_cons_zero]))) | ((with_reducible refine XRes_nil ?_); refine hK _ ?_; clear hK K) | ((with_reducible refine AX_reg0 fun K hK => ?_); simp only [go_sem]) | (first | ((first | refine XTL (by rfl) hCk ?_ | refine XTL (by rfl) hG ?_ | refine XTL (by rfl) hA ?_); (simp only [putL, List.set_cons_succ, List.set_cons_zero])))))
    (simp only [bodyX]; refine ⟨_, by simp only [aresults, aresult, XS.as, Tryz.results28, aload, go_sem, Option.bind_some]; rfl, ?_⟩)
    exact ⟨_, .iv _ _ (.nil _ _), rfl, trivial⟩
end Go.Proofs.YtcjnikkmjhagmaaGreatDoor
namespace Go.Proofs.YtcjnikkmjhagmaaGreatDoor
open Go.RowKit
set_option linter.unusedVariables false
set_option linter.unusedSimpArgs false
theorem take_snoc {α : Type} {xs : List α} {k : Nat} (d : α) (h : k < xs.length) : xs.take (k + 1) = xs.take k ++ [xs.getD k d] := by
  rw [List.take_add_one, List.getD_eq_getElem?_getD, List.getElem?_eq_getElem h]; rfl
set_option maxRecDepth 100000 in
set_option maxHeartbeats 4000000 in
theorem pf_Concat (L : List (List (List Int))) (hn : L.length ≤ 1000) (hL : ∀ k, (L.getD k []).length ≤ 100000000) (hr : ∀ k j, ((L.getD k []).getD j []).length ≤ 1000000) : PF Tryz.prog 18 [.iv (iRows3 L)] fun r H' => r = .iv (iRows L.flatten) ∧ H' = [] := by
  refine SF.frozen ?_
  have hs1 := trivial; have hs2 := trivial; have hs3 := trivial; have hC := trivial
  (refine SF_of_bodyX (aload tt) (aload_ok tyOK) Tryz.func18 rfl (by kernel_rfl) ?_; simp only [Tryz.ntmps18, List.length_cons, List.length_nil, Nat.reduceAdd, Nat.reduceSub, List.replicate_succ, List.replicate_zero, List.cons_append, List.nil_append])
  unfold iRows3
  (repeat (first | (first | (with_reducible first | refine AX_block ?_ | refine AX_skip ?_ | refine AX_exit ?_ | refine AX_ret ?_ | refine AX_ift ?_ | refine AX_iff ?_ | refine AX_seq_k (fun K hK => ?_) | refine ContX.use (by assumption) ?_) | simp only [thenX, inBlockX, if_true, if_false, reduceCtorEq]) | (first | ((with_reducible refine XOP tyOK ?_); simp (maxSteps := 2000000) (disch := omega) only [go_sem , range_rowsU, iInts, iRows, iRows3, hs1, hs2, hs3, rows_one, rows_take, List.length_nil]; (with_reducible refine XRes_id ?_)) | ((with_reducible refine XSK ?_); (simp only [putL, List.set_cons_succ, List.set_cons_zero]))) | ((with_reducible refine XRes_nil ?_); refine hK _ ?_; clear hK K) | ((with_reducible refine AX_reg0 fun K hK => ?_); simp only [go_sem]) | (first | ((first | refine XTL (by rfl) hC ?_); (simp only [putL, List.set_cons_succ, List.set_cons_zero])))))
  refine AX_nil 3 57 1 rfl ?_
  (refine AX_wh (σ := Nat × List (List Int)) [11, 12, 13, 5, 14, 15, 16, 17, 18, 19, 7, 20, 21, 22, 23, 24, 25, 26] (fun (k, R) => [(10, lint k), (3, .osl 0 0 R.length 1)]) (fun (k, R) => [some ⟨57, R.map rowA⟩]) (fun (k, R) => []) (fun (k, R) => k ≤ L.length ∧ R = (L.take k).flatten ∧ R.length ≤ 100000000 * k) (fun (k, R) => L.length - k) (0, []) (fun d => by first | ((simp only [deadS, updS, List.set_cons_succ, List.set_cons_zero, lint, List.length_nil, List.length_cons]); done) | ((simp only [deadS, updS, List.set_cons_succ, List.set_cons_zero, lint, List.length_nil, List.length_cons]); rfl) | rfl) (by first | (with_reducible rfl) | (simp only [hinit]; done) | rfl) (by first | (with_reducible rfl) | rfl) (by first | exact ⟨Nat.zero_le _, by simp, Nat.le_refl _⟩) ?_; rintro ⟨k, R⟩ d fr hfr ⟨hk, hR, hRl⟩; simp only [updS, deadS, List.set_cons_succ, List.set_cons_zero, lint] at hfr; subst hfr; (try dsimp only))
  by_cases hlt : k < L.length
  · have hP := hL k
    have hP2 := hr k
    have hts := take_snoc [] hlt
    (repeat (first | (first | (with_reducible first | refine AX_block ?_ | refine AX_skip ?_ | refine AX_exit ?_ | refine AX_ret ?_ | refine AX_ift ?_ | refine AX_iff ?_ | refine AX_seq_k (fun K hK => ?_) | refine ContX.use (by assumption) ?_) | simp only [thenX, inBlockX, if_true, if_false, reduceCtorEq]) | (first | ((with_reducible refine XOP tyOK ?_); simp (maxSteps := 2000000) (disch := omega) only [go_sem , range_rowsU, iInts, iRows, iRows3, hs1, hs2, hs3, rows_one, rows_take, List.length_nil]; (with_reducible refine XRes_id ?_)) | ((with_reducible refine XSK ?_); (simp only [putL, List.set_cons_succ, List.set_cons_zero]))) | ((with_reducible refine XRes_nil ?_); refine hK _ ?_; clear hK K) | ((with_reducible refine AX_reg0 fun K hK => ?_); simp only [go_sem]) | (first | ((first | refine XTL (by rfl) hC ?_); (simp only [putL, List.set_cons_succ, List.set_cons_zero])))))
    (refine AX_wh (σ := Nat × List (List Int)) [17, 18, 19, 7, 20, 21, 22, 23, 24, 25] (fun (j, R1) => [(16, lint j), (3, .osl 0 0 R1.length 1)]) (fun (j, R1) => [some ⟨57, R1.map rowA⟩]) (fun (j, R1) => []) (fun (j, R1) => j ≤ (L.getD k []).length ∧ R1 = R ++ (L.getD k []).take j ∧ R1.length ≤ R.length + j) (fun (j, R1) => (L.getD k []).length - j) (0, R) (fun d => by first | ((simp only [deadS, updS, List.set_cons_succ, List.set_cons_zero, lint, List.length_nil, List.length_cons]); done) | ((simp only [deadS, updS, List.set_cons_succ, List.set_cons_zero, lint, List.length_nil, List.length_cons]); rfl) | rfl) (by first | (with_reducible rfl) | (simp only [hinit]; done) | rfl) (by first | (with_reducible rfl) | rfl) (by first | exact ⟨Nat.zero_le _, by simp, Nat.le_refl _⟩) ?_; rintro ⟨j, R1⟩ d fr hfr ⟨hj, hR1, hR1l⟩; simp only [updS, deadS, List.set_cons_succ, List.set_cons_zero, lint] at hfr; subst hfr; (try dsimp only))
    by_cases hlj : j < (L.getD k []).length
    · have hC := pf_Clone ((L.getD k []).getD j []) (hP2 j)
      have hts2 := take_snoc [] hlj
      (repeat (first | (first | (with_reducible first | refine AX_block ?_ | refine AX_skip ?_ | refine AX_exit ?_ | refine AX_ret ?_ | refine AX_ift ?_ | refine AX_iff ?_ | refine AX_seq_k (fun K hK => ?_) | refine ContX.use (by assumption) ?_) | simp only [thenX, inBlockX, if_true, if_false, reduceCtorEq]) | (first | ((with_reducible refine XOP tyOK ?_); simp (maxSteps := 2000000) (disch := omega) only [go_sem , range_rowsU, iInts, iRows, iRows3, hs1, hs2, hs3, rows_one, rows_take, List.length_nil]; (with_reducible refine XRes_id ?_)) | ((with_reducible refine XSK ?_); (simp only [putL, List.set_cons_succ, List.set_cons_zero]))) | ((with_reducible refine XRes_nil ?_); refine hK _ ?_; clear hK K) | ((with_reducible refine AX_reg0 fun K hK => ?_); simp only [go_sem]) | (first | ((first | refine XTL (by rfl) hC ?_); (simp only [putL, List.set_cons_succ, List.set_cons_zero])))))
      obtain ⟨R3, hR3⟩ : ∃ R3, R3 = R1 ++ [(L.getD k []).getD j []] := ⟨_, rfl⟩
      have hlen : R3.length = R1.length + 1 := by rw [hR3, List.length_append]; rfl
      refine xs_set (P := WhX _ _ _ _ _ _ _ _ _) 2 57 _ (R3.map rowA) rfl ?_ ?_
      · rw [hR3, List.map_append]; rfl
      simp only [List.set_cons_succ, List.set_cons_zero]
      exact whx_ren [2] (j + 1, R3) ⟨by omega, by rw [hR3, hR1, hts2, List.append_assoc], by show R3.length ≤ _; omega⟩ (by (first | omega | (dsimp only; omega) | (simp only; omega))) rfl (by decide) (by decide) (by (simp (maxSteps := 2000000) (disch := omega) only [go_sem, lint, rows_rn, rows_id, rows_one])) (by (simp (maxSteps := 2000000) (disch := omega) only [go_sem, lint, rows_rn, rows_id, rows_one])) (by (simp (maxSteps := 2000000) (disch := omega) only [go_sem, lint, rows_rn, rows_id, rows_one])) (fun d => by simp (maxSteps := 2000000) (disch := omega) only [go_sem, lint, rows_rn, rows_id, rows_one, hlen])
    · obtain rfl : j = (L.getD k []).length := by omega
      (repeat (first | (first | (with_reducible first | refine AX_block ?_ | refine AX_skip ?_ | refine AX_exit ?_ | refine AX_ret ?_ | refine AX_ift ?_ | refine AX_iff ?_ | refine AX_seq_k (fun K hK => ?_) | refine ContX.use (by assumption) ?_) | simp only [thenX, inBlockX, if_true, if_false, reduceCtorEq]) | (first | ((with_reducible refine XOP tyOK ?_); simp (maxSteps := 2000000) (disch := omega) only [go_sem , range_rowsU, iInts, iRows, iRows3, hs1, hs2, hs3, rows_one, rows_take, List.length_nil]; (with_reducible refine XRes_id ?_)) | ((with_reducible refine XSK ?_); (simp only [putL, List.set_cons_succ, List.set_cons_zero]))) | ((with_reducible refine XRes_nil ?_); refine hK _ ?_; clear hK K) | ((with_reducible refine AX_reg0 fun K hK => ?_); simp only [go_sem]) | (first | ((first | refine XTL (by rfl) hC ?_); (simp only [putL, List.set_cons_succ, List.set_cons_zero])))))
      exact whx_ren [0] (k + 1, R1) ⟨by omega, by rw [hR1, hR, hts, List.take_length]; simp, by show R1.length ≤ _; omega⟩ (by (first | omega | (dsimp only; omega) | (simp only; omega))) rfl (by decide) (by decide) (by (simp (maxSteps := 2000000) (disch := omega) only [go_sem, lint, rows_rn, rows_id, rows_one])) (by (simp (maxSteps := 2000000) (disch := omega) only [go_sem, lint, rows_rn, rows_id, rows_one])) (by (simp (maxSteps := 2000000) (disch := omega) only [go_sem, lint, rows_rn, rows_id, rows_one])) (fun d => by (simp (maxSteps := 2000000) (disch := omega) only [go_sem, lint, rows_rn, rows_id, rows_one]))
  · obtain rfl : k = L.length := by omega
    (repeat (first | (first | (with_reducible first | refine AX_block ?_ | refine AX_skip ?_ | refine AX_exit ?_ | refine AX_ret ?_ | refine AX_ift ?_ | refine AX_iff ?_ | refine AX_seq_k (fun K hK => ?_) | refine ContX.use (by assumption) ?_) | simp only [thenX, inBlockX, if_true, if_false, reduceCtorEq]) | (first | ((with_reducible refine XOP tyOK ?_); simp (maxSteps := 2000000) (disch := omega) only [go_sem , range_rowsU, iInts, iRows, iRows3, hs1, hs2, hs3, rows_one, rows_take, List.length_nil]; (with_reducible refine XRes_id ?_)) | ((with_reducible refine XSK ?_); (simp only [putL, List.set_cons_succ, List.set_cons_zero]))) | ((with_reducible refine XRes_nil ?_); refine hK _ ?_; clear hK K) | ((with_reducible refine AX_reg0 fun K hK => ?_); simp only [go_sem]) | (first | ((first | refine XTL (by rfl) hC ?_); (simp only [putL, List.set_cons_succ, List.set_cons_zero])))))
    (simp only [bodyX]; refine ⟨_, by simp only [aresults, aresult, XS.as, Tryz.results18, aload, go_sem, Option.bind_some]; rfl, ?_⟩)
    exact ⟨_, snap_rws rfl rfl, by rw [hR, List.take_length], trivial⟩
end Go.Proofs.YtcjnikkmjhagmaaGreatDoor
namespace Go.Proofs.YtcjnikkmjhagmaaGreatDoor
open Go.RowKit
set_option linter.unusedVariables false
set_option linter.unusedSimpArgs false
abbrev w1 : Op5 := ⟨1, 0, 0, 1, 0⟩
abbrev w2 : Op5 := ⟨1, 0, 2, 3, 0⟩
abbrev w3 : Op5 := ⟨2, 0, 4, -1, -1⟩
end Go.Proofs.YtcjnikkmjhagmaaGreatDoor
