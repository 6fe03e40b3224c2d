import Derived.Test.YtcjnikkmjhagmaaGreatDoorMgBG
namespace Go.Proofs.YtcjnikkmjhagmaaGreatDoor
open Go.RowKit
set_option linter.unusedVariables false
set_option linter.unusedSimpArgs false
def stUp (n : Int) (S : Nat) (k : Nat) : List (List Int) := (List.range k).flatMap (stP n S S)
def stL (n m init : Int) : List (List Int) := if nOk n m ∧ 0 ≤ init ∧ init < m then [nVar n m 3 0 init] :: stUp n m.toNat (n.toNat + 1) else []
theorem stUp_succ (n : Int) (S k : Nat) : stUp n S (k + 1) = stUp n S k ++ stP n S S k := by unfold stUp; rw [List.range_succ, List.flatMap_append]; simp
theorem stP_len (n : Int) (S i : Nat) (hS : S ≤ 32) : (stP n S S i).length ≤ 1025 := by
  unfold stP
  have h := msAll_len (atV n S i S)
  rw [atV_len] at h
  have h2 : S * S ≤ 32 * 32 := Nat.mul_le_mul hS hS
  rw [List.length_cons]; omega
theorem atV_at (n m q : Int) {k i : Nat} (h : i < k) : (atV n m q k).getD i 0 = nVar n m 3 q i := by
  unfold atV; rw [List.getD_eq_getElem?_getD, List.getElem?_map, List.getElem?_range h]; rfl
theorem g3_at {v : Nat → List (List Int)} {n k : Nat} (h : k < n) : ((List.range n).map v).getD k [] = v k := by
  rw [List.getD_eq_getElem?_getD, List.getElem?_map, List.getElem?_range h]; rfl
theorem W0ae0a {A B : Prop} (h9 : B) (w : B → A := by (intro h9; (repeat intro K hK); refine ⟨?_⟩; (repeat (first | (first | (with_reducible first | refine AX_block ?_ | refine AX_skip ?_ | refine AX_exit ?_ | refine AX_ret ?_ | refine AX_ift ?_ | refine AX_iff ?_ | refine AX_seq_k (fun K hK => ?_) | refine ContX.use (by assumption) ?_) | simp only [thenX, inBlockX, if_true, if_false, reduceCtorEq]) | (first | ((with_reducible refine XOP tyOK ?_); simp (disch := omega) only [go_sem , range_rowsU, iInts, iRows, iRows3, iFlat, szG, hs1, hs2, hs3, rows_one, rows_take, atV_len, List.length_nil]; (with_reducible refine XRes_id ?_)) | (with_reducible refine XSK ?_)) | ((with_reducible refine XRes_nil ?_); refine hK _ ?_; clear hK K) | ((with_reducible refine AX_reg0 fun K hK => ?_); simp only [go_sem]) | (first | (first | refine XTL (by rfl) hCk ?_ | refine XTL (by rfl) hG ?_ | refine XTL (by rfl) hA ?_)))); refine Wk.o ?_; (repeat revert hK K); exact h9)) : A := w h9
set_option maxRecDepth 100000 in
set_option maxHeartbeats 4000000 in
theorem pf_stClauses (n m init : Int) : PF Tryz.prog 28 [szA n m, lt (.int .i64 init)] fun r H' => r = .iv (iRows (stL n m init)) ∧ H' = [] := by
  refine SF.frozen ?_
  have hs1 := trivial; have hs2 := trivial; have hs3 := trivial; have hG := trivial; have hA := trivial
  have hCk := pf_nCheck n m
  by_cases hok : nOk n m
  · rw [nCheck_yes hok] at hCk
    by_cases hi : 0 ≤ init
    · by_cases hi2 : init < m
      · rw [show stL n m init = [nVar n m 3 0 init] :: stUp n m.toNat (n.toNat + 1) by unfold stL; rw [if_pos ⟨hok, hi, hi2⟩]]
        obtain ⟨n, rfl⟩ : ∃ N : Nat, n = N := ⟨n.toNat, by unfold nOk at hok; omega⟩
        obtain ⟨m, rfl⟩ : ∃ N : Nat, m = N := ⟨m.toNat, by unfold nOk at hok; omega⟩
        obtain ⟨init, rfl⟩ : ∃ N : Nat, init = N := ⟨init.toNat, by omega⟩
        have hn : n ≤ 64 := by unfold nOk at hok; omega
        have hm : m ≤ 32 := by unfold nOk at hok; omega
        rw [Int.toNat_natCast, Int.toNat_natCast]
        have hA := pf_at n m 0 hm
        have hG := pf_gatherR (n + 1) (by omega) 77 (.ptr (szG n m) 2) (stP n m m) fun i hi => pf_stCl1 n m i hm
        obtain ⟨L, hL⟩ : ∃ L, L = (List.range (n + 1)).map (stP n m m) := ⟨_, rfl⟩
        rw [← hL] at hG
        unfold iRows3 at hG
        have hs1 : (atV n m 0 m).getD init 0 = nVar n m 3 0 init := atV_at _ _ _ (by omega)
        have hs2 : L.length = n + 1 := by rw [hL]; simp
        have hLk : ∀ k, k < n + 1 → L.getD k [] = stP n m m k := fun k hk => by rw [hL]; exact g3_at hk
        clear hL
        (refine SF_of_bodyX (aload tt) (aload_ok tyOK) Tryz.func28 rfl (by kernel_rfl) ?_; simp only [Tryz.ntmps28, List.length_cons, List.length_nil, Nat.reduceAdd, Nat.reduceSub, List.replicate_succ, List.replicate_zero, List.cons_append, List.nil_append])
        (repeat (first | (with_reducible first | refine AX_block ?_ | refine AX_skip ?_ | refine AX_exit ?_ | refine AX_ret ?_ | refine AX_ift ?_ | refine AX_iff ?_ | refine AX_seq_k (fun K hK => ?_) | refine ContX.use (by assumption) ?_) | simp only [thenX, inBlockX, if_true, if_false, reduceCtorEq]))
        ((with_reducible refine AX_reg0 fun K hK => ?_); simp only [go_sem])
        repeat (first | ((with_reducible refine XOP tyOK ?_); simp (disch := omega) only [go_sem , range_rowsU, iInts, iRows, iRows3, iFlat, szG, hs1, hs2, hs3, rows_one, rows_take, atV_len, List.length_nil]; (with_reducible refine XRes_id ?_)) | (with_reducible refine XSK ?_))
        ((with_reducible refine XRes_nil ?_); refine hK _ ?_; clear hK K)
        (repeat (first | (with_reducible first | refine AX_block ?_ | refine AX_skip ?_ | refine AX_exit ?_ | refine AX_ret ?_ | refine AX_ift ?_ | refine AX_iff ?_ | refine AX_seq_k (fun K hK => ?_) | refine ContX.use (by assumption) ?_) | simp only [thenX, inBlockX, if_true, if_false, reduceCtorEq]))
        refine AX_freeze [0] [(2, .iv (.ptr (szG n m) 2))] (fun p hp => ?_) ?_
        · rw [List.mem_singleton.1 hp]; exact frz_sz (by decide) rfl
        simp only [setN, updS, List.set_cons_succ, List.set_cons_zero]
        (repeat (first | (first | (with_reducible first | refine AX_block ?_ | refine AX_skip ?_ | refine AX_exit ?_ | refine AX_ret ?_ | refine AX_ift ?_ | refine AX_iff ?_ | refine AX_seq_k (fun K hK => ?_) | refine ContX.use (by assumption) ?_) | simp only [thenX, inBlockX, if_true, if_false, reduceCtorEq]) | ((refine XRes_litF tyOK (by rfl) rfl (by decide) rfl rfl ?_); (simp only [List.map_cons, List.map_nil, intOf, putL, List.set_cons_succ, List.set_cons_zero])) | (first | ((with_reducible refine XOP tyOK ?_); simp (disch := omega) only [go_sem , range_rowsU, iInts, iRows, iRows3, iFlat, szG, hs1, hs2, hs3, rows_one, rows_take, atV_len, List.length_nil]; (with_reducible refine XRes_id ?_)) | (with_reducible refine XSK ?_)) | ((with_reducible refine XRes_nil ?_); refine hK _ ?_; clear hK K) | ((with_reducible refine AX_reg0 fun K hK => ?_); simp only [go_sem]) | (first | (first | refine XTL (by rfl) hCk ?_ | refine XTL (by rfl) hG ?_ | refine XTL (by rfl) hA ?_))))
        refine xs_set (P := AX _ _ _ _) 1 57 _ ([[nVar n m 3 0 init]].map rowA) rfl rfl ?_
        simp only [List.set_cons_succ, List.set_cons_zero]
        refine AX_ren [1] [29] ?fr2 [some ⟨57, [[nVar n m 3 0 init]].map rowA⟩] (by decide) (by decide) (by (simp (disch := omega) only [go_sem, lint, rows_rn, rows_id, rows_one])) (by (simp (disch := omega) only [go_sem, lint, rows_rn, rows_id, rows_one])) (by (simp (disch := omega) only [go_sem, lint, rows_rn, rows_id, rows_one])) ?hfr (fun d2 => ?_)
        case hfr =>
          (simp (disch := omega) only [go_sem, lint, rows_rn, rows_id, rows_one])
          rfl
        simp only [deadS, List.set_cons_succ, List.set_cons_zero]
        (refine AWH (σ := Nat × List (List Int)) [41, 42, 43, 9, 44, 45, 46, 47] (fun (k, R) => [(40, lint k), (5, .osl 0 0 R.length 1)]) (fun (k, R) => [some ⟨57, R.map rowA⟩]) (fun (k, R) => []) (fun (k, R) => k ≤ n + 1 ∧ R = [[nVar n m 3 0 init]] ++ stUp n m k ∧ R.length ≤ 1 + 1025 * k) (fun (k, R) => n + 1 - k) (0, [[nVar n m 3 0 init]]) (by first | exact ⟨Nat.zero_le _, by simp [stUp], Nat.le_refl _⟩) ?_; rintro ⟨k, R⟩ d fr hfr ⟨hk, hR, hRl⟩; simp only [updS, deadS, List.set_cons_succ, List.set_cons_zero, lint] at hfr; subst hfr; (try dsimp only))
        by_cases hlt : k < n + 1
        · have hs3 := hLk k hlt
          have hsl := stP_len n m k hm
          (refine Wk.o ?_; (repeat revert hK K); refine W0ae0a ?_; (repeat intro K hK); refine ⟨?_⟩)
          obtain ⟨R3, hR3⟩ : ∃ R3, R3 = R ++ stP n m m k := ⟨_, rfl⟩
          have hlen : R3.length = R.length + (stP n m m k).length := by rw [hR3, List.length_append]
          refine xs_set (P := WhX _ _ _ _ _ _ _ _ _) 1 57 _ (R3.map rowA) rfl ?_ ?_
          · rw [hR3, List.map_append]
          simp only [List.set_cons_succ, List.set_cons_zero]
          exact whx_ren [1] (k + 1, R3) ⟨by omega, by rw [hR3, hR, stUp_succ, List.append_assoc], by show R3.length ≤ _; omega⟩ (by (first | omega | (dsimp only; omega) | (simp only; omega))) rfl (by decide) (by decide) (by (simp (disch := omega) only [go_sem, lint, rows_rn, rows_id, rows_one])) (by (simp (disch := omega) only [go_sem, lint, rows_rn, rows_id, rows_one])) (by (simp (disch := omega) only [go_sem, lint, rows_rn, rows_id, rows_one])) (fun d => by simp (disch := omega) only [go_sem, lint, rows_rn, rows_id, rows_one, hlen])
        · obtain rfl : k = n + 1 := by omega
          (refine Wk.o ?_; (repeat revert hK K); refine W0ae0a ?_; (repeat intro K hK); refine ⟨?_⟩)
          (simp only [bodyX]; refine ⟨_, by simp only [aresults, aresult, XS.as, Tryz.results28, aload, go_sem, Option.bind_some]; rfl, ?_⟩)
          exact ⟨_, snap_rws rfl rfl, by rw [hR]; rfl, trivial⟩
      · rw [show stL n m init = [] by unfold stL; rw [if_neg (fun h => hi2 h.2.2)]]
        (refine SF_of_bodyX (aload tt) (aload_ok tyOK) Tryz.func28 rfl (by kernel_rfl) ?_; simp only [Tryz.ntmps28, List.length_cons, List.length_nil, Nat.reduceAdd, Nat.reduceSub, List.replicate_succ, List.replicate_zero, List.cons_append, List.nil_append])
        (repeat (first | (with_reducible first | refine AX_block ?_ | refine AX_skip ?_ | refine AX_exit ?_ | refine AX_ret ?_ | refine AX_ift ?_ | refine AX_iff ?_ | refine AX_seq_k (fun K hK => ?_) | refine ContX.use (by assumption) ?_) | simp only [thenX, inBlockX, if_true, if_false, reduceCtorEq]))
        ((with_reducible refine AX_reg0 fun K hK => ?_); simp only [go_sem])
        repeat (first | ((with_reducible refine XOP tyOK ?_); simp (disch := omega) only [go_sem , range_rowsU, iInts, iRows, iRows3, iFlat, szG, hs1, hs2, hs3, rows_one, rows_take, atV_len, List.length_nil]; (with_reducible refine XRes_id ?_)) | (with_reducible refine XSK ?_))
        ((with_reducible refine XRes_nil ?_); refine hK _ ?_; clear hK K)
        (repeat (first | (with_reducible first | refine AX_block ?_ | refine AX_skip ?_ | refine AX_exit ?_ | refine AX_ret ?_ | refine AX_ift ?_ | refine AX_iff ?_ | refine AX_seq_k (fun K hK => ?_) | refine ContX.use (by assumption) ?_) | simp only [thenX, inBlockX, if_true, if_false, reduceCtorEq]))
        refine AX_freeze [0] [(2, .iv (.ptr (szG n m) 2))] (fun p hp => ?_) ?_
        · rw [List.mem_singleton.1 hp]; exact frz_sz (by decide) rfl
        simp only [setN, updS, List.set_cons_succ, List.set_cons_zero]
        (refine Wk.o ?_; (repeat revert hK K); refine W0ae0a ?_; (repeat intro K hK); refine ⟨?_⟩)
        (simp only [bodyX]; refine ⟨_, by simp only [aresults, aresult, XS.as, Tryz.results28, aload, go_sem, Option.bind_some]; rfl, ?_⟩)
        exact ⟨_, .iv _ _ (.nil _ _), rfl, trivial⟩
    · rw [show stL n m init = [] by unfold stL; rw [if_neg (fun h => hi h.2.1)]]
      (refine SF_of_bodyX (aload tt) (aload_ok tyOK) Tryz.func28 rfl (by kernel_rfl) ?_; simp only [Tryz.ntmps28, List.length_cons, List.length_nil, Nat.reduceAdd, Nat.reduceSub, List.replicate_succ, List.replicate_zero, List.cons_append, List.nil_append])
      (repeat (first | (with_reducible first | refine AX_block ?_ | refine AX_skip ?_ | refine AX_exit ?_ | refine AX_ret ?_ | refine AX_ift ?_ | refine AX_iff ?_ | refine AX_seq_k (fun K hK => ?_) | refine ContX.use (by assumption) ?_) | simp only [thenX, inBlockX, if_true, if_false, reduceCtorEq]))
      ((with_reducible refine AX_reg0 fun K hK => ?_); simp only [go_sem])
      repeat (first | ((with_reducible refine XOP tyOK ?_); simp (disch := omega) only [go_sem , range_rowsU, iInts, iRows, iRows3, iFlat, szG, hs1, hs2, hs3, rows_one, rows_take, atV_len, List.length_nil]; (with_reducible refine XRes_id ?_)) | (with_reducible refine XSK ?_))
      ((with_reducible refine XRes_nil ?_); refine hK _ ?_; clear hK K)
      (repeat (first | (with_reducible first | refine AX_block ?_ | refine AX_skip ?_ | refine AX_exit ?_ | refine AX_ret ?_ | refine AX_ift ?_ | refine AX_iff ?_ | refine AX_seq_k (fun K hK => ?_) | refine ContX.use (by assumption) ?_) | simp only [thenX, inBlockX, if_true, if_false, reduceCtorEq]))
      refine AX_freeze [0] [(2, .iv (.ptr (szG n m) 2))] (fun p hp => ?_) ?_
      · rw [List.mem_singleton.1 hp]; exact frz_sz (by decide) rfl
      simp only [setN, updS, List.set_cons_succ, List.set_cons_zero]
      (refine Wk.o ?_; (repeat revert hK K); refine W0ae0a ?_; (repeat intro K hK); refine ⟨?_⟩)
      (simp only [bodyX]; refine ⟨_, by simp only [aresults, aresult, XS.as, Tryz.results28, aload, go_sem, Option.bind_some]; rfl, ?_⟩)
      exact ⟨_, .iv _ _ (.nil _ _), rfl, trivial⟩
  · rw [nCheck_no hok] at hCk
    rw [show stL n m init = [] by unfold stL; rw [if_neg (fun h => hok h.1)]]
    (refine SF_of_bodyX (aload tt) (aload_ok tyOK) Tryz.func28 rfl (by kernel_rfl) ?_; simp only [Tryz.ntmps28, List.length_cons, List.length_nil, Nat.reduceAdd, Nat.reduceSub, List.replicate_succ, List.replicate_zero, List.cons_append, List.nil_append])
    (repeat (first | (with_reducible first | refine AX_block ?_ | refine AX_skip ?_ | refine AX_exit ?_ | refine AX_ret ?_ | refine AX_ift ?_ | refine AX_iff ?_ | refine AX_seq_k (fun K hK => ?_) | refine ContX.use (by assumption) ?_) | simp only [thenX, inBlockX, if_true, if_false, reduceCtorEq]))
    ((with_reducible refine AX_reg0 fun K hK => ?_); simp only [go_sem])
    repeat (first | ((with_reducible refine XOP tyOK ?_); simp (disch := omega) only [go_sem , range_rowsU, iInts, iRows, iRows3, iFlat, szG, hs1, hs2, hs3, rows_one, rows_take, atV_len, List.length_nil]; (with_reducible refine XRes_id ?_)) | (with_reducible refine XSK ?_))
    ((with_reducible refine XRes_nil ?_); refine hK _ ?_; clear hK K)
    (repeat (first | (with_reducible first | refine AX_block ?_ | refine AX_skip ?_ | refine AX_exit ?_ | refine AX_ret ?_ | refine AX_ift ?_ | refine AX_iff ?_ | refine AX_seq_k (fun K hK => ?_) | refine ContX.use (by assumption) ?_) | simp only [thenX, inBlockX, if_true, if_false, reduceCtorEq]))
    refine AX_freeze [0] [(2, .iv (.ptr (szG n m) 2))] (fun p hp => ?_) ?_
    · rw [List.mem_singleton.1 hp]; exact frz_sz (by decide) rfl
    simp only [setN, updS, List.set_cons_succ, List.set_cons_zero]
    (refine Wk.o ?_; (repeat revert hK K); refine W0ae0a ?_; (repeat intro K hK); refine ⟨?_⟩)
    (simp only [bodyX]; refine ⟨_, by simp only [aresults, aresult, XS.as, Tryz.results28, aload, go_sem, Option.bind_some]; rfl, ?_⟩)
    exact ⟨_, .iv _ _ (.nil _ _), rfl, trivial⟩
end Go.Proofs.YtcjnikkmjhagmaaGreatDoor
namespace Go.Proofs.YtcjnikkmjhagmaaGreatDoor
open Go.RowKit
set_option linter.unusedVariables false
set_option linter.unusedSimpArgs false
structure ClLen (o : Ob) (l : List Op5) : Prop where
  pl : ((plCl (mN o l) (mS o l)).length : Int) = qP (mN o l) (mS o l)
  st : ((stL (mN o l) (mS o l) o.I).length : Int) = qS (mN o l) (mS o l)
  tm : (tmL (mN o l) (mS o l) (oPairL l l.length) (prN l)).length ≤ 100000000
  mv : (mRes o l).length ≤ 100000000
  all : ((plCl (mN o l) (mS o l)).length : Int) + (tmL (mN o l) (mS o l) (oPairL l l.length) (prN l)).length + (stL (mN o l) (mS o l) o.I).length + (mRes o l).length = cAll (mN o l) (mS o l) l
  no : ¬ nOk (mN o l) (mS o l) → cAll (mN o l) (mS o l) l = 0
theorem pairs_even (l : List Op5) : ∀ k, ∃ z, (oPairL l k).length = z * 2
  | 0 => ⟨0, by simp [oPairL]⟩
  | k + 1 => by
    obtain ⟨n, h1, h2⟩ := oPair_len l k l.length
    obtain ⟨z, hz⟩ := pairs_even l k
    exact ⟨z + n, by rw [oPairL_succ, List.length_append, h2, hz]; omega⟩
set_option maxRecDepth 100000 in
set_option maxHeartbeats 1000000 in
theorem pf_few (o : Ob) : PF Tryz.prog 7 [obA o] fun r H' => r = lt (.bool (decide ((o.R.length : Int) ≤ 300))) ∧ H' = [] := by
  refine SF.forgetAll ?_
  (refine SF_of_bodyX (aload tt) (aload_ok tyOK) Tryz.func7 rfl (by kernel_rfl) ?_; simp only [Tryz.ntmps7, List.length_cons, List.length_nil, Nat.reduceAdd, Nat.reduceSub, List.replicate_succ, List.replicate_zero, List.cons_append, List.nil_append])
  have hs1 := trivial; have hs2 := trivial; have hs3 := trivial
  repeat (first | (first | (with_reducible first | refine AX_block ?_ | refine AX_skip ?_ | refine AX_exit ?_ | refine AX_ret ?_ | refine AX_ift ?_ | refine AX_iff ?_ | refine AX_seq_k (fun K hK => ?_) | refine ContX.use (by assumption) ?_) | simp only [thenX, inBlockX, if_true, if_false, reduceCtorEq]) | (first | ((first | (with_reducible refine XRes_op tyOK ?_ ?_) | ((with_reducible first | refine ADF_op tyOK ?_ ?_ ?_ | refine ADX_op tyOK ?_ ?_ ?_); (focus rfl)) | (with_reducible refine ADR_alloc1 tyOK ?_ ?_) | ((with_reducible refine ADR_free1 tyOK ?_ ?_ ?_); (focus rfl)) | ((with_reducible refine ADR_free0 tyOK ?_ ?_ ?_); (focus rfl)) | ((with_reducible refine ADR_read1 tyOK ?_ ?_ ?_); (focus rfl)) | (with_reducible refine ADR_chg1 tyOK ?_ ?_)); (focus (first | (with_reducible rfl) | ((simp (disch := omega) only [go_sem]); done))); simp (disch := omega) only [go_sem , iOps, iFlat, iInts, iRows, hs1, hs2, hs3, List.length_nil]; (first | (with_reducible refine XRes_id ?_) | (with_reducible refine ADF_id ?_) | (with_reducible refine ADR_id1 ?_) | (with_reducible refine ADX_id ?_))) | ((first | (with_reducible refine XRes_skip ?_ ?_) | (with_reducible refine ADF_skip (b := true) ?_ ?_) | (with_reducible refine ADX_skip ?_ ?_) | ((with_reducible refine ADR_skip1 ?_ ?_ ?_); (focus rfl))); (focus (first | rfl | ((simp (disch := omega) only [go_sem]); done))); (simp only [putL, List.set_cons_succ, List.set_cons_zero]))) | ((first | (with_reducible refine XRes_nil ?_) | (with_reducible refine ADF_nil ?_) | (with_reducible refine ADR_nil ?_) | (with_reducible refine ADX_nil ?_)); (first | refine hK _ ?_ | refine hK _ _ ?_); clear hK K) | ((first | (with_reducible refine AX_reg0 fun K hK => ?_) | (refine AX_drawG1 tyOK (by kernel_rfl) (by rfl) (by kernel_rfl) fun K hK => ?_) | (refine AX_drawT tyOK (by kernel_rfl) (by decide +kernel) fun K hK => ?_) | (refine AX_drawM1 (by kernel_rfl) (by rfl) (by decide +kernel) fun K hK => ?_) | (refine AX_drawA tyOK (by kernel_rfl) (by decide +kernel) fun K hK => ?_)); (first | simp only [go_sem, preN, effOp, runF, alM, mapOp, alD2, kdOf2, Bool.not_false, Bool.not_true, reduceCtorEq] | simp only [go_sem, preN, effOp, runF, alM, mapOp, Bool.not_false, Bool.not_true, reduceCtorEq] | simp only [go_sem, preN, effOp, runF, alD2, kdOf2, Bool.not_false, Bool.not_true, reduceCtorEq] | simp only [go_sem, alD2, kdOf2, Bool.not_false, Bool.not_true, reduceCtorEq] | simp only [go_sem, preN, effOp, runF, Bool.not_false, Bool.not_true, reduceCtorEq] | simp only [go_sem])))
  (simp only [bodyX]; refine ⟨_, by simp only [aresults, aresult, XS.as, Tryz.results7, aload, go_sem, Option.bind_some]; rfl, ?_⟩)
  exact ⟨.iv _, rfl, trivial⟩
end Go.Proofs.YtcjnikkmjhagmaaGreatDoor
namespace Go.Proofs.YtcjnikkmjhagmaaGreatDoor
open Go.RowKit
theorem tri_succ (n : Nat) : tri (n + 1) = tri n + n := by
  have h1 := tri_two n
  have h2 := tri_two (n + 1)
  rcases Nat.eq_zero_or_pos n with rfl | hp
  · rfl
  have e : (n + 1) * (n + 1 - 1) = n * (n - 1) + 2 * n := by
    obtain ⟨m, rfl⟩ : ∃ m, n = m + 1 := ⟨n - 1, by omega⟩
    simp only [Nat.add_sub_cancel]
    rw [Nat.add_mul (m + 1) 1 (m + 1), Nat.mul_succ (m + 1) m]; omega
  rw [e] at h2; omega
theorem msUp_tri (xs : List Int) : ∀ k, k ≤ xs.length → (msUp xs k).length + tri (xs.length - k) = tri xs.length
  | 0, _ => by simp [msUp]
  | k + 1, h => by
    have := msUp_tri xs k (by omega)
    have e : msUp xs (k + 1) = msUp xs k ++ msRow xs k (xs.length - (k + 1)) := by unfold msUp; rw [List.range_succ, List.flatMap_append]; simp
    have e2 : (msRow xs k (xs.length - (k + 1))).length = xs.length - (k + 1) := by unfold msRow; simp
    have e3 : xs.length - k = xs.length - (k + 1) + 1 := by omega
    rw [e3, tri_succ] at this
    rw [e, List.length_append, e2]; omega
theorem msAll_tri (xs : List Int) : (msAll xs).length = tri xs.length := by
  have := msUp_tri xs xs.length (Nat.le_refl _)
  rw [Nat.sub_self] at this
  exact this
theorem flatM_len {α : Type} (f : Nat → List α) (c : Nat) (hf : ∀ i, (f i).length = c) : ∀ k, ((List.range k).flatMap f).length = k * c
  | 0 => by simp
  | k + 1 => by
    have := flatM_len f c hf k
    rw [List.range_succ, List.flatMap_append, List.length_append, this, Nat.add_mul]; simp [hf k]
theorem plCl_len (n m : Int) : ((plCl n m).length : Int) = qP n m := by
  unfold plCl qP
  by_cases h : nOk n m
  · rw [if_pos h, if_pos h, List.length_append]
    unfold plU1 plU2
    rw [flatM_len _ (1 + tri n.toNat) (fun i => by rw [List.length_cons, msAll_tri]; simp [rowV]; omega), flatM_len _ (tri n.toNat) (fun i => by rw [msAll_tri]; simp [colV])]
    unfold cP
    generalize n.toNat = N
    generalize tri N = T
    rw [Nat.mul_add, Nat.mul_one]; push_cast; rw [Int.mul_assoc]; omega
  · rw [if_neg h, if_neg h]; rfl
theorem stL_len (n m init : Int) (hi : nOk n m → 0 ≤ init ∧ init < m) : ((stL n m init).length : Int) = qS n m := by
  unfold stL qS
  by_cases h : nOk n m
  · rw [if_pos ⟨h, hi h⟩, if_pos h, List.length_cons]
    unfold stUp
    rw [flatM_len _ (1 + tri m.toNat) (fun i => by unfold stP; rw [List.length_cons, msAll_tri]; simp [atV]; omega)]
    unfold cSt
    push_cast; omega
  · rw [if_neg (fun hh => h hh.1), if_neg h]; rfl
theorem cAll_no {n m : Int} {l : List Op5} (h : ¬ nOk n m) : cAll n m l = 0 := by unfold cAll; rw [if_neg fun hh => h hh.2.1]
end Go.Proofs.YtcjnikkmjhagmaaGreatDoor
