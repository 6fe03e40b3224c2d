import Derived.Test.YtcjnikkmjhagmaaGreatDoorMgBG
import Derived.Test.YtcjnikkmjhagmaaGreatDoorMgAS
import Derived.Test.YtcjnikkmjhagmaaGreatDoorMgBI
import Derived.Test.YtcjnikkmjhagmaaGreatDoorMgBF
namespace Go.Proofs.YtcjnikkmjhagmaaGreatDoor
open Go.RowKit
set_option linter.unusedVariables false
set_option linter.unusedSimpArgs false
theorem W0c0ba {A B : Prop} (h9 : B) (w : B → A := by (intro h9; (repeat intro K hK); refine ⟨?_⟩; (repeat (first | (first | (with_reducible first | refine AX_block ?_ | refine AX_skip ?_ | refine AX_exit ?_ | refine AX_ret ?_ | refine AX_ift ?_ | refine AX_iff ?_ | refine AX_seq_k (fun K hK => ?_) | refine ContX.use (by assumption) ?_) | simp only [thenX, inBlockX, if_true, if_false, reduceCtorEq]) | (first | ((with_reducible refine XOP tyOK ?_); simp (disch := omega) only [go_sem , iInts, iBools, Int.add_sub_cancel, hs1, hs2, hs3, hs4, hs5, rep_lb, rep_lintI, lint_set, ooT_len, ooU_len, List.length_nil]; (with_reducible refine XRes_id ?_)) | (with_reducible refine XSK ?_)) | ((with_reducible refine XRes_nil ?_); refine hK _ ?_; clear hK K) | ((with_reducible refine AX_reg0 fun K hK => ?_); simp only [go_sem]) | (first | (first | refine XTL (by rfl) hCk ?_ | refine XTL (by rfl) hVs ?_ | refine XTL (by rfl) hC ?_ | refine XTL (by rfl) hO ?_)))); refine Wk.o ?_; (repeat revert hK K); exact h9)) : A := w h9
set_option maxRecDepth 100000 in
set_option maxHeartbeats 1000000 in
theorem pf_only (xs : List Int) (M : List Bool) (hx : xs.length ≤ 100000) (hM : M.length ≤ 1000000) (hb : ∀ k, k < xs.length → 1 ≤ xs.getD k 0 ∧ xs.getD k 0 ≤ M.length) : PF Tryz.prog 93 [.iv (iInts xs), .iv (iBools M)] fun r H' => r = .tup [lt (.int .i64 (lastT (fun i => tAt M (xs.getD i 0)) xs.length)), lt (.bool (decide (cntT (fun i => tAt M (xs.getD i 0)) xs.length = 1)))] ∧ H' = [] := by
  refine SF.forgetAll ?_
  have hs1 := trivial; have hs2 := trivial; have hs3 := trivial; have hs4 := trivial; have hs5 := trivial; have hC := trivial; have hCk := trivial; have hVs := trivial; have hO := trivial
  (refine SF_of_bodyX (aload tt) (aload_ok tyOK) Tryz.func93 rfl (by kernel_rfl) ?_; simp only [Tryz.ntmps93, List.length_cons, List.length_nil, Nat.reduceAdd, Nat.reduceSub, List.replicate_succ, List.replicate_zero, List.cons_append, List.nil_append])
  unfold iInts iBools
  (refine Wk.o ?_; (repeat revert hK K); refine W0c0ba ?_; (repeat intro K hK); refine ⟨?_⟩)
  (refine AWH (σ := Nat × Nat × Nat) [13, 14, 15, 16, 8, 9, 17, 18, 19, 20, 21, 22, 23, 24, 25] (fun (k, a, c) => [(12, lint k), (6, lint a), (7, lint c)]) (fun (k, a, c) => []) (fun (k, a, c) => []) (fun (k, a, c) => k ≤ xs.length ∧ a = lastT (fun i => tAt M (xs.getD i 0)) k ∧ c = cntT (fun i => tAt M (xs.getD i 0)) k ∧ c ≤ k) (fun (k, a, c) => xs.length - k) (0, 0, 0) (by first | exact ⟨Nat.zero_le _, rfl, rfl, Nat.le_refl _⟩) ?_; rintro ⟨k, a, c⟩ d fr hfr ⟨hk, ha, hc, hck⟩; simp only [updS, deadS, List.set_cons_succ, List.set_cons_zero, lint] at hfr; subst hfr; (try dsimp only))
  by_cases hlt : k < xs.length
  · have hbk := hb k hlt
    cases ht : tAt M (xs.getD k 0) with
    | true =>
      have hs1 : M.getD (xs.getD k 0 - 1).toNat false = true := ht
      (refine Wk.o ?_; (repeat revert hK K); refine W0c0ba ?_; (repeat intro K hK); refine ⟨?_⟩)
      exact WRN [] (k + 1, k, c + 1) ⟨by omega, by simp only [lastT, ht, if_true], by simp only [cntT, ht, if_true, hc], by (first | omega | (dsimp only; omega) | (simp only; omega))⟩ (by (first | omega | (dsimp only; omega) | (simp only; omega)))
    | false =>
      have hs1 : M.getD (xs.getD k 0 - 1).toNat false = false := ht
      (refine Wk.o ?_; (repeat revert hK K); refine W0c0ba ?_; (repeat intro K hK); refine ⟨?_⟩)
      exact WRN [] (k + 1, a, c) ⟨by omega, by simp only [lastT, ht, Bool.false_eq_true, if_false, ha], by simp only [cntT, ht, Bool.false_eq_true, if_false, hc], by (first | omega | (dsimp only; omega) | (simp only; omega))⟩ (by (first | omega | (dsimp only; omega) | (simp only; omega)))
  · obtain rfl : k = xs.length := by omega
    by_cases h1 : c = 1
    · subst h1
      (refine Wk.o ?_; (repeat revert hK K); refine W0c0ba ?_; (repeat intro K hK); refine ⟨?_⟩)
      (simp only [bodyX]; refine ⟨_, by simp only [aresults, aresult, XS.as, Tryz.results93, aload, go_sem, Option.bind_some]; rfl, ?_⟩)
      exact ⟨ids_idB rfl, by rw [← ha, ← hc]; rfl, trivial⟩
    · (refine Wk.o ?_; (repeat revert hK K); refine W0c0ba ?_; (repeat intro K hK); refine ⟨?_⟩)
      (simp only [bodyX]; refine ⟨_, by simp only [aresults, aresult, XS.as, Tryz.results93, aload, go_sem, Option.bind_some]; rfl, ?_⟩)
      exact ⟨ids_idB rfl, by rw [← ha, ← hc, decide_eq_false h1], trivial⟩
theorem rowV_at (n m : Int) (q : Int) {k i : Nat} (h : i < k) : (rowV n m q k).getD i 0 = nVar n m 1 q i := by
  unfold rowV; rw [List.getD_eq_getElem?_getD, List.getElem?_map, List.getElem?_range h]; rfl
theorem rowV_ln (n m : Int) (q : Int) (k : Nat) : (rowV n m q k).length = k := by unfold rowV; simp
theorem cntT_cg {f g : Nat → Bool} : ∀ k, (∀ i, i < k → f i = g i) → cntT f k = cntT g k ∧ lastT f k = lastT g k
  | 0, _ => ⟨rfl, rfl⟩
  | k + 1, h => by
    have ih := cntT_cg k fun i hi => h i (by omega)
    simp only [cntT, lastT, h k (by omega), ih.1, ih.2]; exact ⟨trivial, trivial⟩
set_option maxRecDepth 100000 in
set_option maxHeartbeats 4000000 in
theorem pf_Order (n m : Int) (M : List Bool) (hM : M.length ≤ 1000000) : PF Tryz.prog 37 [szA n m, .iv (iBools M)] fun r H' => r = .tup [.iv (iInts (ooX n m M)), lt (.bool (decide (ooOk n m M)))] ∧ H' = [] := by
  refine SF.frozen ?_
  have hs1 := trivial; have hs2 := trivial; have hs3 := trivial; have hs4 := trivial; have hs5 := trivial; have hC := trivial; have hO := trivial
  have hCk := pf_nCheck n m
  have hVs := pf_nVars n m
  by_cases hok : nOk n m
  · rw [nCheck_yes hok] at hCk
    by_cases hl : (M.length : Int) = nVars n m
    · have hnoG := fun (k : Nat) (hk : k < n.toNat) (h : ¬ ooG n.toNat m M k) => oo_no (n := n) (m := m) (M := M) fun hh => h (hh.2.2 k hk)
      have hyes := fun (h : ∀ k, k < n.toNat → ooG n.toNat m M k) => oo_yes (n := n) (m := m) (M := M) ⟨hok, hl, h⟩
      obtain ⟨n, rfl⟩ : ∃ N : Nat, n = N := ⟨n.toNat, by unfold nOk at hok; omega⟩
      rw [Int.toNat_natCast] at hnoG hyes
      have hn : n ≤ 64 := by unfold nOk at hok; omega
      rw [← hl] at hVs
      (refine SF_of_bodyX (aload tt) (aload_ok tyOK) Tryz.func37 rfl (by kernel_rfl) ?_; simp only [Tryz.ntmps37, List.length_cons, List.length_nil, Nat.reduceAdd, Nat.reduceSub, List.replicate_succ, List.replicate_zero, List.cons_append, List.nil_append])
      unfold iBools
      (refine Wk.o ?_; (repeat revert hK K); refine W0c0ba ?_; (repeat intro K hK); refine ⟨?_⟩)
      rw [show (List.replicate n (0 : Int)) = ooU n m M 0 from rfl, show List.replicate n false = ooT n m M 0 from rfl]
      (refine AWH (σ := Nat) [30, 31, 8, 33, 34, 35, 36, 37, 32, 38, 39, 9, 10, 40, 41, 42, 43, 44, 45, 46, 47, 4, 5, 48, 49, 50, 51, 52, 53, 54, 55] (fun k => [(29, lint k)]) (fun k => [some ⟨51, [lt (.int .i64 n), lt (.int .i64 m)]⟩, some ⟨3, (ooU n m M k).map lint⟩, some ⟨4, (ooT n m M k).map lb⟩]) (fun k => []) (fun k => k ≤ n ∧ ∀ j, j < k → ooG n m M j) (fun k => n - k) 0 (by first | exact ⟨Nat.zero_le _, fun j h => absurd h (by omega)⟩) ?_; rintro k d fr hfr ⟨hk, hj⟩; simp only [updS, deadS, List.set_cons_succ, List.set_cons_zero, lint] at hfr; subst hfr; (try dsimp only))
      have hul := ooU_len n m M k
      have htl := ooT_len n m M k
      by_cases hlt : k < n
      · have hC := pf_ofOper n m k hn
        have hO := pf_only (rowV n m k n) M (by rw [rowV_ln]; omega) hM (fun i hi => by
          rw [rowV_ln] at hi
          rw [rowV_at _ _ _ hi, hl]
          exact nVar_pos (nName_1 hok (by omega) (by omega) (by omega) (by omega)))
        have hcg := cntT_cg (f := fun i => tAt M ((rowV n m k n).getD i 0)) (g := ptF n m M k) n fun i hi => by rw [rowV_at _ _ _ hi]; rfl
        rw [rowV_ln, hcg.1, hcg.2] at hO
        by_cases h1 : cntT (ptF n m M k) n = 1
        · rw [decide_eq_true h1] at hO
          have hq := (one_at h1).1
          have hq2 : lastT (ptF n m M k) n = ooP n m M k := rfl
          rw [hq2] at hO hq
          have eU : ooU n m M (k + 1) = (ooU n m M k).set (ooP n m M k) k := rfl
          have eT : ooT n m M (k + 1) = (ooT n m M k).set (ooP n m M k) true := rfl
          have hgk : (ooT n m M k).getD (ooP n m M k) false = false → ooG n m M k := fun h => ⟨h1, h⟩
          have hng : (ooT n m M k).getD (ooP n m M k) false = true → ¬ ooG n m M k := fun h hh => by have h5 := hh.2; rw [h] at h5; cases h5
          generalize hp : ooP n m M k = p at *
          cases h3 : (ooT n m M k).getD p false with
          | false =>
            have hs2 := h3
            have hgk := hgk h3
            (refine Wk.o ?_; (repeat revert hK K); refine W0c0ba ?_; (repeat intro K hK); refine ⟨?_⟩)
            refine whx_ren [0, 1, 2] (k + 1) ⟨by omega, fun j hj3 => ?_⟩ (by (first | omega | (dsimp only; omega) | (simp only; omega))) rfl (by decide) (by decide) (by (simp (disch := omega) only [go_sem, lint])) (by (simp (disch := omega) only [go_sem, lint])) (by rw [eU, eT]; (simp (disch := omega) only [go_sem, lint])) (fun d => by (simp (disch := omega) only [go_sem, lint]))
            rcases Nat.lt_or_ge j k with h | h
            · exact hj j h
            · rw [show j = k by omega]; exact hgk
          | true =>
            have hs2 := h3
            obtain ⟨f1, f2⟩ := hnoG k (by omega) (hng h3)
            (refine Wk.o ?_; (repeat revert hK K); refine W0c0ba ?_; (repeat intro K hK); refine ⟨?_⟩)
            (simp only [bodyX]; refine ⟨_, by simp only [aresults, aresult, XS.as, Tryz.results37, aload, go_sem, Option.bind_some]; rfl, ?_⟩)
            exact ⟨_, Snap.twoP (.iv _ _ (.nil _ _)) (.same _ (.iv _)), by rw [f1, f2]; rfl, trivial⟩
        · rw [decide_eq_false h1] at hO
          obtain ⟨f1, f2⟩ := hnoG k (by omega) fun h => h1 h.1
          (refine Wk.o ?_; (repeat revert hK K); refine W0c0ba ?_; (repeat intro K hK); refine ⟨?_⟩)
          (simp only [bodyX]; refine ⟨_, by simp only [aresults, aresult, XS.as, Tryz.results37, aload, go_sem, Option.bind_some]; rfl, ?_⟩)
          exact ⟨_, Snap.twoP (.iv _ _ (.nil _ _)) (.same _ (.iv _)), by rw [f1, f2]; rfl, trivial⟩
      · obtain rfl : k = n := by omega
        obtain ⟨f1, f2⟩ := hyes hj
        (refine Wk.o ?_; (repeat revert hK K); refine W0c0ba ?_; (repeat intro K hK); refine ⟨?_⟩)
        (simp only [bodyX]; refine ⟨_, by simp only [aresults, aresult, XS.as, Tryz.results37, aload, go_sem, Option.bind_some]; rfl, ?_⟩)
        exact ⟨_, Snap.twoP (snap_ints rfl hul.symm) (.same _ (.iv _)), by rw [f1, f2], trivial⟩
    · have hno : ¬ ooOk n m M := fun h => hl h.2.1
      have hvb : 0 ≤ nVars n m ∧ nVars n m ≤ 6240 := nVars_nonneg n m
      generalize nVars n m = V at *
      (refine SF_of_bodyX (aload tt) (aload_ok tyOK) Tryz.func37 rfl (by kernel_rfl) ?_; simp only [Tryz.ntmps37, List.length_cons, List.length_nil, Nat.reduceAdd, Nat.reduceSub, List.replicate_succ, List.replicate_zero, List.cons_append, List.nil_append])
      unfold iBools
      (refine Wk.o ?_; (repeat revert hK K); refine W0c0ba ?_; (repeat intro K hK); refine ⟨?_⟩)
      ((simp only [bodyX]; refine ⟨_, by simp only [aresults, aresult, XS.as, Tryz.results37, aload, go_sem, Option.bind_some]; rfl, ?_⟩); exact ⟨_, Snap.twoP (.iv _ _ (.nil _ _)) (.same _ (.iv _)), by (rw [(oo_no hno).1, (oo_no hno).2]) <;> rfl, trivial⟩)
  · have hno : ¬ ooOk n m M := fun h => hok h.1
    rw [nCheck_no hok] at hCk
    (refine SF_of_bodyX (aload tt) (aload_ok tyOK) Tryz.func37 rfl (by kernel_rfl) ?_; simp only [Tryz.ntmps37, List.length_cons, List.length_nil, Nat.reduceAdd, Nat.reduceSub, List.replicate_succ, List.replicate_zero, List.cons_append, List.nil_append])
    unfold iBools
    (refine Wk.o ?_; (repeat revert hK K); refine W0c0ba ?_; (repeat intro K hK); refine ⟨?_⟩)
    ((simp only [bodyX]; refine ⟨_, by simp only [aresults, aresult, XS.as, Tryz.results37, aload, go_sem, Option.bind_some]; rfl, ?_⟩); exact ⟨_, Snap.twoP (.iv _ _ (.nil _ _)) (.same _ (.iv _)), by (rw [(oo_no hno).1, (oo_no hno).2]) <;> rfl, trivial⟩)
end Go.Proofs.YtcjnikkmjhagmaaGreatDoor
namespace Go.Proofs.YtcjnikkmjhagmaaGreatDoor
open Go.RowKit
set_option linter.unusedVariables false
set_option linter.unusedSimpArgs false
theorem atV_at' (n m q : Int) {k i : Nat} (h : i < k) : (atV n m q k).getD i 0 = nVar n m 3 q i := by
  unfold atV; rw [List.getD_eq_getElem?_getD, List.getElem?_map, List.getElem?_range h]; rfl
theorem Wf8aaa {A B : Prop} (h9 : B) (w : B → A := by (intro h9; (repeat intro K hK); refine ⟨?_⟩; (repeat (first | (first | (with_reducible first | refine AX_block ?_ | refine AX_skip ?_ | refine AX_exit ?_ | refine AX_ret ?_ | refine AX_ift ?_ | refine AX_iff ?_ | refine AX_seq_k (fun K hK => ?_) | refine ContX.use (by assumption) ?_) | simp only [thenX, inBlockX, if_true, if_false, reduceCtorEq]) | (first | ((with_reducible first | refine XOP tyOK ?_ | refine AOP tyOK ?_); simp (disch := omega) only [go_sem , iInts, iBools, szG, hs1, hs2, hs3, hs4, hs5, hs6, rep_lb, List.length_nil, Int.add_sub_cancel]; (with_reducible first | refine XRes_id ?_ | refine ADF_id ?_)) | (with_reducible first | refine XSK ?_ | refine ASK ?_)) | ((first | (with_reducible refine XRes_nil ?_) | (with_reducible refine ADF_nil ?_)); (first | refine hK _ ?_ | refine hK _ _ ?_); clear hK K) | ((first | (with_reducible refine AX_reg0 fun K hK => ?_) | (refine AX_drawG1 tyOK (by kernel_rfl) (by rfl) (by kernel_rfl) fun K hK => ?_)); simp only [go_sem]) | (first | (first | refine XTL (by rfl) hCk ?_ | refine ATL tyOK (by rfl) hCk ?_ | refine XTL (by rfl) hVs ?_ | refine ATL tyOK (by rfl) hVs ?_ | refine XTL (by rfl) hG ?_ | refine ATL tyOK (by rfl) hG ?_ | refine XTL (by rfl) hA ?_ | refine ATL tyOK (by rfl) hA ?_)))); refine Wk.o ?_; (repeat revert hK K); exact h9)) : A := w h9
set_option maxRecDepth 100000 in
set_option maxHeartbeats 1000000 in
theorem pf_row1 (n : Nat) (S : Nat) (M : List Bool) (i : Nat) (hok : nOk n S) (hl : (M.length : Int) = nVars n S) (hi : i < n + 1) : PF Tryz.prog 95 [lt (.int .i64 i), .iv (.ptr (szG n S) 2), .iv (.ptr (fun _ => iBools M) 1)] fun r H' => r = .tup [lt (.int .i64 (lastT (srF n S M i) S)), lt (.bool (decide (cntT (srF n S M i) S = 1)))] ∧ H' = [] := by
  refine SF.forgetAll ?_
  have hs1 := trivial; have hs2 := trivial; have hs3 := trivial; have hs4 := trivial; have hs5 := trivial; have hs6 := trivial; have hCk := trivial; have hVs := trivial; have hG := trivial
  have hS : S ≤ 32 := by unfold nOk at hok; omega
  have hA := pf_at n S i hS
  have hM : M.length ≤ 1000000 := by have := nVars_nonneg n S; omega
  have hb : ∀ k, k < S → 1 ≤ (atV n S i S).getD k 0 ∧ (atV n S i S).getD k 0 ≤ M.length := fun k hk => by
    rw [atV_at' _ _ _ hk, hl]
    exact nVar_pos ⟨hok, by decide, by decide, by omega, (by show (i : Int) < n + 1; omega), by omega, (by show (k : Int) < S; omega)⟩
  have hcg := cntT_cg (f := fun k => tAt M ((atV n S i S).getD k 0)) (g := srF n S M i) S fun k hk => by simp only [atV_at' _ _ _ hk]; rfl
  rw [← hcg.1, ← hcg.2]
  clear hcg
  have hln := atV_len n S i S
  generalize atV n S i S = xs at *
  (refine SF_of_bodyX (aload tt) (aload_ok tyOK) Tryz.func95 rfl (by kernel_rfl) ?_; simp only [Tryz.ntmps95, List.length_cons, List.length_nil, Nat.reduceAdd, Nat.reduceSub, List.replicate_succ, List.replicate_zero, List.cons_append, List.nil_append])
  unfold iBools
  unfold iInts at hA
  (refine Wk.o ?_; (repeat revert hK K); refine Wf8aaa ?_; (repeat intro K hK); refine ⟨?_⟩)
  (refine AWH (σ := Nat × Nat × Nat) [14, 15, 16, 17, 7, 8, 18, 19, 20, 21, 22, 23, 24, 25, 26] (fun (k, a, c) => [(13, lint k), (4, lint a), (6, lint c)]) (fun (k, a, c) => []) (fun (k, a, c) => []) (fun (k, a, c) => k ≤ S ∧ a = lastT (fun i => tAt M (xs.getD i 0)) k ∧ c = cntT (fun i => tAt M (xs.getD i 0)) k ∧ c ≤ k) (fun (k, a, c) => S - k) (0, 0, 0) (by first | exact ⟨Nat.zero_le _, rfl, rfl, Nat.le_refl _⟩) ?_; rintro ⟨k, a, c⟩ d fr hfr ⟨hk, ha, hc, hck⟩; simp only [updS, deadS, List.set_cons_succ, List.set_cons_zero, lint] at hfr; subst hfr; (try dsimp only))
  by_cases hlt : k < S
  · have hbk := hb k hlt
    cases ht : tAt M (xs.getD k 0) with
    | true =>
      have hs1 : M.getD (xs.getD k 0 - 1).toNat false = true := ht
      (refine Wk.o ?_; (repeat revert hK K); refine Wf8aaa ?_; (repeat intro K hK); refine ⟨?_⟩)
      exact WRN [] (k + 1, k, c + 1) ⟨by omega, by simp only [lastT, ht, if_true], by simp only [cntT, ht, if_true, hc], by (first | omega | (dsimp only; omega) | (simp only; omega))⟩ (by (first | omega | (dsimp only; omega) | (simp only; omega)))
    | false =>
      have hs1 : M.getD (xs.getD k 0 - 1).toNat false = false := ht
      (refine Wk.o ?_; (repeat revert hK K); refine Wf8aaa ?_; (repeat intro K hK); refine ⟨?_⟩)
      exact WRN [] (k + 1, a, c) ⟨by omega, by simp only [lastT, ht, Bool.false_eq_true, if_false, ha], by simp only [cntT, ht, Bool.false_eq_true, if_false, hc], by (first | omega | (dsimp only; omega) | (simp only; omega))⟩ (by (first | omega | (dsimp only; omega) | (simp only; omega)))
  · obtain rfl : k = S := by omega
    by_cases h1 : c = 1
    · subst h1
      (refine Wk.o ?_; (repeat revert hK K); refine Wf8aaa ?_; (repeat intro K hK); refine ⟨?_⟩)
      (simp only [bodyX]; refine ⟨_, by simp only [aresults, aresult, XS.as, Tryz.results95, aload, go_sem, Option.bind_some]; rfl, ?_⟩)
      exact ⟨ids_idB rfl, by rw [← ha, ← hc]; rfl, trivial⟩
    · (refine Wk.o ?_; (repeat revert hK K); refine Wf8aaa ?_; (repeat intro K hK); refine ⟨?_⟩)
      (simp only [bodyX]; refine ⟨_, by simp only [aresults, aresult, XS.as, Tryz.results95, aload, go_sem, Option.bind_some]; rfl, ?_⟩)
      exact ⟨ids_idB rfl, by rw [← ha, ← hc, decide_eq_false h1], trivial⟩
set_option maxRecDepth 100000 in
set_option maxHeartbeats 4000000 in
theorem pf_Row (n m : Int) (M : List Bool) (hM : M.length ≤ 1000000) : PF Tryz.prog 39 [szA n m, .iv (iBools M)] fun r H' => r = .tup [.iv (iInts (sxX n m M)), lt (.bool (decide (sxOk n m M)))] ∧ H' = [] := by
  refine SF.frozen ?_
  have hs1 := trivial; have hs2 := trivial; have hs3 := trivial; have hs4 := trivial; have hs5 := trivial; have hs6 := trivial; have hA := trivial
  have hCk := pf_nCheck n m
  have hVs := pf_nVars n m
  by_cases hok : nOk n m
  · rw [nCheck_yes hok] at hCk
    by_cases hl : (M.length : Int) = nVars n m
    · obtain ⟨n, rfl⟩ : ∃ N : Nat, n = N := ⟨n.toNat, by unfold nOk at hok; omega⟩
      obtain ⟨m, rfl⟩ : ∃ N : Nat, m = N := ⟨m.toNat, by unfold nOk at hok; omega⟩
      have hn : n ≤ 64 := by unfold nOk at hok; omega
      have hG := pf_gatherI (n + 1) (by omega) 95 (.ptr (szG n m) 2) (.ptr (fun _ => iBools M) 1) (fun i => (lastT (srF n m M i) m : Int)) (fun i => decide (cntT (srF n m M i) m = 1)) fun i hi => pf_row1 n m M i hok hl hi
      have e1 : (gB (fun i => decide (cntT (srF n m M i) m = 1)) (n + 1)) = decide (sxOk n m M) := by
        unfold gB
        congr 1
        unfold gOk sxOk sxG
        rw [Int.toNat_natCast, Int.toNat_natCast]
        simp only [decide_eq_true_eq]
        exact propext ⟨fun h => ⟨hok, hl, h⟩, fun h => h.2.2⟩
      have e2 : gXs (fun i => (lastT (srF n m M i) m : Int)) (fun i => decide (cntT (srF n m M i) m = 1)) (n + 1) = sxX n m M := by
        by_cases hs : sxOk n m M
        · rw [(sx_yes hs).1]
          have hs' := hs
          unfold sxOk sxG at hs'
          rw [Int.toNat_natCast, Int.toNat_natCast] at hs'
          rw [(g_yes (v := fun i => (lastT (srF n m M i) m : Int)) (ok := fun i => decide (cntT (srF n m M i) m = 1)) fun i hi => decide_eq_true (hs'.2.2 i hi)).1]
          unfold sxR; rw [Int.toNat_natCast, Int.toNat_natCast]
        · rw [(sx_no hs).1]
          refine (g_no (v := fun i => (lastT (srF n m M i) m : Int)) fun hg => hs ⟨hok, hl, fun a ha => ?_⟩).1
          have := hg a (by rw [Int.toNat_natCast] at ha; exact ha)
          unfold sxG; rw [Int.toNat_natCast]; exact of_decide_eq_true this
      rw [e1, e2] at hG
      rw [← hl] at hVs
      generalize decide (sxOk n m M) = B at *
      generalize sxX n m M = X at *
      (refine SF_of_bodyX (aload tt) (aload_ok tyOK) Tryz.func39 rfl (by kernel_rfl) ?_; simp only [Tryz.ntmps39, List.length_cons, List.length_nil, Nat.reduceAdd, Nat.reduceSub, List.replicate_succ, List.replicate_zero, List.cons_append, List.nil_append])
      (repeat (first | (with_reducible first | refine AX_block ?_ | refine AX_skip ?_ | refine AX_exit ?_ | refine AX_ret ?_ | refine AX_ift ?_ | refine AX_iff ?_ | refine AX_seq_k (fun K hK => ?_) | refine ContX.use (by assumption) ?_) | simp only [thenX, inBlockX, if_true, if_false, reduceCtorEq]))
      ((first | (with_reducible refine AX_reg0 fun K hK => ?_) | (refine AX_drawG1 tyOK (by kernel_rfl) (by rfl) (by kernel_rfl) fun K hK => ?_)); simp only [go_sem])
      repeat (first | ((with_reducible first | refine XOP tyOK ?_ | refine AOP tyOK ?_); simp (disch := omega) only [go_sem , iInts, iBools, szG, hs1, hs2, hs3, hs4, hs5, hs6, rep_lb, List.length_nil, Int.add_sub_cancel]; (with_reducible first | refine XRes_id ?_ | refine ADF_id ?_)) | (with_reducible first | refine XSK ?_ | refine ASK ?_))
      ((first | (with_reducible refine XRes_nil ?_) | (with_reducible refine ADF_nil ?_)); (first | refine hK _ ?_ | refine hK _ _ ?_); clear hK K)
      (repeat (first | (with_reducible first | refine AX_block ?_ | refine AX_skip ?_ | refine AX_exit ?_ | refine AX_ret ?_ | refine AX_ift ?_ | refine AX_iff ?_ | refine AX_seq_k (fun K hK => ?_) | refine ContX.use (by assumption) ?_) | simp only [thenX, inBlockX, if_true, if_false, reduceCtorEq]))
      refine AX_freeze [0, 1] [(2, .iv (.ptr (szG n m) 2)), (3, .iv (.ptr (fun _ => iBools M) 1))] (fun p hp => ?_) ?_
      · rcases List.mem_cons.1 hp with rfl | hp
        · exact frz_sz (by decide) rfl
        · rw [List.mem_singleton.1 hp]; exact frz_row (by decide) rfl
      simp only [setN, updS, List.set_cons_succ, List.set_cons_zero]
      (refine Wk.o ?_; (repeat revert hK K); refine Wf8aaa ?_; (repeat intro K hK); refine ⟨?_⟩)
      (simp only [bodyX]; refine ⟨_, by simp only [aresults, aresult, XS.as, Tryz.results39, aload, go_sem, Option.bind_some]; rfl, ?_⟩)
      exact ⟨_, Snap.twoP (.same _ (.iv _)) (.same _ (.iv _)), rfl, trivial⟩
    · have hno : ¬ sxOk n m M := fun h => hl h.2.1
      have hvb : 0 ≤ nVars n m ∧ nVars n m ≤ 6240 := nVars_nonneg n m
      generalize nVars n m = V at *
      have hG := trivial
      (refine SF_of_bodyX (aload tt) (aload_ok tyOK) Tryz.func39 rfl (by kernel_rfl) ?_; simp only [Tryz.ntmps39, List.length_cons, List.length_nil, Nat.reduceAdd, Nat.reduceSub, List.replicate_succ, List.replicate_zero, List.cons_append, List.nil_append])
      (repeat (first | (with_reducible first | refine AX_block ?_ | refine AX_skip ?_ | refine AX_exit ?_ | refine AX_ret ?_ | refine AX_ift ?_ | refine AX_iff ?_ | refine AX_seq_k (fun K hK => ?_) | refine ContX.use (by assumption) ?_) | simp only [thenX, inBlockX, if_true, if_false, reduceCtorEq]))
      ((first | (with_reducible refine AX_reg0 fun K hK => ?_) | (refine AX_drawG1 tyOK (by kernel_rfl) (by rfl) (by kernel_rfl) fun K hK => ?_)); simp only [go_sem])
      repeat (first | ((with_reducible first | refine XOP tyOK ?_ | refine AOP tyOK ?_); simp (disch := omega) only [go_sem , iInts, iBools, szG, hs1, hs2, hs3, hs4, hs5, hs6, rep_lb, List.length_nil, Int.add_sub_cancel]; (with_reducible first | refine XRes_id ?_ | refine ADF_id ?_)) | (with_reducible first | refine XSK ?_ | refine ASK ?_))
      ((first | (with_reducible refine XRes_nil ?_) | (with_reducible refine ADF_nil ?_)); (first | refine hK _ ?_ | refine hK _ _ ?_); clear hK K)
      (repeat (first | (with_reducible first | refine AX_block ?_ | refine AX_skip ?_ | refine AX_exit ?_ | refine AX_ret ?_ | refine AX_ift ?_ | refine AX_iff ?_ | refine AX_seq_k (fun K hK => ?_) | refine ContX.use (by assumption) ?_) | simp only [thenX, inBlockX, if_true, if_false, reduceCtorEq]))
      refine AX_freeze [0, 1] [(2, .iv (.ptr (szG n m) 2)), (3, .iv (.ptr (fun _ => iBools M) 1))] (fun p hp => ?_) ?_
      · rcases List.mem_cons.1 hp with rfl | hp
        · exact frz_sz (by decide) rfl
        · rw [List.mem_singleton.1 hp]; exact frz_row (by decide) rfl
      simp only [setN, updS, List.set_cons_succ, List.set_cons_zero]
      (refine Wk.o ?_; (repeat revert hK K); refine Wf8aaa ?_; (repeat intro K hK); refine ⟨?_⟩)
      ((simp only [bodyX]; refine ⟨_, by simp only [aresults, aresult, XS.as, Tryz.results39, aload, go_sem, Option.bind_some]; rfl, ?_⟩); exact ⟨_, Snap.twoP (.iv _ _ (.nil _ _)) (.same _ (.iv _)), by (rw [(sx_no hno).1, (sx_no hno).2]) <;> rfl, trivial⟩)
  · have hno : ¬ sxOk n m M := fun h => hok h.1
    rw [nCheck_no hok] at hCk
    have hG := trivial
    (refine SF_of_bodyX (aload tt) (aload_ok tyOK) Tryz.func39 rfl (by kernel_rfl) ?_; simp only [Tryz.ntmps39, List.length_cons, List.length_nil, Nat.reduceAdd, Nat.reduceSub, List.replicate_succ, List.replicate_zero, List.cons_append, List.nil_append])
    (repeat (first | (with_reducible first | refine AX_block ?_ | refine AX_skip ?_ | refine AX_exit ?_ | refine AX_ret ?_ | refine AX_ift ?_ | refine AX_iff ?_ | refine AX_seq_k (fun K hK => ?_) | refine ContX.use (by assumption) ?_) | simp only [thenX, inBlockX, if_true, if_false, reduceCtorEq]))
    ((first | (with_reducible refine AX_reg0 fun K hK => ?_) | (refine AX_drawG1 tyOK (by kernel_rfl) (by rfl) (by kernel_rfl) fun K hK => ?_)); simp only [go_sem])
    repeat (first | ((with_reducible first | refine XOP tyOK ?_ | refine AOP tyOK ?_); simp (disch := omega) only [go_sem , iInts, iBools, szG, hs1, hs2, hs3, hs4, hs5, hs6, rep_lb, List.length_nil, Int.add_sub_cancel]; (with_reducible first | refine XRes_id ?_ | refine ADF_id ?_)) | (with_reducible first | refine XSK ?_ | refine ASK ?_))
    ((first | (with_reducible refine XRes_nil ?_) | (with_reducible refine ADF_nil ?_)); (first | refine hK _ ?_ | refine hK _ _ ?_); clear hK K)
    (repeat (first | (with_reducible first | refine AX_block ?_ | refine AX_skip ?_ | refine AX_exit ?_ | refine AX_ret ?_ | refine AX_ift ?_ | refine AX_iff ?_ | refine AX_seq_k (fun K hK => ?_) | refine ContX.use (by assumption) ?_) | simp only [thenX, inBlockX, if_true, if_false, reduceCtorEq]))
    refine AX_freeze [0, 1] [(2, .iv (.ptr (szG n m) 2)), (3, .iv (.ptr (fun _ => iBools M) 1))] (fun p hp => ?_) ?_
    · rcases List.mem_cons.1 hp with rfl | hp
      · exact frz_sz (by decide) rfl
      · rw [List.mem_singleton.1 hp]; exact frz_row (by decide) rfl
    simp only [setN, updS, List.set_cons_succ, List.set_cons_zero]
    (refine Wk.o ?_; (repeat revert hK K); refine Wf8aaa ?_; (repeat intro K hK); refine ⟨?_⟩)
    ((simp only [bodyX]; refine ⟨_, by simp only [aresults, aresult, XS.as, Tryz.results39, aload, go_sem, Option.bind_some]; rfl, ?_⟩); exact ⟨_, Snap.twoP (.iv _ _ (.nil _ _)) (.same _ (.iv _)), by (rw [(sx_no hno).1, (sx_no hno).2]) <;> rfl, trivial⟩)
end Go.Proofs.YtcjnikkmjhagmaaGreatDoor
namespace Go.Proofs.YtcjnikkmjhagmaaGreatDoor
open Go.RowKit
set_option linter.unusedVariables false
set_option linter.unusedSimpArgs false
def agF (ord : List Int) (k : Nat) : Int → Option Int := fun x => if ord.idxOf x < k then some (ord.idxOf x : Int) else none
theorem agF_zero (ord : List Int) : agF ord 0 = fun _ => none := by funext x; unfold agF; rw [if_neg (Nat.not_lt_zero _)]
theorem ix_le {ord : List Int} {k : Nat} (h : k < ord.length) : ord.idxOf (ord.getD k 0) ≤ k := by
  rcases Nat.lt_or_ge k (ord.idxOf (ord.getD k 0)) with h1 | h1
  · exfalso
    have := List.not_of_lt_findIdx (p := (· == ord.getD k 0)) (xs := ord) h1
    rw [beq_eq_false_iff_ne] at this
    exact this (by simp only [List.getD_eq_getElem?_getD, List.getElem?_eq_getElem h, Option.getD_some])
  · exact h1
theorem ix_at {ord : List Int} {x : Int} (h : ord.idxOf x < ord.length) : ord.getD (ord.idxOf x) 0 = x := by
  rw [List.getD_eq_getElem?_getD, List.getElem?_eq_getElem h]
  exact List.getElem_idxOf h
theorem agF_keep {ord : List Int} {k : Nat} (h : k < ord.length) (h1 : ord.idxOf (ord.getD k 0) < k) : agF ord (k + 1) = agF ord k := by
  funext x; unfold agF
  by_cases hx : ord.idxOf x < k
  · rw [if_pos hx, if_pos (by omega)]
  · rw [if_neg hx, if_neg]
    intro h2
    have e : ord.idxOf x = k := by omega
    have := ix_at (ord := ord) (x := x) (by omega)
    rw [e] at this
    rw [this] at h1; omega
theorem agF_put {ord : List Int} {k : Nat} (h : k < ord.length) (h1 : ¬ ord.idxOf (ord.getD k 0) < k) : agF ord (k + 1) = updF (agF ord k) (ord.getD k 0) k := by
  have h2 : ord.idxOf (ord.getD k 0) = k := by have := ix_le h; omega
  funext x; unfold agF updF
  by_cases hx : x = ord.getD k 0
  · rw [if_pos hx, hx, h2, if_pos (by omega)]
  · rw [if_neg hx]
    show (if ord.idxOf x < k + 1 then some (ord.idxOf x : Int) else none) = (if ord.idxOf x < k then some (ord.idxOf x : Int) else none)
    by_cases h3 : ord.idxOf x < k
    · rw [if_pos h3, if_pos (by omega)]
    · rw [if_neg h3, if_neg]
      intro h4
      have e : ord.idxOf x = k := by omega
      have := ix_at (ord := ord) (x := x) (by omega)
      rw [e] at this
      exact hx this.symm
theorem below_s {err : Nat → Int} {i : Nat} (hp : ∀ j, j < i → err j = 0) (h : err i = 0) : ∀ j, j < i + 1 → err j = 0 := fun j hj => by
  rcases Nat.lt_or_ge j i with h1 | h1
  · exact hp j h1
  · rw [show j = i by omega]; exact h
def agE (ord us : List Int) (i : Nat) : Int := if ord.idxOf (us.getD (i * 2 + 1) 0) < ord.idxOf (us.getD (i * 2) 0) ∧ ord.idxOf (us.getD (i * 2) 0) < ord.length then 1 else 0
set_option maxRecDepth 100000 in
set_option maxHeartbeats 4000000 in
theorem pf_Against (ord us : List Int) (Z : Nat) (ho : ord.length ≤ 1000000) (hu : us.length = Z * 2) (hZ : Z ≤ 1000000) (hob : ∀ k, -9223372036854775808 ≤ ord.getD k 0 ∧ ord.getD k 0 ≤ 9223372036854775807) (hub : ∀ k, -9223372036854775808 ≤ us.getD k 0 ∧ us.getD k 0 ≤ 9223372036854775807) : PF Tryz.prog 38 [.iv (iInts ord), .iv (iFlat us Z 2)] fun r H' => r = .tup [lt (.int .i64 (fb (agE ord us) Z)), lt (.bool (decide (fb (agE ord us) Z = Z)))] ∧ H' = [] := by
  refine SF.forgetAll ?_
  have hs1 := trivial; have hs2 := trivial; have hs3 := trivial; have hs4 := trivial
  (refine SF_of_bodyX (aload tt) (aload_ok tyOK) Tryz.func38 rfl (by kernel_rfl) ?_; simp only [Tryz.ntmps38, List.length_cons, List.length_nil, Nat.reduceAdd, Nat.reduceSub, List.replicate_succ, List.replicate_zero, List.cons_append, List.nil_append])
  unfold iInts iFlat
  (repeat (first | (first | (with_reducible first | refine AX_block ?_ | refine AX_skip ?_ | refine AX_exit ?_ | refine AX_ret ?_ | refine AX_ift ?_ | refine AX_iff ?_ | refine AX_seq_k (fun K hK => ?_) | refine ContX.use (by assumption) ?_) | simp only [thenX, inBlockX, if_true, if_false, reduceCtorEq]) | (first | ((with_reducible first | refine XOP tyOK ?_ | refine AOP tyOK ?_); simp (disch := omega) only [go_sem , hs1, hs2, hs3, hs4, iInts, iFlat, Int.toNat_zero, Int.toNat_one, Option.isSome_some, Option.isSome_none, Option.getD_some, Option.getD_none, List.length_nil]; (with_reducible first | refine XRes_id ?_ | refine ADF_id ?_)) | (with_reducible first | refine XSK ?_ | refine ASK ?_)) | ((first | (with_reducible refine XRes_nil ?_) | (with_reducible refine ADF_nil ?_)); (first | refine hK _ ?_ | refine hK _ _ ?_); clear hK K) | ((first | (with_reducible refine AX_reg0 fun K hK => ?_) | (refine AX_drawG1 tyOK (by kernel_rfl) (by rfl) (by kernel_rfl) fun K hK => ?_)); simp only [go_sem]) | (first | ((refine XRes_mlook (i := 0) rfl Tryz.underlying127 int_zero (by decide) rfl rfl rfl (by omega) ?_); (simp only [putL, List.set_cons_succ, List.set_cons_zero, mInt_upd, mInt_del, mInt_get, mInt_is, mSet_upd, mSet_get, mSet_is, List.nil_append, List.cons_append])) | ((refine XRes_mput (i := 0) rfl Tryz.underlying127 rfl rfl rfl (by omega) rfl (int_plain (by omega)) (by unfold maxLen; omega) ?_); (simp only [putL, List.set_cons_succ, List.set_cons_zero, mInt_upd, mInt_del, mInt_get, mInt_is, mSet_upd, mSet_get, mSet_is, List.nil_append, List.cons_append])) | ((refine XRes_makeMap rfl (fun b => ?_)); (simp only [putL, List.set_cons_succ, List.set_cons_zero, mInt_upd, mInt_del, mInt_get, mInt_is, mSet_upd, mSet_get, mSet_is, List.nil_append, List.cons_append])))))
  rw [mInt_nil, ← agF_zero ord]
  (refine AWH (σ := Nat × Nat) [21, 22, 23, 24, 7, 8, 26, 27, 28, 25, 29, 30, 9, 10, 31, 32, 33, 34, 35, 36] (fun (k, c) => [(20, lint k)]) (fun (k, c) => []) (fun (k, c) => [(b, c, mInt (agF ord k))]) (fun (k, c) => k ≤ ord.length ∧ c ≤ k) (fun (k, c) => ord.length - k) (0, 0) (by first | exact ⟨Nat.zero_le _, Nat.le_refl _⟩) ?_; rintro ⟨k, c⟩ d fr hfr ⟨hk, hc⟩; simp only [updS, deadS, List.set_cons_succ, List.set_cons_zero, lint] at hfr; subst hfr; (try dsimp only))
  by_cases hlt : k < ord.length
  · have hbk := hob k
    by_cases h1 : ord.idxOf (ord.getD k 0) < k
    · have hs1 : agF ord k (ord.getD k 0) = some (ord.idxOf (ord.getD k 0) : Int) := by unfold agF; rw [if_pos h1]
      (repeat (first | (first | (with_reducible first | refine AX_block ?_ | refine AX_skip ?_ | refine AX_exit ?_ | refine AX_ret ?_ | refine AX_ift ?_ | refine AX_iff ?_ | refine AX_seq_k (fun K hK => ?_) | refine ContX.use (by assumption) ?_) | simp only [thenX, inBlockX, if_true, if_false, reduceCtorEq]) | (first | ((with_reducible first | refine XOP tyOK ?_ | refine AOP tyOK ?_); simp (disch := omega) only [go_sem , hs1, hs2, hs3, hs4, iInts, iFlat, Int.toNat_zero, Int.toNat_one, Option.isSome_some, Option.isSome_none, Option.getD_some, Option.getD_none, List.length_nil]; (with_reducible first | refine XRes_id ?_ | refine ADF_id ?_)) | (with_reducible first | refine XSK ?_ | refine ASK ?_)) | ((first | (with_reducible refine XRes_nil ?_) | (with_reducible refine ADF_nil ?_)); (first | refine hK _ ?_ | refine hK _ _ ?_); clear hK K) | ((first | (with_reducible refine AX_reg0 fun K hK => ?_) | (refine AX_drawG1 tyOK (by kernel_rfl) (by rfl) (by kernel_rfl) fun K hK => ?_)); simp only [go_sem]) | (first | ((refine XRes_mlook (i := 0) rfl Tryz.underlying127 int_zero (by decide) rfl rfl rfl (by omega) ?_); (simp only [putL, List.set_cons_succ, List.set_cons_zero, mInt_upd, mInt_del, mInt_get, mInt_is, mSet_upd, mSet_get, mSet_is, List.nil_append, List.cons_append])) | ((refine XRes_mput (i := 0) rfl Tryz.underlying127 rfl rfl rfl (by omega) rfl (int_plain (by omega)) (by unfold maxLen; omega) ?_); (simp only [putL, List.set_cons_succ, List.set_cons_zero, mInt_upd, mInt_del, mInt_get, mInt_is, mSet_upd, mSet_get, mSet_is, List.nil_append, List.cons_append])) | ((refine XRes_makeMap rfl (fun b => ?_)); (simp only [putL, List.set_cons_succ, List.set_cons_zero, mInt_upd, mInt_del, mInt_get, mInt_is, mSet_upd, mSet_get, mSet_is, List.nil_append, List.cons_append])))))
      exact whx_ren [] (k + 1, c) ⟨by omega, by omega⟩ (by (first | omega | (dsimp only; omega) | (simp only; omega))) (by rw [agF_keep hlt h1]) (by decide) (by decide) (by (simp (disch := omega) only [go_sem, lint])) (by (simp (disch := omega) only [go_sem, lint])) (by (simp (disch := omega) only [go_sem, lint])) (fun d => by (simp (disch := omega) only [go_sem, lint]))
    · have hs1 : agF ord k (ord.getD k 0) = none := by unfold agF; rw [if_neg h1]
      (repeat (first | (first | (with_reducible first | refine AX_block ?_ | refine AX_skip ?_ | refine AX_exit ?_ | refine AX_ret ?_ | refine AX_ift ?_ | refine AX_iff ?_ | refine AX_seq_k (fun K hK => ?_) | refine ContX.use (by assumption) ?_) | simp only [thenX, inBlockX, if_true, if_false, reduceCtorEq]) | (first | ((with_reducible first | refine XOP tyOK ?_ | refine AOP tyOK ?_); simp (disch := omega) only [go_sem , hs1, hs2, hs3, hs4, iInts, iFlat, Int.toNat_zero, Int.toNat_one, Option.isSome_some, Option.isSome_none, Option.getD_some, Option.getD_none, List.length_nil]; (with_reducible first | refine XRes_id ?_ | refine ADF_id ?_)) | (with_reducible first | refine XSK ?_ | refine ASK ?_)) | ((first | (with_reducible refine XRes_nil ?_) | (with_reducible refine ADF_nil ?_)); (first | refine hK _ ?_ | refine hK _ _ ?_); clear hK K) | ((first | (with_reducible refine AX_reg0 fun K hK => ?_) | (refine AX_drawG1 tyOK (by kernel_rfl) (by rfl) (by kernel_rfl) fun K hK => ?_)); simp only [go_sem]) | (first | ((refine XRes_mlook (i := 0) rfl Tryz.underlying127 int_zero (by decide) rfl rfl rfl (by omega) ?_); (simp only [putL, List.set_cons_succ, List.set_cons_zero, mInt_upd, mInt_del, mInt_get, mInt_is, mSet_upd, mSet_get, mSet_is, List.nil_append, List.cons_append])) | ((refine XRes_mput (i := 0) rfl Tryz.underlying127 rfl rfl rfl (by omega) rfl (int_plain (by omega)) (by unfold maxLen; omega) ?_); (simp only [putL, List.set_cons_succ, List.set_cons_zero, mInt_upd, mInt_del, mInt_get, mInt_is, mSet_upd, mSet_get, mSet_is, List.nil_append, List.cons_append])) | ((refine XRes_makeMap rfl (fun b => ?_)); (simp only [putL, List.set_cons_succ, List.set_cons_zero, mInt_upd, mInt_del, mInt_get, mInt_is, mSet_upd, mSet_get, mSet_is, List.nil_append, List.cons_append])))))
      exact whx_ren [] (k + 1, c + 1) ⟨by omega, by omega⟩ (by (first | omega | (dsimp only; omega) | (simp only; omega))) (by rw [agF_put hlt h1]) (by decide) (by decide) (by (simp (disch := omega) only [go_sem, lint])) (by (simp (disch := omega) only [go_sem, lint])) (by (simp (disch := omega) only [go_sem, lint])) (fun d => by (simp (disch := omega) only [go_sem, lint]))
  · obtain rfl : k = ord.length := by omega
    (repeat (first | (first | (with_reducible first | refine AX_block ?_ | refine AX_skip ?_ | refine AX_exit ?_ | refine AX_ret ?_ | refine AX_ift ?_ | refine AX_iff ?_ | refine AX_seq_k (fun K hK => ?_) | refine ContX.use (by assumption) ?_) | simp only [thenX, inBlockX, if_true, if_false, reduceCtorEq]) | (first | ((with_reducible first | refine XOP tyOK ?_ | refine AOP tyOK ?_); simp (disch := omega) only [go_sem , hs1, hs2, hs3, hs4, iInts, iFlat, Int.toNat_zero, Int.toNat_one, Option.isSome_some, Option.isSome_none, Option.getD_some, Option.getD_none, List.length_nil]; (with_reducible first | refine XRes_id ?_ | refine ADF_id ?_)) | (with_reducible first | refine XSK ?_ | refine ASK ?_)) | ((first | (with_reducible refine XRes_nil ?_) | (with_reducible refine ADF_nil ?_)); (first | refine hK _ ?_ | refine hK _ _ ?_); clear hK K) | ((first | (with_reducible refine AX_reg0 fun K hK => ?_) | (refine AX_drawG1 tyOK (by kernel_rfl) (by rfl) (by kernel_rfl) fun K hK => ?_)); simp only [go_sem]) | (first | ((refine XRes_mlook (i := 0) rfl Tryz.underlying127 int_zero (by decide) rfl rfl rfl (by omega) ?_); (simp only [putL, List.set_cons_succ, List.set_cons_zero, mInt_upd, mInt_del, mInt_get, mInt_is, mSet_upd, mSet_get, mSet_is, List.nil_append, List.cons_append])) | ((refine XRes_mput (i := 0) rfl Tryz.underlying127 rfl rfl rfl (by omega) rfl (int_plain (by omega)) (by unfold maxLen; omega) ?_); (simp only [putL, List.set_cons_succ, List.set_cons_zero, mInt_upd, mInt_del, mInt_get, mInt_is, mSet_upd, mSet_get, mSet_is, List.nil_append, List.cons_append])) | ((refine XRes_makeMap rfl (fun b => ?_)); (simp only [putL, List.set_cons_succ, List.set_cons_zero, mInt_upd, mInt_del, mInt_get, mInt_is, mSet_upd, mSet_get, mSet_is, List.nil_append, List.cons_append])))))
    (refine AWH (σ := Nat) [40, 41, 42, 43, 12, 11, 45, 46, 47, 48, 44, 49, 50, 13, 14, 52, 53, 54, 55, 51, 56, 57, 15, 16, 58, 59, 60, 61, 62, 63, 64, 65, 66, 67, 4, 5, 68] (fun i => [(39, lint i)]) (fun i => []) (fun i => [(b, c, mInt (agF ord ord.length))]) (fun i => i ≤ Z ∧ ∀ j, j < i → agE ord us j = 0) (fun i => Z - i) 0 (by first | exact ⟨Nat.zero_le _, fun j h => absurd h (by omega)⟩) ?_; rintro i d fr hfr ⟨hi, hj⟩; simp only [updS, deadS, List.set_cons_succ, List.set_cons_zero, lint] at hfr; subst hfr; (try dsimp only))
    by_cases hlt : i < Z
    · have b1 := hub (i * 2)
      have b2 := hub (i * 2 + 1)
      have hE : agE ord us i = if ord.idxOf (us.getD (i * 2 + 1) 0) < ord.idxOf (us.getD (i * 2) 0) ∧ ord.idxOf (us.getD (i * 2) 0) < ord.length then 1 else 0 := rfl
      by_cases h1 : ord.idxOf (us.getD (i * 2) 0) < ord.length
      · have hs1 : agF ord ord.length (us.getD (i * 2) 0) = some (ord.idxOf (us.getD (i * 2) 0) : Int) := by unfold agF; rw [if_pos h1]
        by_cases h2 : ord.idxOf (us.getD (i * 2 + 1) 0) < ord.length
        · have hs2 : agF ord ord.length (us.getD (i * 2 + 1) 0) = some (ord.idxOf (us.getD (i * 2 + 1) 0) : Int) := by unfold agF; rw [if_pos h2]
          by_cases h3 : ord.idxOf (us.getD (i * 2 + 1) 0) < ord.idxOf (us.getD (i * 2) 0)
          · rw [if_pos ⟨h3, h1⟩] at hE
            have hfb : fb (agE ord us) Z = i := fb_at hj (by rw [hE]; decide) hlt
            generalize ord.idxOf (us.getD (i * 2 + 1) 0) = u at *
            generalize ord.idxOf (us.getD (i * 2) 0) = v at *
            (repeat (first | (first | (with_reducible first | refine AX_block ?_ | refine AX_skip ?_ | refine AX_exit ?_ | refine AX_ret ?_ | refine AX_ift ?_ | refine AX_iff ?_ | refine AX_seq_k (fun K hK => ?_) | refine ContX.use (by assumption) ?_) | simp only [thenX, inBlockX, if_true, if_false, reduceCtorEq]) | (first | ((with_reducible first | refine XOP tyOK ?_ | refine AOP tyOK ?_); simp (disch := omega) only [go_sem , hs1, hs2, hs3, hs4, iInts, iFlat, Int.toNat_zero, Int.toNat_one, Option.isSome_some, Option.isSome_none, Option.getD_some, Option.getD_none, List.length_nil]; (with_reducible first | refine XRes_id ?_ | refine ADF_id ?_)) | (with_reducible first | refine XSK ?_ | refine ASK ?_)) | ((first | (with_reducible refine XRes_nil ?_) | (with_reducible refine ADF_nil ?_)); (first | refine hK _ ?_ | refine hK _ _ ?_); clear hK K) | ((first | (with_reducible refine AX_reg0 fun K hK => ?_) | (refine AX_drawG1 tyOK (by kernel_rfl) (by rfl) (by kernel_rfl) fun K hK => ?_)); simp only [go_sem]) | (first | ((refine XRes_mlook (i := 0) rfl Tryz.underlying127 int_zero (by decide) rfl rfl rfl (by omega) ?_); (simp only [putL, List.set_cons_succ, List.set_cons_zero, mInt_upd, mInt_del, mInt_get, mInt_is, mSet_upd, mSet_get, mSet_is, List.nil_append, List.cons_append])) | ((refine XRes_mput (i := 0) rfl Tryz.underlying127 rfl rfl rfl (by omega) rfl (int_plain (by omega)) (by unfold maxLen; omega) ?_); (simp only [putL, List.set_cons_succ, List.set_cons_zero, mInt_upd, mInt_del, mInt_get, mInt_is, mSet_upd, mSet_get, mSet_is, List.nil_append, List.cons_append])) | ((refine XRes_makeMap rfl (fun b => ?_)); (simp only [putL, List.set_cons_succ, List.set_cons_zero, mInt_upd, mInt_del, mInt_get, mInt_is, mSet_upd, mSet_get, mSet_is, List.nil_append, List.cons_append])))))
            (simp only [bodyX]; refine ⟨_, by simp only [aresults, aresult, XS.as, Tryz.results38, aload, go_sem, Option.bind_some]; rfl, ?_⟩)
            exact ⟨ids_idB rfl, by rw [hfb, decide_eq_false (by omega)], trivial⟩
          · rw [if_neg fun h => h3 h.1] at hE
            generalize ord.idxOf (us.getD (i * 2 + 1) 0) = u at *
            generalize ord.idxOf (us.getD (i * 2) 0) = v at *
            (repeat (first | (first | (with_reducible first | refine AX_block ?_ | refine AX_skip ?_ | refine AX_exit ?_ | refine AX_ret ?_ | refine AX_ift ?_ | refine AX_iff ?_ | refine AX_seq_k (fun K hK => ?_) | refine ContX.use (by assumption) ?_) | simp only [thenX, inBlockX, if_true, if_false, reduceCtorEq]) | (first | ((with_reducible first | refine XOP tyOK ?_ | refine AOP tyOK ?_); simp (disch := omega) only [go_sem , hs1, hs2, hs3, hs4, iInts, iFlat, Int.toNat_zero, Int.toNat_one, Option.isSome_some, Option.isSome_none, Option.getD_some, Option.getD_none, List.length_nil]; (with_reducible first | refine XRes_id ?_ | refine ADF_id ?_)) | (with_reducible first | refine XSK ?_ | refine ASK ?_)) | ((first | (with_reducible refine XRes_nil ?_) | (with_reducible refine ADF_nil ?_)); (first | refine hK _ ?_ | refine hK _ _ ?_); clear hK K) | ((first | (with_reducible refine AX_reg0 fun K hK => ?_) | (refine AX_drawG1 tyOK (by kernel_rfl) (by rfl) (by kernel_rfl) fun K hK => ?_)); simp only [go_sem]) | (first | ((refine XRes_mlook (i := 0) rfl Tryz.underlying127 int_zero (by decide) rfl rfl rfl (by omega) ?_); (simp only [putL, List.set_cons_succ, List.set_cons_zero, mInt_upd, mInt_del, mInt_get, mInt_is, mSet_upd, mSet_get, mSet_is, List.nil_append, List.cons_append])) | ((refine XRes_mput (i := 0) rfl Tryz.underlying127 rfl rfl rfl (by omega) rfl (int_plain (by omega)) (by unfold maxLen; omega) ?_); (simp only [putL, List.set_cons_succ, List.set_cons_zero, mInt_upd, mInt_del, mInt_get, mInt_is, mSet_upd, mSet_get, mSet_is, List.nil_append, List.cons_append])) | ((refine XRes_makeMap rfl (fun b => ?_)); (simp only [putL, List.set_cons_succ, List.set_cons_zero, mInt_upd, mInt_del, mInt_get, mInt_is, mSet_upd, mSet_get, mSet_is, List.nil_append, List.cons_append])))))
            exact WRN [] (i + 1) ⟨by omega, below_s hj hE⟩ (by (first | omega | (dsimp only; omega) | (simp only; omega)))
        · have hs2 : agF ord ord.length (us.getD (i * 2 + 1) 0) = none := by unfold agF; rw [if_neg h2]
          rw [if_neg fun h => h2 (by omega)] at hE
          generalize ord.idxOf (us.getD (i * 2) 0) = v at *
          (repeat (first | (first | (with_reducible first | refine AX_block ?_ | refine AX_skip ?_ | refine AX_exit ?_ | refine AX_ret ?_ | refine AX_ift ?_ | refine AX_iff ?_ | refine AX_seq_k (fun K hK => ?_) | refine ContX.use (by assumption) ?_) | simp only [thenX, inBlockX, if_true, if_false, reduceCtorEq]) | (first | ((with_reducible first | refine XOP tyOK ?_ | refine AOP tyOK ?_); simp (disch := omega) only [go_sem , hs1, hs2, hs3, hs4, iInts, iFlat, Int.toNat_zero, Int.toNat_one, Option.isSome_some, Option.isSome_none, Option.getD_some, Option.getD_none, List.length_nil]; (with_reducible first | refine XRes_id ?_ | refine ADF_id ?_)) | (with_reducible first | refine XSK ?_ | refine ASK ?_)) | ((first | (with_reducible refine XRes_nil ?_) | (with_reducible refine ADF_nil ?_)); (first | refine hK _ ?_ | refine hK _ _ ?_); clear hK K) | ((first | (with_reducible refine AX_reg0 fun K hK => ?_) | (refine AX_drawG1 tyOK (by kernel_rfl) (by rfl) (by kernel_rfl) fun K hK => ?_)); simp only [go_sem]) | (first | ((refine XRes_mlook (i := 0) rfl Tryz.underlying127 int_zero (by decide) rfl rfl rfl (by omega) ?_); (simp only [putL, List.set_cons_succ, List.set_cons_zero, mInt_upd, mInt_del, mInt_get, mInt_is, mSet_upd, mSet_get, mSet_is, List.nil_append, List.cons_append])) | ((refine XRes_mput (i := 0) rfl Tryz.underlying127 rfl rfl rfl (by omega) rfl (int_plain (by omega)) (by unfold maxLen; omega) ?_); (simp only [putL, List.set_cons_succ, List.set_cons_zero, mInt_upd, mInt_del, mInt_get, mInt_is, mSet_upd, mSet_get, mSet_is, List.nil_append, List.cons_append])) | ((refine XRes_makeMap rfl (fun b => ?_)); (simp only [putL, List.set_cons_succ, List.set_cons_zero, mInt_upd, mInt_del, mInt_get, mInt_is, mSet_upd, mSet_get, mSet_is, List.nil_append, List.cons_append])))))
          exact WRN [] (i + 1) ⟨by omega, below_s hj hE⟩ (by (first | omega | (dsimp only; omega) | (simp only; omega)))
      · have hs1 : agF ord ord.length (us.getD (i * 2) 0) = none := by unfold agF; rw [if_neg h1]
        rw [if_neg fun h => h1 h.2] at hE
        by_cases h2 : ord.idxOf (us.getD (i * 2 + 1) 0) < ord.length
        · have hs2 : agF ord ord.length (us.getD (i * 2 + 1) 0) = some (ord.idxOf (us.getD (i * 2 + 1) 0) : Int) := by unfold agF; rw [if_pos h2]
          (repeat (first | (first | (with_reducible first | refine AX_block ?_ | refine AX_skip ?_ | refine AX_exit ?_ | refine AX_ret ?_ | refine AX_ift ?_ | refine AX_iff ?_ | refine AX_seq_k (fun K hK => ?_) | refine ContX.use (by assumption) ?_) | simp only [thenX, inBlockX, if_true, if_false, reduceCtorEq]) | (first | ((with_reducible first | refine XOP tyOK ?_ | refine AOP tyOK ?_); simp (disch := omega) only [go_sem , hs1, hs2, hs3, hs4, iInts, iFlat, Int.toNat_zero, Int.toNat_one, Option.isSome_some, Option.isSome_none, Option.getD_some, Option.getD_none, List.length_nil]; (with_reducible first | refine XRes_id ?_ | refine ADF_id ?_)) | (with_reducible first | refine XSK ?_ | refine ASK ?_)) | ((first | (with_reducible refine XRes_nil ?_) | (with_reducible refine ADF_nil ?_)); (first | refine hK _ ?_ | refine hK _ _ ?_); clear hK K) | ((first | (with_reducible refine AX_reg0 fun K hK => ?_) | (refine AX_drawG1 tyOK (by kernel_rfl) (by rfl) (by kernel_rfl) fun K hK => ?_)); simp only [go_sem]) | (first | ((refine XRes_mlook (i := 0) rfl Tryz.underlying127 int_zero (by decide) rfl rfl rfl (by omega) ?_); (simp only [putL, List.set_cons_succ, List.set_cons_zero, mInt_upd, mInt_del, mInt_get, mInt_is, mSet_upd, mSet_get, mSet_is, List.nil_append, List.cons_append])) | ((refine XRes_mput (i := 0) rfl Tryz.underlying127 rfl rfl rfl (by omega) rfl (int_plain (by omega)) (by unfold maxLen; omega) ?_); (simp only [putL, List.set_cons_succ, List.set_cons_zero, mInt_upd, mInt_del, mInt_get, mInt_is, mSet_upd, mSet_get, mSet_is, List.nil_append, List.cons_append])) | ((refine XRes_makeMap rfl (fun b => ?_)); (simp only [putL, List.set_cons_succ, List.set_cons_zero, mInt_upd, mInt_del, mInt_get, mInt_is, mSet_upd, mSet_get, mSet_is, List.nil_append, List.cons_append])))))
          exact WRN [] (i + 1) ⟨by omega, below_s hj hE⟩ (by (first | omega | (dsimp only; omega) | (simp only; omega)))
        · have hs2 : agF ord ord.length (us.getD (i * 2 + 1) 0) = none := by unfold agF; rw [if_neg h2]
          (repeat (first | (first | (with_reducible first | refine AX_block ?_ | refine AX_skip ?_ | refine AX_exit ?_ | refine AX_ret ?_ | refine AX_ift ?_ | refine AX_iff ?_ | refine AX_seq_k (fun K hK => ?_) | refine ContX.use (by assumption) ?_) | simp only [thenX, inBlockX, if_true, if_false, reduceCtorEq]) | (first | ((with_reducible first | refine XOP tyOK ?_ | refine AOP tyOK ?_); simp (disch := omega) only [go_sem , hs1, hs2, hs3, hs4, iInts, iFlat, Int.toNat_zero, Int.toNat_one, Option.isSome_some, Option.isSome_none, Option.getD_some, Option.getD_none, List.length_nil]; (with_reducible first | refine XRes_id ?_ | refine ADF_id ?_)) | (with_reducible first | refine XSK ?_ | refine ASK ?_)) | ((first | (with_reducible refine XRes_nil ?_) | (with_reducible refine ADF_nil ?_)); (first | refine hK _ ?_ | refine hK _ _ ?_); clear hK K) | ((first | (with_reducible refine AX_reg0 fun K hK => ?_) | (refine AX_drawG1 tyOK (by kernel_rfl) (by rfl) (by kernel_rfl) fun K hK => ?_)); simp only [go_sem]) | (first | ((refine XRes_mlook (i := 0) rfl Tryz.underlying127 int_zero (by decide) rfl rfl rfl (by omega) ?_); (simp only [putL, List.set_cons_succ, List.set_cons_zero, mInt_upd, mInt_del, mInt_get, mInt_is, mSet_upd, mSet_get, mSet_is, List.nil_append, List.cons_append])) | ((refine XRes_mput (i := 0) rfl Tryz.underlying127 rfl rfl rfl (by omega) rfl (int_plain (by omega)) (by unfold maxLen; omega) ?_); (simp only [putL, List.set_cons_succ, List.set_cons_zero, mInt_upd, mInt_del, mInt_get, mInt_is, mSet_upd, mSet_get, mSet_is, List.nil_append, List.cons_append])) | ((refine XRes_makeMap rfl (fun b => ?_)); (simp only [putL, List.set_cons_succ, List.set_cons_zero, mInt_upd, mInt_del, mInt_get, mInt_is, mSet_upd, mSet_get, mSet_is, List.nil_append, List.cons_append])))))
          exact WRN [] (i + 1) ⟨by omega, below_s hj hE⟩ (by (first | omega | (dsimp only; omega) | (simp only; omega)))
    · obtain rfl : i = Z := by omega
      have hfb : fb (agE ord us) i = i := fb_all hj
      (repeat (first | (first | (with_reducible first | refine AX_block ?_ | refine AX_skip ?_ | refine AX_exit ?_ | refine AX_ret ?_ | refine AX_ift ?_ | refine AX_iff ?_ | refine AX_seq_k (fun K hK => ?_) | refine ContX.use (by assumption) ?_) | simp only [thenX, inBlockX, if_true, if_false, reduceCtorEq]) | (first | ((with_reducible first | refine XOP tyOK ?_ | refine AOP tyOK ?_); simp (disch := omega) only [go_sem , hs1, hs2, hs3, hs4, iInts, iFlat, Int.toNat_zero, Int.toNat_one, Option.isSome_some, Option.isSome_none, Option.getD_some, Option.getD_none, List.length_nil]; (with_reducible first | refine XRes_id ?_ | refine ADF_id ?_)) | (with_reducible first | refine XSK ?_ | refine ASK ?_)) | ((first | (with_reducible refine XRes_nil ?_) | (with_reducible refine ADF_nil ?_)); (first | refine hK _ ?_ | refine hK _ _ ?_); clear hK K) | ((first | (with_reducible refine AX_reg0 fun K hK => ?_) | (refine AX_drawG1 tyOK (by kernel_rfl) (by rfl) (by kernel_rfl) fun K hK => ?_)); simp only [go_sem]) | (first | ((refine XRes_mlook (i := 0) rfl Tryz.underlying127 int_zero (by decide) rfl rfl rfl (by omega) ?_); (simp only [putL, List.set_cons_succ, List.set_cons_zero, mInt_upd, mInt_del, mInt_get, mInt_is, mSet_upd, mSet_get, mSet_is, List.nil_append, List.cons_append])) | ((refine XRes_mput (i := 0) rfl Tryz.underlying127 rfl rfl rfl (by omega) rfl (int_plain (by omega)) (by unfold maxLen; omega) ?_); (simp only [putL, List.set_cons_succ, List.set_cons_zero, mInt_upd, mInt_del, mInt_get, mInt_is, mSet_upd, mSet_get, mSet_is, List.nil_append, List.cons_append])) | ((refine XRes_makeMap rfl (fun b => ?_)); (simp only [putL, List.set_cons_succ, List.set_cons_zero, mInt_upd, mInt_del, mInt_get, mInt_is, mSet_upd, mSet_get, mSet_is, List.nil_append, List.cons_append])))))
      (simp only [bodyX]; refine ⟨_, by simp only [aresults, aresult, XS.as, Tryz.results38, aload, go_sem, Option.bind_some]; rfl, ?_⟩)
      exact ⟨ids_idB rfl, by rw [hfb, decide_eq_true rfl], trivial⟩
set_option maxRecDepth 100000 in
set_option maxHeartbeats 2000000 in
theorem pf_eqInts (xs ys : List Int) (hx : xs.length ≤ 1000000) (hy : ys.length ≤ 1000000) : PF Tryz.prog 42 [.iv (iInts xs), .iv (iInts ys)] fun r H' => r = lt (.bool (decide (xs = ys))) ∧ H' = [] := by
  refine SF.forgetAll ?_
  have hs1 := trivial; have hs2 := trivial; have hs3 := trivial; have hs4 := trivial
  by_cases hl : xs.length = ys.length
  · (refine SF_of_bodyX (aload tt) (aload_ok tyOK) Tryz.func42 rfl (by kernel_rfl) ?_; simp only [Tryz.ntmps42, List.length_cons, List.length_nil, Nat.reduceAdd, Nat.reduceSub, List.replicate_succ, List.replicate_zero, List.cons_append, List.nil_append])
    unfold iInts
    (repeat (first | (first | (with_reducible first | refine AX_block ?_ | refine AX_skip ?_ | refine AX_exit ?_ | refine AX_ret ?_ | refine AX_ift ?_ | refine AX_iff ?_ | refine AX_seq_k (fun K hK => ?_) | refine ContX.use (by assumption) ?_) | simp only [thenX, inBlockX, if_true, if_false, reduceCtorEq]) | (first | ((with_reducible first | refine XOP tyOK ?_ | refine AOP tyOK ?_); simp (disch := omega) only [go_sem , hs1, hs2, hs3, hs4, iInts, iFlat, Int.toNat_zero, Int.toNat_one, Option.isSome_some, Option.isSome_none, Option.getD_some, Option.getD_none, List.length_nil]; (with_reducible first | refine XRes_id ?_ | refine ADF_id ?_)) | (with_reducible first | refine XSK ?_ | refine ASK ?_)) | ((first | (with_reducible refine XRes_nil ?_) | (with_reducible refine ADF_nil ?_)); (first | refine hK _ ?_ | refine hK _ _ ?_); clear hK K) | ((first | (with_reducible refine AX_reg0 fun K hK => ?_) | (refine AX_drawG1 tyOK (by kernel_rfl) (by rfl) (by kernel_rfl) fun K hK => ?_)); simp only [go_sem]) | (first | ((refine XRes_mlook (i := 0) rfl Tryz.underlying127 int_zero (by decide) rfl rfl rfl (by omega) ?_); (simp only [putL, List.set_cons_succ, List.set_cons_zero, mInt_upd, mInt_del, mInt_get, mInt_is, mSet_upd, mSet_get, mSet_is, List.nil_append, List.cons_append])) | ((refine XRes_mput (i := 0) rfl Tryz.underlying127 rfl rfl rfl (by omega) rfl (int_plain (by omega)) (by unfold maxLen; omega) ?_); (simp only [putL, List.set_cons_succ, List.set_cons_zero, mInt_upd, mInt_del, mInt_get, mInt_is, mSet_upd, mSet_get, mSet_is, List.nil_append, List.cons_append])) | ((refine XRes_makeMap rfl (fun b => ?_)); (simp only [putL, List.set_cons_succ, List.set_cons_zero, mInt_upd, mInt_del, mInt_get, mInt_is, mSet_upd, mSet_get, mSet_is, List.nil_append, List.cons_append])))))
    (refine AWH (σ := Nat) [14, 15, 5, 16, 17, 18, 19, 20, 21, 22, 23, 24, 4, 25] (fun k => [(13, lint k)]) (fun k => []) (fun k => []) (fun k => k ≤ xs.length ∧ ∀ j, j < k → xs.getD j 0 = ys.getD j 0) (fun k => xs.length - k) 0 (by first | exact ⟨Nat.zero_le _, fun j h => absurd h (by omega)⟩) ?_; rintro k d fr hfr ⟨hk, hj⟩; simp only [updS, deadS, List.set_cons_succ, List.set_cons_zero, lint] at hfr; subst hfr; (try dsimp only))
    by_cases hlt : k < xs.length
    · by_cases h1 : xs.getD k 0 = ys.getD k 0
      · generalize ha : xs.getD k 0 = a at *
        generalize hb : ys.getD k 0 = b at *
        subst h1
        (repeat (first | (first | (with_reducible first | refine AX_block ?_ | refine AX_skip ?_ | refine AX_exit ?_ | refine AX_ret ?_ | refine AX_ift ?_ | refine AX_iff ?_ | refine AX_seq_k (fun K hK => ?_) | refine ContX.use (by assumption) ?_) | simp only [thenX, inBlockX, if_true, if_false, reduceCtorEq]) | (first | ((with_reducible first | refine XOP tyOK ?_ | refine AOP tyOK ?_); simp (disch := omega) only [go_sem , hs1, hs2, hs3, hs4, iInts, iFlat, Int.toNat_zero, Int.toNat_one, Option.isSome_some, Option.isSome_none, Option.getD_some, Option.getD_none, List.length_nil]; (with_reducible first | refine XRes_id ?_ | refine ADF_id ?_)) | (with_reducible first | refine XSK ?_ | refine ASK ?_)) | ((first | (with_reducible refine XRes_nil ?_) | (with_reducible refine ADF_nil ?_)); (first | refine hK _ ?_ | refine hK _ _ ?_); clear hK K) | ((first | (with_reducible refine AX_reg0 fun K hK => ?_) | (refine AX_drawG1 tyOK (by kernel_rfl) (by rfl) (by kernel_rfl) fun K hK => ?_)); simp only [go_sem]) | (first | ((refine XRes_mlook (i := 0) rfl Tryz.underlying127 int_zero (by decide) rfl rfl rfl (by omega) ?_); (simp only [putL, List.set_cons_succ, List.set_cons_zero, mInt_upd, mInt_del, mInt_get, mInt_is, mSet_upd, mSet_get, mSet_is, List.nil_append, List.cons_append])) | ((refine XRes_mput (i := 0) rfl Tryz.underlying127 rfl rfl rfl (by omega) rfl (int_plain (by omega)) (by unfold maxLen; omega) ?_); (simp only [putL, List.set_cons_succ, List.set_cons_zero, mInt_upd, mInt_del, mInt_get, mInt_is, mSet_upd, mSet_get, mSet_is, List.nil_append, List.cons_append])) | ((refine XRes_makeMap rfl (fun b => ?_)); (simp only [putL, List.set_cons_succ, List.set_cons_zero, mInt_upd, mInt_del, mInt_get, mInt_is, mSet_upd, mSet_get, mSet_is, List.nil_append, List.cons_append])))))
        refine WRN [] (k + 1) ⟨by omega, fun j hj3 => ?_⟩ (by (first | omega | (dsimp only; omega) | (simp only; omega)))
        rcases Nat.lt_or_ge j k with h | h
        · exact hj j h
        · rw [show j = k by omega, ha, hb]
      · have hf : decide (xs = ys) = false := decide_eq_false (fun h => h1 (by rw [h]))
        (repeat (first | (first | (with_reducible first | refine AX_block ?_ | refine AX_skip ?_ | refine AX_exit ?_ | refine AX_ret ?_ | refine AX_ift ?_ | refine AX_iff ?_ | refine AX_seq_k (fun K hK => ?_) | refine ContX.use (by assumption) ?_) | simp only [thenX, inBlockX, if_true, if_false, reduceCtorEq]) | (first | ((with_reducible first | refine XOP tyOK ?_ | refine AOP tyOK ?_); simp (disch := omega) only [go_sem , hs1, hs2, hs3, hs4, iInts, iFlat, Int.toNat_zero, Int.toNat_one, Option.isSome_some, Option.isSome_none, Option.getD_some, Option.getD_none, List.length_nil]; (with_reducible first | refine XRes_id ?_ | refine ADF_id ?_)) | (with_reducible first | refine XSK ?_ | refine ASK ?_)) | ((first | (with_reducible refine XRes_nil ?_) | (with_reducible refine ADF_nil ?_)); (first | refine hK _ ?_ | refine hK _ _ ?_); clear hK K) | ((first | (with_reducible refine AX_reg0 fun K hK => ?_) | (refine AX_drawG1 tyOK (by kernel_rfl) (by rfl) (by kernel_rfl) fun K hK => ?_)); simp only [go_sem]) | (first | ((refine XRes_mlook (i := 0) rfl Tryz.underlying127 int_zero (by decide) rfl rfl rfl (by omega) ?_); (simp only [putL, List.set_cons_succ, List.set_cons_zero, mInt_upd, mInt_del, mInt_get, mInt_is, mSet_upd, mSet_get, mSet_is, List.nil_append, List.cons_append])) | ((refine XRes_mput (i := 0) rfl Tryz.underlying127 rfl rfl rfl (by omega) rfl (int_plain (by omega)) (by unfold maxLen; omega) ?_); (simp only [putL, List.set_cons_succ, List.set_cons_zero, mInt_upd, mInt_del, mInt_get, mInt_is, mSet_upd, mSet_get, mSet_is, List.nil_append, List.cons_append])) | ((refine XRes_makeMap rfl (fun b => ?_)); (simp only [putL, List.set_cons_succ, List.set_cons_zero, mInt_upd, mInt_del, mInt_get, mInt_is, mSet_upd, mSet_get, mSet_is, List.nil_append, List.cons_append])))))
        (simp only [bodyX]; refine ⟨_, by simp only [aresults, aresult, XS.as, Tryz.results42, aload, go_sem, Option.bind_some]; rfl, ?_⟩)
        exact ⟨ids_idB rfl, by rw [hf], trivial⟩
    · obtain rfl : k = xs.length := by omega
      have e : xs = ys := by
        apply List.ext_getElem hl
        intro i h1 h2
        have := hj i h1
        rw [List.getD_eq_getElem?_getD, List.getElem?_eq_getElem h1, List.getD_eq_getElem?_getD, List.getElem?_eq_getElem h2] at this
        exact this
      (repeat (first | (first | (with_reducible first | refine AX_block ?_ | refine AX_skip ?_ | refine AX_exit ?_ | refine AX_ret ?_ | refine AX_ift ?_ | refine AX_iff ?_ | refine AX_seq_k (fun K hK => ?_) | refine ContX.use (by assumption) ?_) | simp only [thenX, inBlockX, if_true, if_false, reduceCtorEq]) | (first | ((with_reducible first | refine XOP tyOK ?_ | refine AOP tyOK ?_); simp (disch := omega) only [go_sem , hs1, hs2, hs3, hs4, iInts, iFlat, Int.toNat_zero, Int.toNat_one, Option.isSome_some, Option.isSome_none, Option.getD_some, Option.getD_none, List.length_nil]; (with_reducible first | refine XRes_id ?_ | refine ADF_id ?_)) | (with_reducible first | refine XSK ?_ | refine ASK ?_)) | ((first | (with_reducible refine XRes_nil ?_) | (with_reducible refine ADF_nil ?_)); (first | refine hK _ ?_ | refine hK _ _ ?_); clear hK K) | ((first | (with_reducible refine AX_reg0 fun K hK => ?_) | (refine AX_drawG1 tyOK (by kernel_rfl) (by rfl) (by kernel_rfl) fun K hK => ?_)); simp only [go_sem]) | (first | ((refine XRes_mlook (i := 0) rfl Tryz.underlying127 int_zero (by decide) rfl rfl rfl (by omega) ?_); (simp only [putL, List.set_cons_succ, List.set_cons_zero, mInt_upd, mInt_del, mInt_get, mInt_is, mSet_upd, mSet_get, mSet_is, List.nil_append, List.cons_append])) | ((refine XRes_mput (i := 0) rfl Tryz.underlying127 rfl rfl rfl (by omega) rfl (int_plain (by omega)) (by unfold maxLen; omega) ?_); (simp only [putL, List.set_cons_succ, List.set_cons_zero, mInt_upd, mInt_del, mInt_get, mInt_is, mSet_upd, mSet_get, mSet_is, List.nil_append, List.cons_append])) | ((refine XRes_makeMap rfl (fun b => ?_)); (simp only [putL, List.set_cons_succ, List.set_cons_zero, mInt_upd, mInt_del, mInt_get, mInt_is, mSet_upd, mSet_get, mSet_is, List.nil_append, List.cons_append])))))
      (simp only [bodyX]; refine ⟨_, by simp only [aresults, aresult, XS.as, Tryz.results42, aload, go_sem, Option.bind_some]; rfl, ?_⟩)
      exact ⟨ids_idB rfl, by rw [decide_eq_true e], trivial⟩
  · have hf : decide (xs = ys) = false := decide_eq_false (fun h => hl (by rw [h]))
    (refine SF_of_bodyX (aload tt) (aload_ok tyOK) Tryz.func42 rfl (by kernel_rfl) ?_; simp only [Tryz.ntmps42, List.length_cons, List.length_nil, Nat.reduceAdd, Nat.reduceSub, List.replicate_succ, List.replicate_zero, List.cons_append, List.nil_append])
    unfold iInts
    (repeat (first | (first | (with_reducible first | refine AX_block ?_ | refine AX_skip ?_ | refine AX_exit ?_ | refine AX_ret ?_ | refine AX_ift ?_ | refine AX_iff ?_ | refine AX_seq_k (fun K hK => ?_) | refine ContX.use (by assumption) ?_) | simp only [thenX, inBlockX, if_true, if_false, reduceCtorEq]) | (first | ((with_reducible first | refine XOP tyOK ?_ | refine AOP tyOK ?_); simp (disch := omega) only [go_sem , hs1, hs2, hs3, hs4, iInts, iFlat, Int.toNat_zero, Int.toNat_one, Option.isSome_some, Option.isSome_none, Option.getD_some, Option.getD_none, List.length_nil]; (with_reducible first | refine XRes_id ?_ | refine ADF_id ?_)) | (with_reducible first | refine XSK ?_ | refine ASK ?_)) | ((first | (with_reducible refine XRes_nil ?_) | (with_reducible refine ADF_nil ?_)); (first | refine hK _ ?_ | refine hK _ _ ?_); clear hK K) | ((first | (with_reducible refine AX_reg0 fun K hK => ?_) | (refine AX_drawG1 tyOK (by kernel_rfl) (by rfl) (by kernel_rfl) fun K hK => ?_)); simp only [go_sem]) | (first | ((refine XRes_mlook (i := 0) rfl Tryz.underlying127 int_zero (by decide) rfl rfl rfl (by omega) ?_); (simp only [putL, List.set_cons_succ, List.set_cons_zero, mInt_upd, mInt_del, mInt_get, mInt_is, mSet_upd, mSet_get, mSet_is, List.nil_append, List.cons_append])) | ((refine XRes_mput (i := 0) rfl Tryz.underlying127 rfl rfl rfl (by omega) rfl (int_plain (by omega)) (by unfold maxLen; omega) ?_); (simp only [putL, List.set_cons_succ, List.set_cons_zero, mInt_upd, mInt_del, mInt_get, mInt_is, mSet_upd, mSet_get, mSet_is, List.nil_append, List.cons_append])) | ((refine XRes_makeMap rfl (fun b => ?_)); (simp only [putL, List.set_cons_succ, List.set_cons_zero, mInt_upd, mInt_del, mInt_get, mInt_is, mSet_upd, mSet_get, mSet_is, List.nil_append, List.cons_append])))))
    (simp only [bodyX]; refine ⟨_, by simp only [aresults, aresult, XS.as, Tryz.results42, aload, go_sem, Option.bind_some]; rfl, ?_⟩)
    exact ⟨ids_idB rfl, by rw [hf], trivial⟩
end Go.Proofs.YtcjnikkmjhagmaaGreatDoor
