import Derived.Test.YtcjnikkmjhagmaaGreatDoorMgBU
import Derived.Test.YtcjnikkmjhagmaaGreatDoorMgBH
import Derived.Test.YtcjnikkmjhagmaaGreatDoorMgBJ
import Derived.Test.YtcjnikkmjhagmaaGreatDoorMgBD
namespace Go.Proofs.YtcjnikkmjhagmaaGreatDoor
open Go.RowKit
set_option linter.unusedVariables false
set_option linter.unusedSimpArgs false
theorem atV_nx (n m : Int) (q : Int) (k : Nat) : atV n m q (k + 1) = atV n m q k ++ [nVar n m 3 q k] := by unfold atV; rw [List.range_succ, List.map_append]; rfl
theorem Wca93a {A B : Prop} (h9 : B) (w : B → A := by (intro h9; (repeat intro K hK); refine ⟨?_⟩; (repeat (first | (first | (with_reducible first | refine AX_block ?_ | refine AX_skip ?_ | refine AX_exit ?_ | refine AX_ret ?_ | refine AX_ift ?_ | refine AX_iff ?_ | refine AX_seq_k (fun K hK => ?_) | refine ContX.use (by assumption) ?_) | simp only [thenX, inBlockX, if_true, if_false, reduceCtorEq]) | ((refine XRes_litF tyOK (by rfl) rfl (by decide) rfl rfl ?_); (simp only [List.map_cons, List.map_nil, intOf, putL, List.set_cons_succ, List.set_cons_zero])) | (first | ((with_reducible refine XOP tyOK ?_); simp (disch := omega) only [go_sem , range_rowsU, iInts, iRows, iFlat, hs1, hs2, hs3, rows_one, rows_take, List.length_nil]; (with_reducible refine XRes_id ?_)) | (with_reducible refine XSK ?_)) | ((with_reducible refine XRes_nil ?_); refine hK _ ?_; clear hK K) | ((with_reducible refine AX_reg0 fun K hK => ?_); simp only [go_sem]) | (first | (first | refine XTL (by rfl) hCk ?_ | refine XTL (by rfl) hAt ?_ | refine XTL (by rfl) hMo ?_)))); refine Wk.o ?_; (repeat revert hK K); exact h9)) : A := w h9
theorem Wca93b {A B : Prop} (h9 : B) (w : B → A := by (intro h9; (repeat intro K hK); refine ⟨?_⟩; (repeat (first | (first | (with_reducible first | refine AX_block ?_ | refine AX_skip ?_ | refine AX_exit ?_ | refine AX_ret ?_ | refine AX_ift ?_ | refine AX_iff ?_ | refine AX_seq_k (fun K hK => ?_) | refine ContX.use (by assumption) ?_) | simp only [thenX, inBlockX, if_true, if_false, reduceCtorEq]) | (first | ((with_reducible refine XOP tyOK ?_); simp (disch := omega) only [go_sem , range_rowsU, iInts, iRows, iFlat, hs1, hs2, hs3, rows_one, rows_take, List.length_nil]; (with_reducible refine XRes_id ?_)) | (with_reducible refine XSK ?_)) | ((with_reducible refine XRes_nil ?_); refine hK _ ?_; clear hK K) | ((with_reducible refine AX_reg0 fun K hK => ?_); simp only [go_sem]) | (first | (first | refine XTL (by rfl) hCk ?_ | refine XTL (by rfl) hAt ?_ | refine XTL (by rfl) hMo ?_)))); refine Wk.o ?_; (repeat revert hK K); exact h9)) : A := w h9
set_option maxRecDepth 100000 in
set_option maxHeartbeats 4000000 in
theorem pf_r34Clauses (n m init : Int) : PF Tryz.prog 35 [lt (.int .i64 n), lt (.int .i64 m), lt (.int .i64 init)] fun r H' => r = .iv (iRows (stL n m init)) ∧ H' = [] := by
  refine SF.frozen ?_
  have hs1 := trivial; have hs2 := trivial; have hs3 := trivial
  have hAt := trivial; have hMo := trivial
  have hCk := pf_r31Check n m
  by_cases hok : nOk n m
  · rw [nCheck_yes hok] at hCk
    by_cases hi0 : 0 ≤ init
    · by_cases hi2 : init < m
      · rw [show stL n m init = [nVar n m 3 0 init] :: stUp n m.toNat (n.toNat + 1) by unfold stL; rw [if_pos ⟨hok, hi0, hi2⟩]]
        obtain ⟨n, rfl⟩ : ∃ N : Nat, n = N := ⟨n.toNat, by unfold nOk at hok; omega⟩
        obtain ⟨m, rfl⟩ : ∃ N : Nat, m = N := ⟨m.toNat, by unfold nOk at hok; omega⟩
        have hn : n ≤ 64 := by unfold nOk at hok; omega
        have hm : m ≤ 32 := by unfold nOk at hok; omega
        rw [Int.toNat_natCast, Int.toNat_natCast]
        have hA := fun (a k : Nat) (ha : a < n + 1) (hk : k < m) => pf_r31State (n := n) (m := m) (a := a) (b := k) hok (by omega) (by omega) (by omega) (by omega)
        have hAt := pf_r31State (n := n) (m := m) (a := 0) (b := init) hok (by omega) (by omega) hi0 hi2
        (refine SF_of_bodyX (aload tt) (aload_ok tyOK) Tryz.func35 rfl (by kernel_rfl) ?_; simp only [Tryz.ntmps35, List.length_cons, List.length_nil, Nat.reduceAdd, Nat.reduceSub, List.replicate_succ, List.replicate_zero, List.cons_append, List.nil_append])
        (refine Wk.o ?_; (repeat revert hK K); refine Wca93a ?_; (repeat intro K hK); refine ⟨?_⟩)
        refine xs_set (P := AX _ _ _ _) 1 57 _ ([[nVar n m 3 0 init]].map rowA) rfl rfl ?_
        simp only [List.set_cons_succ, List.set_cons_zero]
        refine AX_ren [1] [31, 32] ?fr2 [some ⟨57, [[nVar n m 3 0 init]].map rowA⟩] (by decide) (by decide) (by (simp (disch := omega) only [go_sem, lint, rows_rn, rows_id, rows_one])) (by (simp (disch := omega) only [go_sem, lint, rows_rn, rows_id, rows_one])) (by (simp (disch := omega) only [go_sem, lint, rows_rn, rows_id, rows_one])) ?hfr (fun d2 => ?_)
        case hfr =>
          (simp (disch := omega) only [go_sem, lint, rows_rn, rows_id, rows_one])
          rfl
        simp only [deadS, List.set_cons_succ, List.set_cons_zero]
        (refine AWH (σ := Nat × List (List Int)) [33, 34, 35, 9, 10, 38, 39, 40, 43, 44, 45, 46, 47, 48, 49, 50, 41, 42, 51, 52, 53, 54, 55, 56, 57, 58, 36, 37] (fun (i, R) => [(8, lint i), (7, .osl 0 0 R.length 1)]) (fun (i, R) => [some ⟨57, R.map rowA⟩]) (fun (i, R) => []) (fun (i, R) => i ≤ n + 1 ∧ R = [[nVar n m 3 0 init]] ++ stUp n m i ∧ R.length ≤ 1 + 1025 * i) (fun (i, R) => n + 1 - i) (0, [[nVar n m 3 0 init]]) (by first | exact ⟨Nat.zero_le _, by simp [stUp], Nat.le_refl _⟩) ?_; rintro ⟨i, R⟩ d fr hfr ⟨hi, hR, hRl⟩; simp only [updS, deadS, List.set_cons_succ, List.set_cons_zero, lint] at hfr; subst hfr; (try dsimp only))
        by_cases hlt : i < n + 1
        · have hMo := pf_r32Most (atV n m i m) (by rw [atV_len]; omega) (atV_lim n m i m)
          unfold iRows at hMo
          have hsl := stP_len n m i hm
          unfold stP at hsl
          rw [List.length_cons] at hsl
          (refine Wk.o ?_; (repeat revert hK K); refine Wca93b ?_; (repeat intro K hK); refine ⟨?_⟩)
          refine AX_nil 9 3 1 rfl ?_
          (refine AWH (σ := Nat) [38, 39, 40, 43, 44, 45, 46, 47, 48, 49, 50, 41, 42] (fun k => [(10, lint k), (9, .osl 1 0 k 1)]) (fun k => [some ⟨57, R.map rowA⟩, some ⟨3, (atV n m i k).map lint⟩]) (fun k => []) (fun k => k ≤ m) (fun k => m - k) 0 (by first | exact Nat.zero_le _) ?_; rintro k d fr hfr hk; simp only [updS, deadS, List.set_cons_succ, List.set_cons_zero, lint] at hfr; subst hfr; (try dsimp only))
          by_cases hlk : k < m
          · have hAt := hA i k hlt hlk
            have hrl := atV_len n m i k
            (refine Wk.o ?_; (repeat revert hK K); refine Wca93b ?_; (repeat intro K hK); refine ⟨?_⟩)
            exact whx_ren [0, 3] (k + 1) (by omega) (by (first | omega | (dsimp only; omega) | (simp only; omega))) rfl (by decide) (by decide) (by (simp (disch := omega) only [go_sem, lint, rows_rn, rows_id, rows_one])) (by (simp (disch := omega) only [go_sem, lint, rows_rn, rows_id, rows_one])) (by rw [atV_nx]; (simp (disch := omega) only [go_sem, lint, rows_rn, rows_id, rows_one])) (fun d => by (simp (disch := omega) only [go_sem, lint, rows_rn, rows_id, rows_one]))
          · obtain rfl : k = m := by omega
            (repeat (first | (with_reducible first | refine AX_block ?_ | refine AX_skip ?_ | refine AX_exit ?_ | refine AX_ret ?_ | refine AX_ift ?_ | refine AX_iff ?_ | refine AX_seq_k (fun K hK => ?_) | refine ContX.use (by assumption) ?_) | simp only [thenX, inBlockX, if_true, if_false, reduceCtorEq]))
            ((with_reducible refine AX_reg0 fun K hK => ?_); simp only [go_sem])
            repeat (first | ((with_reducible refine XOP tyOK ?_); simp (disch := omega) only [go_sem , range_rowsU, iInts, iRows, iFlat, hs1, hs2, hs3, rows_one, rows_take, List.length_nil]; (with_reducible refine XRes_id ?_)) | (with_reducible refine XSK ?_))
            ((with_reducible refine XRes_nil ?_); refine hK _ ?_; clear hK K)
            (repeat (first | (with_reducible first | refine AX_block ?_ | refine AX_skip ?_ | refine AX_exit ?_ | refine AX_ret ?_ | refine AX_ift ?_ | refine AX_iff ?_ | refine AX_seq_k (fun K hK => ?_) | refine ContX.use (by assumption) ?_) | simp only [thenX, inBlockX, if_true, if_false, reduceCtorEq]))
            refine AX_freeze [1] [(9, .iv (iInts (atV n k i k)))] (fun p hp => ?_) ?_
            · rw [List.mem_singleton.1 hp]; refine frz_ints (t := 3) (only_mk (ds := [1]) (by decide) ?_) (atV_len _ _ _ _).symm; rfl
            simp only [setN, updS, List.set_cons_succ, List.set_cons_zero]
            (refine Wk.o ?_; (repeat revert hK K); refine Wca93a ?_; (repeat intro K hK); refine ⟨?_⟩)
            obtain ⟨R3, hR3⟩ : ∃ R3, R3 = R ++ [atV n k i k] ++ msAll (atV n k i k) := ⟨_, rfl⟩
            have hlen : R3.length = R.length + 1 + (msAll (atV n k i k)).length := by rw [hR3, List.length_append, List.length_append]; rfl
            refine xs_set (P := WhX _ _ _ _ _ _ _ _ _) 4 57 _ (R3.map rowA) rfl ?_ ?_
            · rw [List.take_of_length_le (by simp), hR3, List.map_append, List.map_append]; rfl
            simp only [List.set_cons_succ, List.set_cons_zero]
            exact whx_ren [4] (i + 1, R3) ⟨by omega, by rw [hR3, hR, stUp_succ]; unfold stP; simp only [List.append_assoc, List.cons_append, List.nil_append, List.singleton_append], by show R3.length ≤ _; omega⟩ (by (first | omega | (dsimp only; omega) | (simp only; omega))) rfl (by decide) (by decide) (by (simp (disch := omega) only [go_sem, lint, rows_rn, rows_id, rows_one])) (by (simp (disch := omega) only [go_sem, lint, rows_rn, rows_id, rows_one])) (by (simp (disch := omega) only [go_sem, lint, rows_rn, rows_id, rows_one])) (fun d => by simp (disch := omega) only [go_sem, lint, rows_rn, rows_id, rows_one, hlen])
        · obtain rfl : i = n + 1 := by omega
          (refine Wk.o ?_; (repeat revert hK K); refine Wca93b ?_; (repeat intro K hK); refine ⟨?_⟩)
          (simp only [bodyX]; refine ⟨_, by simp only [aresults, aresult, XS.as, Tryz.results35, aload, go_sem, Option.bind_some]; rfl, ?_⟩)
          exact ⟨_, snap_rws rfl rfl, by rw [hR]; rfl, trivial⟩
      · rw [show stL n m init = [] by unfold stL; rw [if_neg (fun h => hi2 h.2.2)]]
        (refine SF_of_bodyX (aload tt) (aload_ok tyOK) Tryz.func35 rfl (by kernel_rfl) ?_; simp only [Tryz.ntmps35, List.length_cons, List.length_nil, Nat.reduceAdd, Nat.reduceSub, List.replicate_succ, List.replicate_zero, List.cons_append, List.nil_append])
        (refine Wk.o ?_; (repeat revert hK K); refine Wca93b ?_; (repeat intro K hK); refine ⟨?_⟩)
        (simp only [bodyX]; refine ⟨_, by simp only [aresults, aresult, XS.as, Tryz.results35, aload, go_sem, Option.bind_some]; rfl, ?_⟩)
        exact ⟨_, .iv _ _ (.nil _ _), rfl, trivial⟩
    · rw [show stL n m init = [] by unfold stL; rw [if_neg (fun h => hi0 h.2.1)]]
      (refine SF_of_bodyX (aload tt) (aload_ok tyOK) Tryz.func35 rfl (by kernel_rfl) ?_; simp only [Tryz.ntmps35, List.length_cons, List.length_nil, Nat.reduceAdd, Nat.reduceSub, List.replicate_succ, List.replicate_zero, List.cons_append, List.nil_append])
      (refine Wk.o ?_; (repeat revert hK K); refine Wca93b ?_; (repeat intro K hK); refine ⟨?_⟩)
      (simp only [bodyX]; refine ⟨_, by simp only [aresults, aresult, XS.as, Tryz.results35, aload, go_sem, Option.bind_some]; rfl, ?_⟩)
      exact ⟨_, .iv _ _ (.nil _ _), rfl, trivial⟩
  · have hs1 := nCheck_no hok
    rw [nCheck_no hok] at hCk
    rw [show stL n m init = [] by unfold stL; rw [if_neg (fun h => hok h.1)]]
    (refine SF_of_bodyX (aload tt) (aload_ok tyOK) Tryz.func35 rfl (by kernel_rfl) ?_; simp only [Tryz.ntmps35, List.length_cons, List.length_nil, Nat.reduceAdd, Nat.reduceSub, List.replicate_succ, List.replicate_zero, List.cons_append, List.nil_append])
    (refine Wk.o ?_; (repeat revert hK K); refine Wca93b ?_; (repeat intro K hK); refine ⟨?_⟩)
    (simp only [bodyX]; refine ⟨_, by simp only [aresults, aresult, XS.as, Tryz.results35, aload, go_sem, Option.bind_some]; rfl, ?_⟩)
    exact ⟨_, .iv _ _ (.nil _ _), rfl, trivial⟩
end Go.Proofs.YtcjnikkmjhagmaaGreatDoor
namespace Go.Proofs.YtcjnikkmjhagmaaGreatDoor
open Go.RowKit
set_option linter.unusedVariables false
set_option linter.unusedSimpArgs false
theorem Wf2daa {A B : Prop} (h9 : B) (w : B → A := by (intro h9; (repeat intro K hK); refine ⟨?_⟩; (repeat (first | (first | (with_reducible first | refine AX_block ?_ | refine AX_skip ?_ | refine AX_exit ?_ | refine AX_ret ?_ | refine AX_ift ?_ | refine AX_iff ?_ | refine AX_seq_k (fun K hK => ?_) | refine ContX.use (by assumption) ?_) | simp only [thenX, inBlockX, if_true, if_false, reduceCtorEq]) | (first | ((with_reducible first | refine XOP tyOK ?_ | refine AOP tyOK ?_); simp (disch := omega) only [go_sem , Nat.reduceLeDiff, iInts, iRows, iFlat, Int.toNat_zero, Int.toNat_one, hs1, hs2, hs3, rows_one, rows_take, List.length_nil]; (with_reducible first | refine XRes_id ?_ | refine ADF_id ?_)) | (with_reducible first | refine XSK ?_ | refine ASK ?_)) | ((first | (with_reducible refine XRes_nil ?_) | (with_reducible refine ADF_nil ?_)); (first | refine hK _ ?_ | refine hK _ _ ?_); clear hK K) | ((first | (with_reducible refine AX_reg0 fun K hK => ?_) | (refine AX_drawG1 tyOK (by kernel_rfl) (by rfl) (by kernel_rfl) fun K hK => ?_)); simp only [go_sem]) | (first | (first | refine XTL (by rfl) hCk ?_ | refine ATL tyOK (by rfl) hCk ?_ | refine XTL (by rfl) hAt ?_ | refine ATL tyOK (by rfl) hAt ?_ | refine XTL (by rfl) hBt ?_ | refine ATL tyOK (by rfl) hBt ?_)))); refine Wk.o ?_; (repeat revert hK K); exact h9)) : A := w h9
set_option maxRecDepth 100000 in
set_option maxHeartbeats 4000000 in
theorem pf_r33Clauses (n m : Int) (us : List Int) (Z : Nat) (hZl : Z ≤ 10000) (hu : us.length = Z * 2) : PF Tryz.prog 33 [lt (.int .i64 n), lt (.int .i64 m), .iv (iFlat us Z 2)] fun r H' => r = .iv (iRows (tmL n m us Z)) ∧ H' = [] := by
  refine SF.frozen ?_
  have hs1 := trivial; have hs2 := trivial; have hs3 := trivial; have hAt := trivial; have hBt := trivial
  have hCk := pf_r31Check n m
  by_cases hok : nOk n m
  · rw [nCheck_yes hok] at hCk
    rw [show tmL n m us Z = tmU n.toNat m us Z by unfold tmL; rw [if_pos hok]]
    obtain ⟨n, rfl⟩ : ∃ N : Nat, n = N := ⟨n.toNat, by unfold nOk at hok; omega⟩
    have hn : n ≤ 64 := by unfold nOk at hok; omega
    rw [Int.toNat_natCast]
    (refine SF_of_bodyX (aload tt) (aload_ok tyOK) Tryz.func33 rfl (by kernel_rfl) ?_; simp only [Tryz.ntmps33, List.length_cons, List.length_nil, Nat.reduceAdd, Nat.reduceSub, List.replicate_succ, List.replicate_zero, List.cons_append, List.nil_append])
    unfold iFlat
    (refine Wk.o ?_; (repeat revert hK K); refine Wf2daa ?_; (repeat intro K hK); refine ⟨?_⟩)
    refine AX_nil 7 57 1 rfl ?_
    (refine AWH (σ := Nat × List (List Int)) [13, 14, 15, 16, 17, 18, 19, 20, 21, 22, 25, 26, 27, 28, 29, 30, 31, 32, 33, 34, 9, 10, 35, 36, 37, 38, 39, 40, 41, 42, 43, 44, 45, 46, 47, 48, 49, 50, 51, 52, 53, 54, 55, 11, 56, 57, 58, 12, 61, 62, 63, 66, 67, 68, 69, 70, 71, 72, 73, 74, 75, 76, 77, 78, 79, 80, 81, 64, 65, 59, 60, 23, 24] (fun (p, R) => [(8, lint p), (7, .osl 0 0 R.length 1)]) (fun (p, R) => [some ⟨57, R.map rowA⟩]) (fun (p, R) => []) (fun (p, R) => p ≤ Z ∧ R = tmU n m us p ∧ R.length ≤ 4096 * p) (fun (p, R) => Z - p) (0, []) (by first | exact ⟨Nat.zero_le _, rfl, Nat.le_refl _⟩) ?_; rintro ⟨p, R⟩ d fr hfr ⟨hp, hR, hRl⟩; simp only [updS, deadS, List.set_cons_succ, List.set_cons_zero, lint] at hfr; subst hfr; (try dsimp only))
    by_cases hlt : p < Z
    · by_cases hg : tmG n (us.getD (p * 2) 0) (us.getD (p * 2 + 1) 0)
      · obtain ⟨⟨ha1, ha2⟩, ⟨hb1, hb2⟩, hab⟩ := id hg
        (refine Wk.o ?_; (repeat revert hK K); refine Wf2daa ?_; (repeat intro K hK); refine ⟨?_⟩)
        (refine AWH (σ := Nat × List (List Int)) [56, 57, 58, 12, 61, 62, 63, 66, 67, 68, 69, 70, 71, 72, 73, 74, 75, 76, 77, 78, 79, 80, 81, 64, 65, 59, 60] (fun (x, R1) => [(11, lint x), (7, .osl 0 0 R1.length 1)]) (fun (x, R1) => [some ⟨57, R1.map rowA⟩]) (fun (x, R1) => []) (fun (x, R1) => x ≤ n ∧ R1 = R ++ tmP n m (us.getD (p * 2) 0) (us.getD (p * 2 + 1) 0) x ∧ R1.length ≤ R.length + 64 * x) (fun (x, R1) => n - x) (0, R) (by first | exact ⟨Nat.zero_le _, by simp [tmP], Nat.le_refl _⟩) ?_; rintro ⟨x, R1⟩ d fr hfr ⟨hx, hR1, hR1l⟩; simp only [updS, deadS, List.set_cons_succ, List.set_cons_zero, lint] at hfr; subst hfr; (try dsimp only))
        by_cases hlx : x < n
        · (refine Wk.o ?_; (repeat revert hK K); refine Wf2daa ?_; (repeat intro K hK); refine ⟨?_⟩)
          (refine AWH (σ := Nat × List (List Int)) [61, 62, 63, 66, 67, 68, 69, 70, 71, 72, 73, 74, 75, 76, 77, 78, 79, 80, 81, 64, 65] (fun (y, R2) => [(12, lint y), (7, .osl 0 0 R2.length 1)]) (fun (y, R2) => [some ⟨57, R2.map rowA⟩]) (fun (y, R2) => []) (fun (y, R2) => y ≤ x ∧ R2 = R1 ++ tmA n m (us.getD (p * 2) 0) (us.getD (p * 2 + 1) 0) x y) (fun (y, R2) => x - y) (0, R1) (by first | exact ⟨Nat.zero_le _, by simp [tmA]⟩) ?_; rintro ⟨y, R2⟩ d fr hfr ⟨hy, hR2⟩; simp only [updS, deadS, List.set_cons_succ, List.set_cons_zero, lint] at hfr; subst hfr; (try dsimp only))
          have hR2l : R2.length = R1.length + y := by rw [hR2, List.length_append, tmA_len]
          by_cases hly : y < x
          · have hAt := pf_r31At (n := n) (m := m) (a := (us.getD (p * 2) 0)) (b := x) hok ha1 ha2 (by omega) (by omega)
            have hBt := pf_r31At (n := n) (m := m) (a := (us.getD (p * 2 + 1) 0)) (b := y) hok hb1 hb2 (by omega) (by omega)
            have hl1 := nVar_lim n m 1 (us.getD (p * 2) 0) x
            have hl2 := nVar_lim n m 1 (us.getD (p * 2 + 1) 0) y
            (repeat (first | (first | (with_reducible first | refine AX_block ?_ | refine AX_skip ?_ | refine AX_exit ?_ | refine AX_ret ?_ | refine AX_ift ?_ | refine AX_iff ?_ | refine AX_seq_k (fun K hK => ?_) | refine ContX.use (by assumption) ?_) | simp only [thenX, inBlockX, if_true, if_false, reduceCtorEq]) | ((refine XRes_litF tyOK (by rfl) rfl (by decide) rfl rfl ?_); (simp only [List.map_cons, List.map_nil, intOf, putL, List.set_cons_succ, List.set_cons_zero])) | (first | ((with_reducible first | refine XOP tyOK ?_ | refine AOP tyOK ?_); simp (disch := omega) only [go_sem , Nat.reduceLeDiff, iInts, iRows, iFlat, Int.toNat_zero, Int.toNat_one, hs1, hs2, hs3, rows_one, rows_take, List.length_nil]; (with_reducible first | refine XRes_id ?_ | refine ADF_id ?_)) | (with_reducible first | refine XSK ?_ | refine ASK ?_)) | ((first | (with_reducible refine XRes_nil ?_) | (with_reducible refine ADF_nil ?_)); (first | refine hK _ ?_ | refine hK _ _ ?_); clear hK K) | ((first | (with_reducible refine AX_reg0 fun K hK => ?_) | (refine AX_drawG1 tyOK (by kernel_rfl) (by rfl) (by kernel_rfl) fun K hK => ?_)); simp only [go_sem]) | (first | (first | refine XTL (by rfl) hCk ?_ | refine ATL tyOK (by rfl) hCk ?_ | refine XTL (by rfl) hAt ?_ | refine ATL tyOK (by rfl) hAt ?_ | refine XTL (by rfl) hBt ?_ | refine ATL tyOK (by rfl) hBt ?_))))
            obtain ⟨R3, hR3⟩ : ∃ R3, R3 = R2 ++ [tmRow n m (us.getD (p * 2) 0) (us.getD (p * 2 + 1) 0) x y] := ⟨_, rfl⟩
            have hlen : R3.length = R2.length + 1 := by rw [hR3, List.length_append]; rfl
            refine xs_set (P := WhX _ _ _ _ _ _ _ _ _) 2 57 _ (R3.map rowA) rfl ?_ ?_
            · rw [hR3, List.map_append]; rfl
            simp only [List.set_cons_succ, List.set_cons_zero]
            exact whx_ren [2] (y + 1, R3) ⟨by omega, by rw [hR3, hR2, tmA_succ, List.append_assoc]⟩ (by (first | omega | (dsimp only; omega) | (simp only; omega))) rfl (by decide) (by decide) (by (simp (disch := omega) only [go_sem, lint, rows_rn, rows_id, rows_one])) (by (simp (disch := omega) only [go_sem, lint, rows_rn, rows_id, rows_one])) (by (simp (disch := omega) only [go_sem, lint, rows_rn, rows_id, rows_one])) (fun d => by simp (disch := omega) only [go_sem, lint, rows_rn, rows_id, rows_one, hlen])
          · obtain rfl : y = x := by omega
            (refine Wk.o ?_; (repeat revert hK K); refine Wf2daa ?_; (repeat intro K hK); refine ⟨?_⟩)
            exact whx_ren [0] (y + 1, R2) ⟨by omega, by rw [hR2, hR1, tmP_succ, List.append_assoc], by show R2.length ≤ _; omega⟩ (by (first | omega | (dsimp only; omega) | (simp only; omega))) rfl (by decide) (by decide) (by (simp (disch := omega) only [go_sem, lint, rows_rn, rows_id, rows_one])) (by (simp (disch := omega) only [go_sem, lint, rows_rn, rows_id, rows_one])) (by (simp (disch := omega) only [go_sem, lint, rows_rn, rows_id, rows_one])) (fun d => by (simp (disch := omega) only [go_sem, lint, rows_rn, rows_id, rows_one]))
        · obtain rfl : x = n := by omega
          (refine Wk.o ?_; (repeat revert hK K); refine Wf2daa ?_; (repeat intro K hK); refine ⟨?_⟩)
          exact whx_ren [0] (p + 1, R1) ⟨by omega, by rw [tmU_succ, hR1, hR]; unfold tmI; rw [if_pos hg], by show R1.length ≤ _; omega⟩ (by (first | omega | (dsimp only; omega) | (simp only; omega))) rfl (by decide) (by decide) (by (simp (disch := omega) only [go_sem, lint, rows_rn, rows_id, rows_one])) (by (simp (disch := omega) only [go_sem, lint, rows_rn, rows_id, rows_one])) (by (simp (disch := omega) only [go_sem, lint, rows_rn, rows_id, rows_one])) (fun d => by (simp (disch := omega) only [go_sem, lint, rows_rn, rows_id, rows_one]))
      · by_cases c1 : (us.getD (p * 2) 0) < 0
        · skip
          (refine Wk.o ?_; (repeat revert hK K); refine Wf2daa ?_; (repeat intro K hK); refine ⟨?_⟩)
          exact whx_ren [0] (p + 1, R) ⟨by omega, by rw [tmU_succ, hR]; unfold tmI; rw [if_neg hg, List.append_nil], by show R.length ≤ _; omega⟩ (by (first | omega | (dsimp only; omega) | (simp only; omega))) rfl (by decide) (by decide) (by (simp (disch := omega) only [go_sem, lint, rows_rn, rows_id, rows_one])) (by (simp (disch := omega) only [go_sem, lint, rows_rn, rows_id, rows_one])) (by (simp (disch := omega) only [go_sem, lint, rows_rn, rows_id, rows_one])) (fun d => by (simp (disch := omega) only [go_sem, lint, rows_rn, rows_id, rows_one]))
        by_cases c2 : (us.getD (p * 2 + 1) 0) < 0
        · skip
          (refine Wk.o ?_; (repeat revert hK K); refine Wf2daa ?_; (repeat intro K hK); refine ⟨?_⟩)
          exact whx_ren [0] (p + 1, R) ⟨by omega, by rw [tmU_succ, hR]; unfold tmI; rw [if_neg hg, List.append_nil], by show R.length ≤ _; omega⟩ (by (first | omega | (dsimp only; omega) | (simp only; omega))) rfl (by decide) (by decide) (by (simp (disch := omega) only [go_sem, lint, rows_rn, rows_id, rows_one])) (by (simp (disch := omega) only [go_sem, lint, rows_rn, rows_id, rows_one])) (by (simp (disch := omega) only [go_sem, lint, rows_rn, rows_id, rows_one])) (fun d => by (simp (disch := omega) only [go_sem, lint, rows_rn, rows_id, rows_one]))
        by_cases c3 : n ≤ (us.getD (p * 2) 0)
        · skip
          (refine Wk.o ?_; (repeat revert hK K); refine Wf2daa ?_; (repeat intro K hK); refine ⟨?_⟩)
          exact whx_ren [0] (p + 1, R) ⟨by omega, by rw [tmU_succ, hR]; unfold tmI; rw [if_neg hg, List.append_nil], by show R.length ≤ _; omega⟩ (by (first | omega | (dsimp only; omega) | (simp only; omega))) rfl (by decide) (by decide) (by (simp (disch := omega) only [go_sem, lint, rows_rn, rows_id, rows_one])) (by (simp (disch := omega) only [go_sem, lint, rows_rn, rows_id, rows_one])) (by (simp (disch := omega) only [go_sem, lint, rows_rn, rows_id, rows_one])) (fun d => by (simp (disch := omega) only [go_sem, lint, rows_rn, rows_id, rows_one]))
        by_cases c4 : n ≤ (us.getD (p * 2 + 1) 0)
        · skip
          (refine Wk.o ?_; (repeat revert hK K); refine Wf2daa ?_; (repeat intro K hK); refine ⟨?_⟩)
          exact whx_ren [0] (p + 1, R) ⟨by omega, by rw [tmU_succ, hR]; unfold tmI; rw [if_neg hg, List.append_nil], by show R.length ≤ _; omega⟩ (by (first | omega | (dsimp only; omega) | (simp only; omega))) rfl (by decide) (by decide) (by (simp (disch := omega) only [go_sem, lint, rows_rn, rows_id, rows_one])) (by (simp (disch := omega) only [go_sem, lint, rows_rn, rows_id, rows_one])) (by (simp (disch := omega) only [go_sem, lint, rows_rn, rows_id, rows_one])) (fun d => by (simp (disch := omega) only [go_sem, lint, rows_rn, rows_id, rows_one]))
        have c5 : (us.getD (p * 2) 0) = (us.getD (p * 2 + 1) 0) := by unfold tmG at hg; omega
        (refine Wk.o ?_; (repeat revert hK K); refine Wf2daa ?_; (repeat intro K hK); refine ⟨?_⟩)
        exact whx_ren [0] (p + 1, R) ⟨by omega, by rw [tmU_succ, hR]; unfold tmI; rw [if_neg hg, List.append_nil], by show R.length ≤ _; omega⟩ (by (first | omega | (dsimp only; omega) | (simp only; omega))) rfl (by decide) (by decide) (by (simp (disch := omega) only [go_sem, lint, rows_rn, rows_id, rows_one])) (by (simp (disch := omega) only [go_sem, lint, rows_rn, rows_id, rows_one])) (by (simp (disch := omega) only [go_sem, lint, rows_rn, rows_id, rows_one])) (fun d => by (simp (disch := omega) only [go_sem, lint, rows_rn, rows_id, rows_one]))
    · obtain rfl : p = Z := by omega
      (refine Wk.o ?_; (repeat revert hK K); refine Wf2daa ?_; (repeat intro K hK); refine ⟨?_⟩)
      (simp only [bodyX]; refine ⟨_, by simp only [aresults, aresult, XS.as, Tryz.results33, aload, go_sem, Option.bind_some]; rfl, ?_⟩)
      exact ⟨_, snap_rws rfl rfl, by rw [hR], trivial⟩
  · rw [nCheck_no hok] at hCk
    have hs1 := nCheck_no hok
    rw [show tmL n m us Z = [] by unfold tmL; rw [if_neg hok]]
    (refine SF_of_bodyX (aload tt) (aload_ok tyOK) Tryz.func33 rfl (by kernel_rfl) ?_; simp only [Tryz.ntmps33, List.length_cons, List.length_nil, Nat.reduceAdd, Nat.reduceSub, List.replicate_succ, List.replicate_zero, List.cons_append, List.nil_append])
    unfold iFlat
    (refine Wk.o ?_; (repeat revert hK K); refine Wf2daa ?_; (repeat intro K hK); refine ⟨?_⟩)
    (refine AWH (σ := Nat) [13, 14, 15, 16, 17, 18, 19, 20, 21, 22, 25, 26, 27, 28, 29, 30, 31, 32, 33, 34, 9, 10, 35, 36, 37, 38, 39, 40, 41, 42, 43, 44, 45, 46, 47, 48, 49, 50, 51, 52, 53, 54, 55, 11, 56, 57, 58, 12, 61, 62, 63, 66, 67, 68, 69, 70, 71, 72, 73, 74, 75, 76, 77, 78, 79, 80, 81, 64, 65, 59, 60, 23, 24] (fun p => [(8, lint p), (7, lt (.slice none 0 0))]) (fun p => []) (fun p => []) (fun p => p = 0) (fun p => 0) 0 (by first | exact rfl) ?_; rintro p d fr hfr hp; simp only [updS, deadS, List.set_cons_succ, List.set_cons_zero, lint] at hfr; subst hfr; (try dsimp only))
    subst hp
    by_cases hlt : 0 < Z
    · (refine Wk.o ?_; (repeat revert hK K); refine Wf2daa ?_; (repeat intro K hK); refine ⟨?_⟩)
      (simp only [bodyX]; refine ⟨_, by simp only [aresults, aresult, XS.as, Tryz.results33, aload, go_sem, Option.bind_some]; rfl, ?_⟩)
      exact ⟨_, .iv _ _ (.nil _ _), rfl, trivial⟩
    · (refine Wk.o ?_; (repeat revert hK K); refine Wf2daa ?_; (repeat intro K hK); refine ⟨?_⟩)
      (simp only [bodyX]; refine ⟨_, by simp only [aresults, aresult, XS.as, Tryz.results33, aload, go_sem, Option.bind_some]; rfl, ?_⟩)
      exact ⟨_, .iv _ _ (.nil _ _), rfl, trivial⟩
end Go.Proofs.YtcjnikkmjhagmaaGreatDoor
namespace Go.Proofs.YtcjnikkmjhagmaaGreatDoor
open Go.RowKit
set_option linter.unusedVariables false
set_option linter.unusedSimpArgs false
theorem W4ad2a {A B : Prop} (h9 : B) (w : B → A := by (intro h9; (repeat intro K hK); refine ⟨?_⟩; (repeat (first | (first | (with_reducible first | refine AX_block ?_ | refine AX_skip ?_ | refine AX_exit ?_ | refine AX_ret ?_ | refine AX_ift ?_ | refine AX_iff ?_ | refine AX_seq_k (fun K hK => ?_) | refine ContX.use (by assumption) ?_) | simp only [thenX, inBlockX, if_true, if_false, reduceCtorEq]) | (first | ((first | (with_reducible refine XRes_op tyOK ?_ ?_) | ((with_reducible first | refine ADF_op tyOK ?_ ?_ ?_ | refine ADX_op tyOK ?_ ?_ ?_); (focus rfl)) | (with_reducible refine ADR_alloc1 tyOK ?_ ?_) | ((with_reducible refine ADR_free1 tyOK ?_ ?_ ?_); (focus rfl)) | ((with_reducible refine ADR_free0 tyOK ?_ ?_ ?_); (focus rfl)) | ((with_reducible refine ADR_read1 tyOK ?_ ?_ ?_); (focus rfl)) | (with_reducible refine ADR_chg1 tyOK ?_ ?_)); (focus (first | (with_reducible rfl) | ((simp (disch := omega) only [go_sem]); done))); simp (disch := omega) only [go_sem , iOps, iFlat, iInts, hs1, hs2, hs3, flatO_p, flatO_k, flatO_s, flatO_e, flatO_r, rows_one, rows_take, List.length_nil]; (first | (with_reducible refine XRes_id ?_) | (with_reducible refine ADF_id ?_) | (with_reducible refine ADR_id1 ?_) | (with_reducible refine ADX_id ?_))) | ((first | (with_reducible refine XRes_skip ?_ ?_) | (with_reducible refine ADF_skip (b := true) ?_ ?_) | (with_reducible refine ADX_skip ?_ ?_) | ((with_reducible refine ADR_skip1 ?_ ?_ ?_); (focus rfl))); (focus (first | rfl | ((simp (disch := omega) only [go_sem]); done))); (simp only [putL, List.set_cons_succ, List.set_cons_zero]))) | ((first | (with_reducible refine XRes_nil ?_) | (with_reducible refine ADF_nil ?_) | (with_reducible refine ADR_nil ?_) | (with_reducible refine ADX_nil ?_)); (first | refine hK _ ?_ | refine hK _ _ ?_); clear hK K) | ((first | (with_reducible refine AX_reg0 fun K hK => ?_) | (refine AX_drawG1 tyOK (by kernel_rfl) (by rfl) (by kernel_rfl) fun K hK => ?_) | (refine AX_drawT tyOK (by kernel_rfl) (by decide +kernel) fun K hK => ?_) | (refine AX_drawM1 (by kernel_rfl) (by rfl) (by decide +kernel) fun K hK => ?_) | (refine AX_drawA tyOK (by kernel_rfl) (by decide +kernel) fun K hK => ?_)); (first | simp only [go_sem, preN, effOp, runF, alM, mapOp, alD2, kdOf2, Bool.not_false, Bool.not_true, reduceCtorEq] | simp only [go_sem, preN, effOp, runF, alM, mapOp, Bool.not_false, Bool.not_true, reduceCtorEq] | simp only [go_sem, preN, effOp, runF, alD2, kdOf2, Bool.not_false, Bool.not_true, reduceCtorEq] | simp only [go_sem, alD2, kdOf2, Bool.not_false, Bool.not_true, reduceCtorEq] | simp only [go_sem, preN, effOp, runF, Bool.not_false, Bool.not_true, reduceCtorEq] | simp only [go_sem])) | (first | (first | refine XTL (by rfl) hZ ?_ | refine ATL tyOK (by rfl) hZ ?_ | refine XTL (by rfl) hCk ?_ | refine ATL tyOK (by rfl) hCk ?_ | refine XTL (by rfl) hIn ?_ | refine ATL tyOK (by rfl) hIn ?_ | refine XTL (by rfl) hAt ?_ | refine ATL tyOK (by rfl) hAt ?_ | refine XTL (by rfl) hSt ?_ | refine ATL tyOK (by rfl) hSt ?_ | refine XTL (by rfl) hMay ?_ | refine ATL tyOK (by rfl) hMay ?_ | refine XTL (by rfl) hSn ?_ | refine ATL tyOK (by rfl) hSn ?_ | refine XTL (by rfl) hSs ?_ | refine ATL tyOK (by rfl) hSs ?_)))); refine Wk.o ?_; (repeat revert hK K); exact h9)) : A := w h9
theorem W4ad2b {A B : Prop} (h9 : B) (w : B → A := by (intro h9; (repeat intro K hK); refine ⟨?_⟩; (repeat (first | (first | (with_reducible first | refine AX_block ?_ | refine AX_skip ?_ | refine AX_exit ?_ | refine AX_ret ?_ | refine AX_ift ?_ | refine AX_iff ?_ | refine AX_seq_k (fun K hK => ?_) | refine ContX.use (by assumption) ?_) | simp only [thenX, inBlockX, if_true, if_false, reduceCtorEq]) | ((refine XRes_litF tyOK (by rfl) rfl (by decide) rfl rfl ?_); (simp only [List.map_cons, List.map_nil, intOf, putL, List.set_cons_succ, List.set_cons_zero])) | (first | ((first | (with_reducible refine XRes_op tyOK ?_ ?_) | ((with_reducible first | refine ADF_op tyOK ?_ ?_ ?_ | refine ADX_op tyOK ?_ ?_ ?_); (focus rfl)) | (with_reducible refine ADR_alloc1 tyOK ?_ ?_) | ((with_reducible refine ADR_free1 tyOK ?_ ?_ ?_); (focus rfl)) | ((with_reducible refine ADR_free0 tyOK ?_ ?_ ?_); (focus rfl)) | ((with_reducible refine ADR_read1 tyOK ?_ ?_ ?_); (focus rfl)) | (with_reducible refine ADR_chg1 tyOK ?_ ?_)); (focus (first | (with_reducible rfl) | ((simp (disch := omega) only [go_sem]); done))); simp (disch := omega) only [go_sem , iOps, iFlat, iInts, hs1, hs2, hs3, flatO_p, flatO_k, flatO_s, flatO_e, flatO_r, rows_one, rows_take, List.length_nil]; (first | (with_reducible refine XRes_id ?_) | (with_reducible refine ADF_id ?_) | (with_reducible refine ADR_id1 ?_) | (with_reducible refine ADX_id ?_))) | ((first | (with_reducible refine XRes_skip ?_ ?_) | (with_reducible refine ADF_skip (b := true) ?_ ?_) | (with_reducible refine ADX_skip ?_ ?_) | ((with_reducible refine ADR_skip1 ?_ ?_ ?_); (focus rfl))); (focus (first | rfl | ((simp (disch := omega) only [go_sem]); done))); (simp only [putL, List.set_cons_succ, List.set_cons_zero]))) | ((first | (with_reducible refine XRes_nil ?_) | (with_reducible refine ADF_nil ?_) | (with_reducible refine ADR_nil ?_) | (with_reducible refine ADX_nil ?_)); (first | refine hK _ ?_ | refine hK _ _ ?_); clear hK K) | ((first | (with_reducible refine AX_reg0 fun K hK => ?_) | (refine AX_drawG1 tyOK (by kernel_rfl) (by rfl) (by kernel_rfl) fun K hK => ?_) | (refine AX_drawT tyOK (by kernel_rfl) (by decide +kernel) fun K hK => ?_) | (refine AX_drawM1 (by kernel_rfl) (by rfl) (by decide +kernel) fun K hK => ?_) | (refine AX_drawA tyOK (by kernel_rfl) (by decide +kernel) fun K hK => ?_)); (first | simp only [go_sem, preN, effOp, runF, alM, mapOp, alD2, kdOf2, Bool.not_false, Bool.not_true, reduceCtorEq] | simp only [go_sem, preN, effOp, runF, alM, mapOp, Bool.not_false, Bool.not_true, reduceCtorEq] | simp only [go_sem, preN, effOp, runF, alD2, kdOf2, Bool.not_false, Bool.not_true, reduceCtorEq] | simp only [go_sem, alD2, kdOf2, Bool.not_false, Bool.not_true, reduceCtorEq] | simp only [go_sem, preN, effOp, runF, Bool.not_false, Bool.not_true, reduceCtorEq] | simp only [go_sem])) | (first | (first | refine XTL (by rfl) hZ ?_ | refine ATL tyOK (by rfl) hZ ?_ | refine XTL (by rfl) hCk ?_ | refine ATL tyOK (by rfl) hCk ?_ | refine XTL (by rfl) hIn ?_ | refine ATL tyOK (by rfl) hIn ?_ | refine XTL (by rfl) hAt ?_ | refine ATL tyOK (by rfl) hAt ?_ | refine XTL (by rfl) hSt ?_ | refine ATL tyOK (by rfl) hSt ?_ | refine XTL (by rfl) hMay ?_ | refine ATL tyOK (by rfl) hMay ?_ | refine XTL (by rfl) hSn ?_ | refine ATL tyOK (by rfl) hSn ?_ | refine XTL (by rfl) hSs ?_ | refine ATL tyOK (by rfl) hSs ?_)))); refine Wk.o ?_; (repeat revert hK K); exact h9)) : A := w h9
set_option maxRecDepth 100000 in
set_option maxHeartbeats 8000000 in
theorem pf_rClauses (o : Ob) (l : List Op5) (hr : o.R.length ≤ 100000) (ho : o.Ok) (hl : l.length ≤ 100000) (hs : okS l) : PF Tryz.prog 36 [obA o, .iv (iOps l)] fun r H' => r = .iv (iRows (mRes o l)) ∧ H' = [] := by
  refine SF.frozen ?_
  have hs1 := trivial; have hs2 := trivial; have hs3 := trivial
  have hZ := pf_rSize o l hr ho hl
  have hCk := pf_r31Check (mN o l) (mS o l)
  have hIn := trivial; have hAt := trivial; have hSt := trivial; have hMay := trivial; have hSn := trivial; have hSs := trivial
  by_cases hok : nOk (mN o l) (mS o l)
  · obtain ⟨hm, hln, hS1, hS2⟩ := m_nOk hok
    rw [nCheck_yes hok] at hCk
    have hres : mRes o l = mCl o l l.length := by unfold mRes; rw [if_pos hok]
    rw [hres]
    rw [(m_yes hm).1, (m_yes hm).2] at hZ hCk hok
    have hob := hm.1
    clear hres hm
    obtain ⟨S0, K0, I0, R0⟩ := o
    simp only at hS1 hS2 hok hZ hCk
    obtain ⟨m, rfl⟩ : ∃ m : Nat, S0 = m := ⟨S0.toNat, by omega⟩
    have hvl := nVar_lim l.length m
    (refine SF_of_bodyX (aload tt) (aload_ok tyOK) Tryz.func36 rfl (by kernel_rfl) ?_; simp only [Tryz.ntmps36, List.length_cons, List.length_nil, Nat.reduceAdd, Nat.reduceSub, List.replicate_succ, List.replicate_zero, List.cons_append, List.nil_append])
    unfold iOps iFlat
    (refine Wk.o ?_; (repeat revert hK K); refine W4ad2a ?_; (repeat intro K hK); refine ⟨?_⟩)
    refine AX_nil 5 57 1 rfl ?_
    (refine AWH (σ := Nat × List (List Int)) [27, 28, 29, 32, 33, 34, 35, 9, 36, 37, 38, 39, 40, 41, 42, 43, 44, 45, 46, 10, 47, 48, 49, 11, 52, 53, 54, 57, 58, 59, 60, 61, 62, 63, 64, 65, 66, 12, 13, 68, 69, 70, 71, 72, 73, 74, 67, 75, 76, 14, 15, 77, 78, 79, 80, 81, 82, 83, 84, 85, 86, 87, 88, 89, 90, 91, 92, 93, 94, 95, 96, 97, 98, 99, 100, 101, 102, 103, 104, 105, 106, 107, 108, 109, 110, 111, 112, 113, 114, 115, 116, 117, 118, 119, 120, 121, 122, 123, 124, 55, 56, 50, 51, 30, 31] (fun (i, R) => [(8, lint i), (5, .osl 1 0 R.length 1)]) (fun (i, R) => [some ⟨24, [lt (.int .i64 m), lt (.int .i64 K0), lt (.int .i64 I0), .iv (iRws R0)]⟩, some ⟨57, R.map rowA⟩]) (fun (i, R) => []) (fun (i, R) => i ≤ l.length ∧ R = mCl ⟨↑m, K0, I0, R0⟩ l i ∧ R.length ≤ 5000 * i) (fun (i, R) => l.length - i) (0, []) (by first | exact ⟨Nat.zero_le _, rfl, Nat.le_refl _⟩) ?_; rintro ⟨i, R⟩ d fr hfr ⟨hi, hR, hRl⟩; simp only [updS, deadS, List.set_cons_succ, List.set_cons_zero, lint] at hfr; subst hfr; (try dsimp only))
    by_cases hlt : i < l.length
    · have hIn := pf_r31In (n := l.length) (m := m) (a := i) hok (by omega) (by omega)
      have hin := hvl 2 i 0
      by_cases he : (oAt l i).e = -1
      · (refine Wk.o ?_; (repeat revert hK K); refine W4ad2a ?_; (repeat intro K hK); refine ⟨?_⟩)
        (refine AWH (σ := Nat × List (List Int)) [47, 48, 49, 11, 52, 53, 54, 57, 58, 59, 60, 61, 62, 63, 64, 65, 66, 12, 13, 68, 69, 70, 71, 72, 73, 74, 67, 75, 76, 14, 15, 77, 78, 79, 80, 81, 82, 83, 84, 85, 86, 87, 88, 89, 90, 91, 92, 93, 94, 95, 96, 97, 98, 99, 100, 101, 102, 103, 104, 105, 106, 107, 108, 109, 110, 111, 112, 113, 114, 115, 116, 117, 118, 119, 120, 121, 122, 123, 124, 55, 56, 50, 51] (fun (p, R1) => [(10, lint p), (5, .osl 1 0 R1.length 1)]) (fun (p, R1) => [some ⟨24, [lt (.int .i64 m), lt (.int .i64 K0), lt (.int .i64 I0), .iv (iRws R0)]⟩, some ⟨57, R1.map rowA⟩]) (fun (p, R1) => []) (fun (p, R1) => p ≤ l.length ∧ R1 = R ++ mP ⟨↑m, K0, I0, R0⟩ l i p ∧ R1.length ≤ R.length + 64 * p) (fun (p, R1) => l.length - p) (0, R) (by first | exact ⟨Nat.zero_le _, by simp [mP], by omega⟩) ?_; rintro ⟨p, R1⟩ d fr hfr ⟨hp, hR1, hR1l⟩; simp only [updS, deadS, List.set_cons_succ, List.set_cons_zero, lint] at hfr; subst hfr; (try dsimp only))
        by_cases hlp : p < l.length
        · have hpl := hvl 1 i p
          (refine Wk.o ?_; (repeat revert hK K); refine W4ad2a ?_; (repeat intro K hK); refine ⟨?_⟩)
          (refine AWH (σ := Nat × List (List Int)) [52, 53, 54, 57, 58, 59, 60, 61, 62, 63, 64, 65, 66, 12, 13, 68, 69, 70, 71, 72, 73, 74, 67, 75, 76, 14, 15, 77, 78, 79, 80, 81, 82, 83, 84, 85, 86, 87, 88, 89, 90, 91, 92, 93, 94, 95, 96, 97, 98, 99, 100, 101, 102, 103, 104, 105, 106, 107, 108, 109, 110, 111, 112, 113, 114, 115, 116, 117, 118, 119, 120, 121, 122, 123, 124, 55, 56] (fun (b, R2) => [(11, lint b), (5, .osl 1 0 R2.length 1)]) (fun (b, R2) => [some ⟨24, [lt (.int .i64 m), lt (.int .i64 K0), lt (.int .i64 I0), .iv (iRws R0)]⟩, some ⟨57, R2.map rowA⟩]) (fun (b, R2) => []) (fun (b, R2) => b ≤ m ∧ R2 = R1 ++ mB ⟨↑m, K0, I0, R0⟩ l i p b ∧ R2.length ≤ R1.length + 2 * b) (fun (b, R2) => m - b) (0, R1) (by first | exact ⟨Nat.zero_le _, by simp [mB], by omega⟩) ?_; rintro ⟨b, R2⟩ d fr hfr ⟨hb, hR2, hR2l⟩; simp only [updS, deadS, List.set_cons_succ, List.set_cons_zero, lint] at hfr; subst hfr; (try dsimp only))
          by_cases hlb : b < m
          · skip
            have hA := pf_r31At (n := l.length) (m := m) (a := i) (b := p) hok (by omega) (by omega) (by omega) (by omega)
            have hAt := hA
            have hSt := pf_r31State (n := l.length) (m := m) (a := p) (b := b) hok (by omega) (by omega) (by omega) (by omega)
            have hSs := pf_r31State (n := l.length) (m := m) (a := (p + 1 : Nat)) (b := b) hok (by omega) (by omega) (by omega) (by omega)
            have hst := hvl 3 p b
            have hst2 := hvl 3 (p + 1 : Nat) b
            have hst3 := hvl 3 (p + 1 : Nat) (mvE ⟨↑m, K0, I0, R0⟩ (oAt l i) b)
            have hMay := pf_rMay ⟨↑m, K0, I0, R0⟩ (oAt l i) b hr
            unfold mayA at hMay
            rcases mvE_in hob (oAt l i) b with ⟨hm, h0, hS, hE⟩ | ⟨hm, hE, hT⟩
            · have hSn := pf_r31State (n := l.length) (m := m) (a := (p + 1 : Nat)) (b := mvE ⟨↑m, K0, I0, R0⟩ (oAt l i) b) hok (by omega) (by omega) h0 hS
              rw [hm, ← hE] at hMay
              generalize hnx : mvE ⟨↑m, K0, I0, R0⟩ (oAt l i) b = nx at *
              (refine Wk.o ?_; (repeat revert hK K); refine W4ad2b ?_; (repeat intro K hK); refine ⟨?_⟩)
              obtain ⟨R3, hR3⟩ : ∃ R3, R3 = R2 ++ mA ⟨↑m, K0, I0, R0⟩ l i p b := ⟨_, rfl⟩
              have hA : mA ⟨↑m, K0, I0, R0⟩ l i p b = [[-(nVar l.length m 1 i p), -(nVar l.length m 2 i 0), -(nVar l.length m 3 p b), nVar l.length m 3 (p + 1 : Nat) nx], [-(nVar l.length m 1 i p), nVar l.length m 2 i 0, -(nVar l.length m 3 p b), nVar l.length m 3 (p + 1 : Nat) b]] := by
                unfold mA; rw [hnx, if_pos h0, if_pos he]; rfl
              have hlen : R3.length = R2.length + 1 + 1 := by rw [hR3, hA, List.length_append]; rfl
              refine xs_set (P := WhX _ _ _ _ _ _ _ _ _) 5 57 _ (R3.map rowA) rfl ?_ ?_
              · rw [List.take_of_length_le (by simp), hR3, hA, List.map_append, List.append_assoc]; rfl
              simp only [List.set_cons_succ, List.set_cons_zero]
              exact whx_ren [0, 5] (b + 1, R3) ⟨by omega, by rw [hR3, hR2, mB_succ, List.append_assoc], by show R3.length ≤ _; omega⟩ (by (first | omega | (dsimp only; omega) | (simp only; omega))) rfl (by decide) (by decide) (by (simp (disch := omega) only [go_sem, lint, rows_rn, rows_id, rows_one])) (by (simp (disch := omega) only [go_sem, lint, rows_rn, rows_id, rows_one])) (by (simp (disch := omega) only [go_sem, lint, rows_rn, rows_id, rows_one])) (fun d => by simp (disch := omega) only [go_sem, lint, rows_rn, rows_id, rows_one, hlen])
            · rw [hm, hT] at hMay
              generalize hnx : mvE ⟨↑m, K0, I0, R0⟩ (oAt l i) b = nx at *
              (refine Wk.o ?_; (repeat revert hK K); refine W4ad2b ?_; (repeat intro K hK); refine ⟨?_⟩)
              obtain ⟨R3, hR3⟩ : ∃ R3, R3 = R2 ++ mA ⟨↑m, K0, I0, R0⟩ l i p b := ⟨_, rfl⟩
              have hA : mA ⟨↑m, K0, I0, R0⟩ l i p b = [[-(nVar l.length m 1 i p), -(nVar l.length m 2 i 0), -(nVar l.length m 3 p b)], [-(nVar l.length m 1 i p), nVar l.length m 2 i 0, -(nVar l.length m 3 p b), nVar l.length m 3 (p + 1 : Nat) b]] := by
                unfold mA; rw [hnx, if_neg (by omega), if_pos he]; rfl
              have hlen : R3.length = R2.length + 1 + 1 := by rw [hR3, hA, List.length_append]; rfl
              refine xs_set (P := WhX _ _ _ _ _ _ _ _ _) 5 57 _ (R3.map rowA) rfl ?_ ?_
              · rw [List.take_of_length_le (by simp), hR3, hA, List.map_append, List.append_assoc]; rfl
              simp only [List.set_cons_succ, List.set_cons_zero]
              exact whx_ren [0, 5] (b + 1, R3) ⟨by omega, by rw [hR3, hR2, mB_succ, List.append_assoc], by show R3.length ≤ _; omega⟩ (by (first | omega | (dsimp only; omega) | (simp only; omega))) rfl (by decide) (by decide) (by (simp (disch := omega) only [go_sem, lint, rows_rn, rows_id, rows_one])) (by (simp (disch := omega) only [go_sem, lint, rows_rn, rows_id, rows_one])) (by (simp (disch := omega) only [go_sem, lint, rows_rn, rows_id, rows_one])) (fun d => by simp (disch := omega) only [go_sem, lint, rows_rn, rows_id, rows_one, hlen])
          · obtain rfl : b = m := by omega
            (refine Wk.o ?_; (repeat revert hK K); refine W4ad2a ?_; (repeat intro K hK); refine ⟨?_⟩)
            exact whx_ren [0, 1] (p + 1, R2) ⟨by omega, by rw [hR2, hR1, mP_succ, List.append_assoc]; rfl, by show R2.length ≤ _; omega⟩ (by (first | omega | (dsimp only; omega) | (simp only; omega))) rfl (by decide) (by decide) (by (simp (disch := omega) only [go_sem, lint, rows_rn, rows_id, rows_one])) (by (simp (disch := omega) only [go_sem, lint, rows_rn, rows_id, rows_one])) (by (simp (disch := omega) only [go_sem, lint, rows_rn, rows_id, rows_one])) (fun d => by (simp (disch := omega) only [go_sem, lint, rows_rn, rows_id, rows_one]))
        · obtain rfl : p = l.length := by omega
          (refine Wk.o ?_; (repeat revert hK K); refine W4ad2a ?_; (repeat intro K hK); refine ⟨?_⟩)
          have hI : mI ⟨↑m, K0, I0, R0⟩ l i = mP ⟨↑m, K0, I0, R0⟩ l i l.length := by unfold mI; rw [if_pos he]; rfl
          exact whx_ren [0, 1] (i + 1, R1) ⟨by omega, by rw [hR1, hR, mCl_succ, hI], by show R1.length ≤ _; omega⟩ (by (first | omega | (dsimp only; omega) | (simp only; omega))) rfl (by decide) (by decide) (by (simp (disch := omega) only [go_sem, lint, rows_rn, rows_id, rows_one])) (by (simp (disch := omega) only [go_sem, lint, rows_rn, rows_id, rows_one])) (by (simp (disch := omega) only [go_sem, lint, rows_rn, rows_id, rows_one])) (fun d => by (simp (disch := omega) only [go_sem, lint, rows_rn, rows_id, rows_one]))
      · (refine Wk.o ?_; (repeat revert hK K); refine W4ad2b ?_; (repeat intro K hK); refine ⟨?_⟩)
        obtain ⟨Ra, hRa⟩ : ∃ Ra, Ra = R ++ [[nVar l.length m 2 i 0]] := ⟨_, rfl⟩
        have hla : Ra.length = R.length + 1 := by rw [hRa, List.length_append]; rfl
        refine xs_set (P := AX _ _ _ _) 2 57 _ [rowA [nVar l.length m 2 i 0]] rfl rfl ?_
        refine xs_set (P := AX _ _ _ _) 3 57 _ (Ra.map rowA) rfl (by rw [hRa, List.map_append]; rfl) ?_
        simp only [List.set_cons_succ, List.set_cons_zero, ← hla]
        refine AX_ren [0, 3] [42, 44, 45, 46] ?fr2 [some ⟨24, [lt (.int .i64 m), lt (.int .i64 K0), lt (.int .i64 I0), .iv (iRws R0)]⟩, some ⟨57, Ra.map rowA⟩] (by decide) (by decide) (by (simp (disch := omega) only [go_sem, lint, rows_rn, rows_id, rows_one])) (by (simp (disch := omega) only [go_sem, lint, rows_rn, rows_id, rows_one])) (by (simp (disch := omega) only [go_sem, lint, rows_rn, rows_id, rows_one])) ?hfr (fun d2 => ?_)
        case hfr =>
          (simp (disch := omega) only [go_sem, lint, rows_rn, rows_id, rows_one])
          rfl
        simp only [deadS, List.set_cons_succ, List.set_cons_zero]
        (refine AWH (σ := Nat × List (List Int)) [47, 48, 49, 11, 52, 53, 54, 57, 58, 59, 60, 61, 62, 63, 64, 65, 66, 12, 13, 68, 69, 70, 71, 72, 73, 74, 67, 75, 76, 14, 15, 77, 78, 79, 80, 81, 82, 83, 84, 85, 86, 87, 88, 89, 90, 91, 92, 93, 94, 95, 96, 97, 98, 99, 100, 101, 102, 103, 104, 105, 106, 107, 108, 109, 110, 111, 112, 113, 114, 115, 116, 117, 118, 119, 120, 121, 122, 123, 124, 55, 56, 50, 51] (fun (p, R1) => [(10, lint p), (5, .osl 1 0 R1.length 1)]) (fun (p, R1) => [some ⟨24, [lt (.int .i64 m), lt (.int .i64 K0), lt (.int .i64 I0), .iv (iRws R0)]⟩, some ⟨57, R1.map rowA⟩]) (fun (p, R1) => []) (fun (p, R1) => p ≤ l.length ∧ R1 = Ra ++ mP ⟨↑m, K0, I0, R0⟩ l i p ∧ R1.length ≤ Ra.length + 64 * p) (fun (p, R1) => l.length - p) (0, Ra) (by first | exact ⟨Nat.zero_le _, by simp [mP], by omega⟩) ?_; rintro ⟨p, R1⟩ d fr hfr ⟨hp, hR1, hR1l⟩; simp only [updS, deadS, List.set_cons_succ, List.set_cons_zero, lint] at hfr; subst hfr; (try dsimp only))
        by_cases hlp : p < l.length
        · have hpl := hvl 1 i p
          (refine Wk.o ?_; (repeat revert hK K); refine W4ad2a ?_; (repeat intro K hK); refine ⟨?_⟩)
          (refine AWH (σ := Nat × List (List Int)) [52, 53, 54, 57, 58, 59, 60, 61, 62, 63, 64, 65, 66, 12, 13, 68, 69, 70, 71, 72, 73, 74, 67, 75, 76, 14, 15, 77, 78, 79, 80, 81, 82, 83, 84, 85, 86, 87, 88, 89, 90, 91, 92, 93, 94, 95, 96, 97, 98, 99, 100, 101, 102, 103, 104, 105, 106, 107, 108, 109, 110, 111, 112, 113, 114, 115, 116, 117, 118, 119, 120, 121, 122, 123, 124, 55, 56] (fun (b, R2) => [(11, lint b), (5, .osl 1 0 R2.length 1)]) (fun (b, R2) => [some ⟨24, [lt (.int .i64 m), lt (.int .i64 K0), lt (.int .i64 I0), .iv (iRws R0)]⟩, some ⟨57, R2.map rowA⟩]) (fun (b, R2) => []) (fun (b, R2) => b ≤ m ∧ R2 = R1 ++ mB ⟨↑m, K0, I0, R0⟩ l i p b ∧ R2.length ≤ R1.length + 2 * b) (fun (b, R2) => m - b) (0, R1) (by first | exact ⟨Nat.zero_le _, by simp [mB], by omega⟩) ?_; rintro ⟨b, R2⟩ d fr hfr ⟨hb, hR2, hR2l⟩; simp only [updS, deadS, List.set_cons_succ, List.set_cons_zero, lint] at hfr; subst hfr; (try dsimp only))
          by_cases hlb : b < m
          · skip
            have hA := pf_r31At (n := l.length) (m := m) (a := i) (b := p) hok (by omega) (by omega) (by omega) (by omega)
            have hAt := hA
            have hSt := pf_r31State (n := l.length) (m := m) (a := p) (b := b) hok (by omega) (by omega) (by omega) (by omega)
            have hSs := pf_r31State (n := l.length) (m := m) (a := (p + 1 : Nat)) (b := b) hok (by omega) (by omega) (by omega) (by omega)
            have hst := hvl 3 p b
            have hst2 := hvl 3 (p + 1 : Nat) b
            have hst3 := hvl 3 (p + 1 : Nat) (mvE ⟨↑m, K0, I0, R0⟩ (oAt l i) b)
            have hMay := pf_rMay ⟨↑m, K0, I0, R0⟩ (oAt l i) b hr
            unfold mayA at hMay
            rcases mvE_in hob (oAt l i) b with ⟨hm, h0, hS, hE⟩ | ⟨hm, hE, hT⟩
            · have hSn := pf_r31State (n := l.length) (m := m) (a := (p + 1 : Nat)) (b := mvE ⟨↑m, K0, I0, R0⟩ (oAt l i) b) hok (by omega) (by omega) h0 hS
              rw [hm, ← hE] at hMay
              generalize hnx : mvE ⟨↑m, K0, I0, R0⟩ (oAt l i) b = nx at *
              (refine Wk.o ?_; (repeat revert hK K); refine W4ad2b ?_; (repeat intro K hK); refine ⟨?_⟩)
              obtain ⟨R3, hR3⟩ : ∃ R3, R3 = R2 ++ mA ⟨↑m, K0, I0, R0⟩ l i p b := ⟨_, rfl⟩
              have hA : mA ⟨↑m, K0, I0, R0⟩ l i p b = [[-(nVar l.length m 1 i p), -(nVar l.length m 2 i 0), -(nVar l.length m 3 p b), nVar l.length m 3 (p + 1 : Nat) nx]] := by
                unfold mA; rw [hnx, if_pos h0, if_neg he]; rfl
              have hlen : R3.length = R2.length + 1 := by rw [hR3, hA, List.length_append]; rfl
              refine xs_set (P := WhX _ _ _ _ _ _ _ _ _) 3 57 _ (R3.map rowA) rfl ?_ ?_
              · rw [hR3, hA, List.map_append]; rfl
              simp only [List.set_cons_succ, List.set_cons_zero]
              exact whx_ren [0, 3] (b + 1, R3) ⟨by omega, by rw [hR3, hR2, mB_succ, List.append_assoc], by show R3.length ≤ _; omega⟩ (by (first | omega | (dsimp only; omega) | (simp only; omega))) rfl (by decide) (by decide) (by (simp (disch := omega) only [go_sem, lint, rows_rn, rows_id, rows_one])) (by (simp (disch := omega) only [go_sem, lint, rows_rn, rows_id, rows_one])) (by (simp (disch := omega) only [go_sem, lint, rows_rn, rows_id, rows_one])) (fun d => by simp (disch := omega) only [go_sem, lint, rows_rn, rows_id, rows_one, hlen])
            · rw [hm, hT] at hMay
              generalize hnx : mvE ⟨↑m, K0, I0, R0⟩ (oAt l i) b = nx at *
              (refine Wk.o ?_; (repeat revert hK K); refine W4ad2b ?_; (repeat intro K hK); refine ⟨?_⟩)
              obtain ⟨R3, hR3⟩ : ∃ R3, R3 = R2 ++ mA ⟨↑m, K0, I0, R0⟩ l i p b := ⟨_, rfl⟩
              have hA : mA ⟨↑m, K0, I0, R0⟩ l i p b = [[-(nVar l.length m 1 i p), -(nVar l.length m 2 i 0), -(nVar l.length m 3 p b)]] := by
                unfold mA; rw [hnx, if_neg (by omega), if_neg he]; rfl
              have hlen : R3.length = R2.length + 1 := by rw [hR3, hA, List.length_append]; rfl
              refine xs_set (P := WhX _ _ _ _ _ _ _ _ _) 3 57 _ (R3.map rowA) rfl ?_ ?_
              · rw [hR3, hA, List.map_append]; rfl
              simp only [List.set_cons_succ, List.set_cons_zero]
              exact whx_ren [0, 3] (b + 1, R3) ⟨by omega, by rw [hR3, hR2, mB_succ, List.append_assoc], by show R3.length ≤ _; omega⟩ (by (first | omega | (dsimp only; omega) | (simp only; omega))) rfl (by decide) (by decide) (by (simp (disch := omega) only [go_sem, lint, rows_rn, rows_id, rows_one])) (by (simp (disch := omega) only [go_sem, lint, rows_rn, rows_id, rows_one])) (by (simp (disch := omega) only [go_sem, lint, rows_rn, rows_id, rows_one])) (fun d => by simp (disch := omega) only [go_sem, lint, rows_rn, rows_id, rows_one, hlen])
          · obtain rfl : b = m := by omega
            (refine Wk.o ?_; (repeat revert hK K); refine W4ad2a ?_; (repeat intro K hK); refine ⟨?_⟩)
            exact whx_ren [0, 1] (p + 1, R2) ⟨by omega, by rw [hR2, hR1, mP_succ, List.append_assoc]; rfl, by show R2.length ≤ _; omega⟩ (by (first | omega | (dsimp only; omega) | (simp only; omega))) rfl (by decide) (by decide) (by (simp (disch := omega) only [go_sem, lint, rows_rn, rows_id, rows_one])) (by (simp (disch := omega) only [go_sem, lint, rows_rn, rows_id, rows_one])) (by (simp (disch := omega) only [go_sem, lint, rows_rn, rows_id, rows_one])) (fun d => by (simp (disch := omega) only [go_sem, lint, rows_rn, rows_id, rows_one]))
        · obtain rfl : p = l.length := by omega
          (refine Wk.o ?_; (repeat revert hK K); refine W4ad2a ?_; (repeat intro K hK); refine ⟨?_⟩)
          have hI : mI ⟨↑m, K0, I0, R0⟩ l i = [[nVar l.length m 2 i 0]] ++ mP ⟨↑m, K0, I0, R0⟩ l i l.length := by unfold mI; rw [if_neg he]
          exact whx_ren [0, 1] (i + 1, R1) ⟨by omega, by rw [hR1, hRa, hR, mCl_succ, hI, List.append_assoc], by show R1.length ≤ _; omega⟩ (by (first | omega | (dsimp only; omega) | (simp only; omega))) rfl (by decide) (by decide) (by (simp (disch := omega) only [go_sem, lint, rows_rn, rows_id, rows_one])) (by (simp (disch := omega) only [go_sem, lint, rows_rn, rows_id, rows_one])) (by (simp (disch := omega) only [go_sem, lint, rows_rn, rows_id, rows_one])) (fun d => by (simp (disch := omega) only [go_sem, lint, rows_rn, rows_id, rows_one]))
    · obtain rfl : i = l.length := by omega
      (refine Wk.o ?_; (repeat revert hK K); refine W4ad2a ?_; (repeat intro K hK); refine ⟨?_⟩)
      (simp only [bodyX]; refine ⟨_, by simp only [aresults, aresult, XS.as, Tryz.results36, aload, go_sem, Option.bind_some]; rfl, ?_⟩)
      rw [← hR]
      exact ⟨_, snap_rws rfl rfl, rfl, trivial⟩
  · rw [nCheck_no hok] at hCk
    have hres : mRes o l = [] := by unfold mRes; rw [if_neg hok]
    rw [hres]
    (refine SF_of_bodyX (aload tt) (aload_ok tyOK) Tryz.func36 rfl (by kernel_rfl) ?_; simp only [Tryz.ntmps36, List.length_cons, List.length_nil, Nat.reduceAdd, Nat.reduceSub, List.replicate_succ, List.replicate_zero, List.cons_append, List.nil_append])
    unfold iOps iFlat
    (refine Wk.o ?_; (repeat revert hK K); refine W4ad2a ?_; (repeat intro K hK); refine ⟨?_⟩)
    (simp only [bodyX]; refine ⟨_, by simp only [aresults, aresult, XS.as, Tryz.results36, aload, go_sem, Option.bind_some]; rfl, ?_⟩)
    exact ⟨_, .iv _ _ (.nil _ _), rfl, trivial⟩
end Go.Proofs.YtcjnikkmjhagmaaGreatDoor
