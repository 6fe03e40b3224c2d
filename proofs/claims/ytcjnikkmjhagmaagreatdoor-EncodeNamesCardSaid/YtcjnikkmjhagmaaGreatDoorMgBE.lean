import Derived.Test.YtcjnikkmjhagmaaGreatDoorMgBC
import Derived.Test.YtcjnikkmjhagmaaGreatDoorMgBD
namespace Go.Proofs.YtcjnikkmjhagmaaGreatDoor
open Go.RowKit
set_option linter.unusedVariables false
set_option linter.unusedSimpArgs false
def msRow (xs : List Int) (i j : Nat) : List (List Int) := (List.range j).map fun t => [-(xs.getD i 0), -(xs.getD (i + 1 + t) 0)]
def msUp (xs : List Int) (k : Nat) : List (List Int) := (List.range k).flatMap fun i => msRow xs i (xs.length - (i + 1))
def msAll (xs : List Int) : List (List Int) := msUp xs xs.length
theorem msRow_succ (xs : List Int) (i j : Nat) : msRow xs i (j + 1) = msRow xs i j ++ [[-(xs.getD i 0), -(xs.getD (i + 1 + j) 0)]] := by unfold msRow; rw [List.range_succ, List.map_append]; rfl
theorem msUp_succ (xs : List Int) (k : Nat) : msUp xs (k + 1) = msUp xs k ++ msRow xs k (xs.length - (k + 1)) := by unfold msUp; rw [List.range_succ, List.flatMap_append]; simp
theorem msRow_len (xs : List Int) (i j : Nat) : (msRow xs i j).length = j := by unfold msRow; simp
theorem msUp_len (xs : List Int) : ∀ k, (msUp xs k).length ≤ k * xs.length
  | 0 => by simp [msUp]
  | k + 1 => by
    have := msUp_len xs k
    rw [msUp_succ, List.length_append, msRow_len, Nat.succ_mul]; omega
theorem Wa786a {A B : Prop} (h9 : B) (w : B → A := by (intro h9; (repeat intro K hK); refine ⟨?_⟩; (repeat (first | (first | (with_reducible first | refine AX_block ?_ | refine AX_skip ?_ | refine AX_exit ?_ | refine AX_ret ?_ | refine AX_ift ?_ | refine AX_iff ?_ | refine AX_seq_k (fun K hK => ?_) | refine ContX.use (by assumption) ?_) | simp only [thenX, inBlockX, if_true, if_false, reduceCtorEq]) | (first | ((with_reducible refine XOP tyOK ?_); simp (disch := omega) only [go_sem , iInts, iFlat, hs1, hs2, hs3, rows_one, rows_take, List.length_nil]; (with_reducible refine XRes_id ?_)) | (with_reducible refine XSK ?_)) | ((with_reducible refine XRes_nil ?_); refine hK _ ?_; clear hK K) | ((with_reducible refine AX_reg0 fun K hK => ?_); simp only [go_sem]) | fail)); refine Wk.o ?_; (repeat revert hK K); exact h9)) : A := w h9
set_option maxRecDepth 100000 in
set_option maxHeartbeats 4000000 in
theorem pf_most (xs : List Int) (hn : xs.length ≤ 100) (hb : ∀ k, 0 ≤ xs.getD k 0 ∧ xs.getD k 0 ≤ 100000) : PF Tryz.prog 70 [.iv (iInts xs)] fun r H' => r = .iv (iRows (msAll xs)) ∧ H' = [] := by
  refine SF.frozen ?_
  have hs1 := trivial; have hs2 := trivial; have hs3 := trivial
  (refine SF_of_bodyX (aload tt) (aload_ok tyOK) Tryz.func70 rfl (by kernel_rfl) ?_; simp only [Tryz.ntmps70, List.length_cons, List.length_nil, Nat.reduceAdd, Nat.reduceSub, List.replicate_succ, List.replicate_zero, List.cons_append, List.nil_append])
  unfold iInts
  (refine Wk.o ?_; (repeat revert hK K); refine Wa786a ?_; (repeat intro K hK); refine ⟨?_⟩)
  refine AX_nil 3 57 1 rfl ?_
  (refine AWH (σ := Nat × List (List Int)) [11, 12, 13, 14, 4, 5, 15, 16, 17, 18, 19, 20, 21, 22, 23, 7, 24, 25, 26, 27, 28, 29, 30, 31, 32, 33] (fun (i, R) => [(10, lint i), (3, .osl 0 0 R.length 1)]) (fun (i, R) => [some ⟨57, R.map rowA⟩]) (fun (i, R) => []) (fun (i, R) => i ≤ xs.length ∧ R = msUp xs i) (fun (i, R) => xs.length - i) (0, []) (by first | exact ⟨Nat.zero_le _, rfl⟩) ?_; rintro ⟨i, R⟩ d fr hfr ⟨hi, hR⟩; simp only [updS, deadS, List.set_cons_succ, List.set_cons_zero, lint] at hfr; subst hfr; (try dsimp only))
  have hRl : R.length ≤ i * xs.length := by rw [hR]; exact msUp_len xs i
  have hRl2 : i * xs.length ≤ 100 * 100 := Nat.mul_le_mul (by omega) hn
  by_cases hlt : i < xs.length
  · have hbi := hb i
    (refine Wk.o ?_; (repeat revert hK K); refine Wa786a ?_; (repeat intro K hK); refine ⟨?_⟩)
    (refine AWH (σ := Nat × List (List Int)) [21, 22, 23, 7, 24, 25, 26, 27, 28, 29, 30, 31, 32] (fun (j, R2) => [(20, lint j), (3, .osl 0 0 R2.length 1)]) (fun (j, R2) => [some ⟨57, R2.map rowA⟩]) (fun (j, R2) => []) (fun (j, R2) => j ≤ xs.length - (i + 1) ∧ R2 = R ++ msRow xs i j) (fun (j, R2) => xs.length - (i + 1) - j) (0, R) (by first | exact ⟨Nat.zero_le _, by simp [msRow]⟩) ?_; rintro ⟨j, R2⟩ d fr hfr ⟨hj, hR2⟩; simp only [updS, deadS, List.set_cons_succ, List.set_cons_zero, lint] at hfr; subst hfr; (try dsimp only))
    have hR2l : R2.length = R.length + j := by rw [hR2, List.length_append, msRow_len]
    by_cases hlj : j < xs.length - (i + 1)
    · have hbj := hb (i + 1 + j)
      (repeat (first | (first | (with_reducible first | refine AX_block ?_ | refine AX_skip ?_ | refine AX_exit ?_ | refine AX_ret ?_ | refine AX_ift ?_ | refine AX_iff ?_ | refine AX_seq_k (fun K hK => ?_) | refine ContX.use (by assumption) ?_) | simp only [thenX, inBlockX, if_true, if_false, reduceCtorEq]) | ((refine XRes_litF tyOK (by rfl) rfl (by decide) rfl rfl ?_); (try simp (disch := omega) only [go_sem, asets, acells]); (simp only [List.map_cons, List.map_nil, intOf, putL, List.set_cons_succ, List.set_cons_zero])) | (first | ((with_reducible refine XOP tyOK ?_); simp (disch := omega) only [go_sem , iInts, iFlat, hs1, hs2, hs3, rows_one, rows_take, List.length_nil]; (with_reducible refine XRes_id ?_)) | (with_reducible refine XSK ?_)) | ((with_reducible refine XRes_nil ?_); refine hK _ ?_; clear hK K) | ((with_reducible refine AX_reg0 fun K hK => ?_); simp only [go_sem])))
      obtain ⟨R3, hR3⟩ : ∃ R3, R3 = R2 ++ [[-(xs.getD i 0), -(xs.getD (i + 1 + j) 0)]] := ⟨_, rfl⟩
      have hlen : R3.length = R2.length + 1 := by rw [hR3, List.length_append]; rfl
      refine xs_set (P := WhX _ _ _ _ _ _ _ _ _) 2 57 _ (R3.map rowA) rfl ?_ ?_
      · rw [hR3, List.map_append]; rfl
      simp only [List.set_cons_succ, List.set_cons_zero]
      exact whx_ren [2] (j + 1, R3) ⟨by omega, by rw [hR3, hR2, msRow_succ, List.append_assoc]⟩ (by (first | omega | (dsimp only; omega) | (simp only; omega))) rfl (by decide) (by decide) (by (simp (disch := omega) only [go_sem, lint, rows_rn, rows_id, rows_one])) (by (simp (disch := omega) only [go_sem, lint, rows_rn, rows_id, rows_one])) (by (simp (disch := omega) only [go_sem, lint, rows_rn, rows_id, rows_one])) (fun d => by simp (disch := omega) only [go_sem, lint, rows_rn, rows_id, rows_one, hlen])
    · obtain rfl : j = xs.length - (i + 1) := by omega
      (refine Wk.o ?_; (repeat revert hK K); refine Wa786a ?_; (repeat intro K hK); refine ⟨?_⟩)
      exact whx_ren [0] (i + 1, R2) ⟨by omega, by rw [hR2, hR, msUp_succ]⟩ (by (first | omega | (dsimp only; omega) | (simp only; omega))) rfl (by decide) (by decide) (by (simp (disch := omega) only [go_sem, lint, rows_rn, rows_id, rows_one])) (by (simp (disch := omega) only [go_sem, lint, rows_rn, rows_id, rows_one])) (by (simp (disch := omega) only [go_sem, lint, rows_rn, rows_id, rows_one])) (fun d => by (simp (disch := omega) only [go_sem, lint, rows_rn, rows_id, rows_one]))
  · obtain rfl : i = xs.length := by omega
    (refine Wk.o ?_; (repeat revert hK K); refine Wa786a ?_; (repeat intro K hK); refine ⟨?_⟩)
    (simp only [bodyX]; refine ⟨_, by simp only [aresults, aresult, XS.as, Tryz.results70, aload, go_sem, Option.bind_some]; rfl, ?_⟩)
    exact ⟨_, snap_rws rfl rfl, by rw [hR]; rfl, trivial⟩
end Go.Proofs.YtcjnikkmjhagmaaGreatDoor
namespace Go.Proofs.YtcjnikkmjhagmaaGreatDoor
open Go.RowKit
set_option linter.unusedVariables false
set_option linter.unusedSimpArgs false
def plU1 (n m : Int) (N : Nat) (k : Nat) : List (List Int) := (List.range k).flatMap fun i : Nat => rowV n m i N :: msAll (rowV n m i N)
def plU2 (n m : Int) (N : Nat) (k : Nat) : List (List Int) := (List.range k).flatMap fun i : Nat => msAll (colV n m i N)
def plCl (n m : Int) : List (List Int) := if nOk n m then plU1 n m n.toNat n.toNat ++ plU2 n m n.toNat n.toNat else []
theorem plU1_succ (n m : Int) (N k : Nat) : plU1 n m N (k + 1) = plU1 n m N k ++ [rowV n m k N] ++ msAll (rowV n m k N) := by unfold plU1; rw [List.range_succ, List.flatMap_append]; simp
theorem plU2_succ (n m : Int) (N k : Nat) : plU2 n m N (k + 1) = plU2 n m N k ++ msAll (colV n m k N) := by unfold plU2; rw [List.range_succ, List.flatMap_append]; simp
theorem rowV_len (n m : Int) (q : Int) (k : Nat) : (rowV n m q k).length = k := by unfold rowV; simp
theorem colV_len' (n m : Int) (q : Int) (k : Nat) : (colV n m q k).length = k := by unfold colV; simp
theorem gV_lim {f : Nat → Int} (h : ∀ i, 0 ≤ f i ∧ f i ≤ 100000) (k j : Nat) : 0 ≤ ((List.range k).map f).getD j 0 ∧ ((List.range k).map f).getD j 0 ≤ 100000 := by
  rcases Nat.lt_or_ge j k with hj | hj
  · rw [List.getD_eq_getElem?_getD, List.getElem?_map, List.getElem?_range hj]; exact h j
  · rw [List.getD_eq_getElem?_getD, List.getElem?_map, List.getElem?_eq_none (by simpa using hj)]; exact (show 0 ≤ (0 : Int) ∧ (0 : Int) ≤ 100000 by decide)
theorem rowV_lim (n m : Int) (q : Int) (k j : Nat) : 0 ≤ (rowV n m q k).getD j 0 ∧ (rowV n m q k).getD j 0 ≤ 100000 := gV_lim (fun i => nVar_lim n m 1 q i) k j
theorem colV_lim (n m : Int) (q : Int) (k j : Nat) : 0 ≤ (colV n m q k).getD j 0 ∧ (colV n m q k).getD j 0 ≤ 100000 := gV_lim (fun i => nVar_lim n m 1 i q) k j
theorem msAll_len (xs : List Int) : (msAll xs).length ≤ xs.length * xs.length := msUp_len xs xs.length
theorem range_rowsU (M : List (List Int)) : List.map (fun j => AV.iv (IV.sl (fun j_1 => IV.lit (Value.int IntKind.i64 ((M.getD j []).getD j_1 0))) (M.getD j []).length 1)) (List.range M.length) = M.map rowA := by
  apply List.ext_getElem
  · simp
  · intro i h1 h2
    simp only [List.getElem_map, List.getElem_range]
    have hi : i < M.length := by simpa using h1
    rw [List.getD_eq_getElem?_getD, List.getElem?_eq_getElem hi]; rfl
theorem Wd82da {A B : Prop} (h9 : B) (w : B → A := by (intro h9; (repeat intro K hK); refine ⟨?_⟩; (repeat (first | (first | (with_reducible first | refine AX_block ?_ | refine AX_skip ?_ | refine AX_exit ?_ | refine AX_ret ?_ | refine AX_ift ?_ | refine AX_iff ?_ | refine AX_seq_k (fun K hK => ?_) | refine ContX.use (by assumption) ?_) | simp only [thenX, inBlockX, if_true, if_false, reduceCtorEq]) | (first | ((with_reducible refine XOP tyOK ?_); simp (disch := omega) only [go_sem , range_rowsU, iInts, iRows, iFlat, hs1, hs2, hs3, rows_one, rows_take, List.length_nil]; (with_reducible refine XRes_id ?_)) | (with_reducible refine XSK ?_)) | ((with_reducible refine XRes_nil ?_); refine hK _ ?_; clear hK K) | ((with_reducible refine AX_reg0 fun K hK => ?_); simp only [go_sem]) | (first | (first | refine XTL (by rfl) hCk ?_ | refine XTL (by rfl) hO ?_ | refine XTL (by rfl) hMo ?_)))); refine Wk.o ?_; (repeat revert hK K); exact h9)) : A := w h9
set_option maxRecDepth 100000 in
set_option maxHeartbeats 4000000 in
theorem pf_plClauses (n m : Int) : PF Tryz.prog 25 [szA n m] fun r H' => r = .iv (iRows (plCl n m)) ∧ H' = [] := by
  refine SF.frozen ?_
  have hs1 := trivial; have hs2 := trivial; have hs3 := trivial
  have hO := trivial; have hMo := trivial
  have hCk := pf_nCheck n m
  by_cases hok : nOk n m
  · rw [nCheck_yes hok] at hCk
    rw [show plCl n m = plU1 n m n.toNat n.toNat ++ plU2 n m n.toNat n.toNat by unfold plCl; rw [if_pos hok]]
    obtain ⟨n, rfl⟩ : ∃ N : Nat, n = N := ⟨n.toNat, by unfold nOk at hok; omega⟩
    have hn : n ≤ 64 := by unfold nOk at hok; omega
    rw [Int.toNat_natCast]
    (refine SF_of_bodyX (aload tt) (aload_ok tyOK) Tryz.func25 rfl (by kernel_rfl) ?_; simp only [Tryz.ntmps25, List.length_cons, List.length_nil, Nat.reduceAdd, Nat.reduceSub, List.replicate_succ, List.replicate_zero, List.cons_append, List.nil_append])
    (refine Wk.o ?_; (repeat revert hK K); refine Wd82da ?_; (repeat intro K hK); refine ⟨?_⟩)
    refine AX_nil 3 57 1 rfl ?_
    (refine AWH (σ := Nat × List (List Int)) [13, 14, 4, 15, 16, 17, 5, 18, 19, 20, 21, 22, 23, 24, 25, 26] (fun (i, R) => [(12, lint i), (3, .osl 1 0 R.length 1)]) (fun (i, R) => [some ⟨51, [lt (.int .i64 n), lt (.int .i64 m)]⟩, some ⟨57, R.map rowA⟩]) (fun (i, R) => []) (fun (i, R) => i ≤ n ∧ R = plU1 n m n i ∧ R.length ≤ 5000 * i) (fun (i, R) => n - i) (0, []) (by first | exact ⟨Nat.zero_le _, rfl, Nat.le_refl _⟩) ?_; rintro ⟨i, R⟩ d fr hfr ⟨hi, hR, hRl⟩; simp only [updS, deadS, List.set_cons_succ, List.set_cons_zero, lint] at hfr; subst hfr; (try dsimp only))
    by_cases hlt : i < n
    · have hO := pf_ofOper n m i hn
      have hMo := pf_most (rowV n m i n) (by rw [rowV_len]; omega) (rowV_lim n m i n)
      unfold iRows at hMo
      have hml := msAll_len (rowV n m i n)
      rw [rowV_len] at hml
      have hml2 : n * n ≤ 64 * 64 := Nat.mul_le_mul hn hn
      (refine Wk.o ?_; (repeat revert hK K); refine Wd82da ?_; (repeat intro K hK); refine ⟨?_⟩)
      obtain ⟨R3, hR3⟩ : ∃ R3, R3 = R ++ [rowV n m i n] ++ msAll (rowV n m i n) := ⟨_, rfl⟩
      have hlen : R3.length = R.length + 1 + (msAll (rowV n m i n)).length := by rw [hR3, List.length_append, List.length_append]; rfl
      refine xs_set (P := WhX _ _ _ _ _ _ _ _ _) 4 57 _ (R3.map rowA) rfl ?_ ?_
      · rw [List.take_of_length_le (by simp), hR3, List.map_append, List.map_append]; rfl
      simp only [List.set_cons_succ, List.set_cons_zero]
      exact whx_ren [0, 4] (i + 1, R3) ⟨by omega, by rw [hR3, hR, plU1_succ], by show R3.length ≤ _; omega⟩ (by (first | omega | (dsimp only; omega) | (simp only; omega))) rfl (by decide) (by decide) (by (simp (disch := omega) only [go_sem, lint, rows_rn, rows_id, rows_one])) (by (simp (disch := omega) only [go_sem, lint, rows_rn, rows_id, rows_one])) (by (simp (disch := omega) only [go_sem, lint, rows_rn, rows_id, rows_one])) (fun d => by simp (disch := omega) only [go_sem, lint, rows_rn, rows_id, rows_one, hlen])
    obtain rfl : i = n := by omega
    (refine Wk.o ?_; (repeat revert hK K); refine Wd82da ?_; (repeat intro K hK); refine ⟨?_⟩)
    (refine AWH (σ := Nat × List (List Int)) [30, 31, 6, 32, 33, 34, 35, 36, 37, 38] (fun (i2, R2) => [(29, lint i2), (3, .osl 1 0 R2.length 1)]) (fun (i2, R2) => [some ⟨51, [lt (.int .i64 i), lt (.int .i64 m)]⟩, some ⟨57, R2.map rowA⟩]) (fun (i2, R2) => []) (fun (i2, R2) => i2 ≤ i ∧ R2 = R ++ plU2 i m i i2 ∧ R2.length ≤ 320000 + 5000 * i2) (fun (i2, R2) => i - i2) (0, R) (by first | exact ⟨Nat.zero_le _, by simp [plU2], by show R.length ≤ _; omega⟩) ?_; rintro ⟨i2, R2⟩ d fr hfr ⟨hi2, hR2, hR2l⟩; simp only [updS, deadS, List.set_cons_succ, List.set_cons_zero, lint] at hfr; subst hfr; (try dsimp only))
    by_cases hlt2 : i2 < i
    · have hO := pf_ofPlace i m i2 hn
      have hMo := pf_most (colV i m i2 i) (by rw [colV_len']; omega) (colV_lim i m i2 i)
      unfold iRows at hMo
      have hml := msAll_len (colV i m i2 i)
      rw [colV_len'] at hml
      have hml2 : i * i ≤ 64 * 64 := Nat.mul_le_mul hn hn
      (refine Wk.o ?_; (repeat revert hK K); refine Wd82da ?_; (repeat intro K hK); refine ⟨?_⟩)
      obtain ⟨R3, hR3⟩ : ∃ R3, R3 = R2 ++ msAll (colV i m i2 i) := ⟨_, rfl⟩
      have hlen : R3.length = R2.length + (msAll (colV i m i2 i)).length := by rw [hR3, List.length_append]
      refine xs_set (P := WhX _ _ _ _ _ _ _ _ _) 2 57 _ (R3.map rowA) rfl ?_ ?_
      · rw [hR3, List.map_append]
      simp only [List.set_cons_succ, List.set_cons_zero]
      exact whx_ren [0, 2] (i2 + 1, R3) ⟨by omega, by rw [hR3, hR2, plU2_succ, List.append_assoc], by show R3.length ≤ _; omega⟩ (by (first | omega | (dsimp only; omega) | (simp only; omega))) rfl (by decide) (by decide) (by (simp (disch := omega) only [go_sem, lint, rows_rn, rows_id, rows_one])) (by (simp (disch := omega) only [go_sem, lint, rows_rn, rows_id, rows_one])) (by (simp (disch := omega) only [go_sem, lint, rows_rn, rows_id, rows_one])) (fun d => by simp (disch := omega) only [go_sem, lint, rows_rn, rows_id, rows_one, hlen])
    obtain rfl : i2 = i := by omega
    (refine Wk.o ?_; (repeat revert hK K); refine Wd82da ?_; (repeat intro K hK); refine ⟨?_⟩)
    (simp only [bodyX]; refine ⟨_, by simp only [aresults, aresult, XS.as, Tryz.results25, aload, go_sem, Option.bind_some]; rfl, ?_⟩)
    exact ⟨_, snap_rws rfl rfl, by rw [hR2, hR], trivial⟩
  · have hs1 := nCheck_no hok
    rw [nCheck_no hok] at hCk
    rw [show plCl n m = [] by unfold plCl; rw [if_neg hok]]
    (refine SF_of_bodyX (aload tt) (aload_ok tyOK) Tryz.func25 rfl (by kernel_rfl) ?_; simp only [Tryz.ntmps25, List.length_cons, List.length_nil, Nat.reduceAdd, Nat.reduceSub, List.replicate_succ, List.replicate_zero, List.cons_append, List.nil_append])
    (refine Wk.o ?_; (repeat revert hK K); refine Wd82da ?_; (repeat intro K hK); refine ⟨?_⟩)
    (simp only [bodyX]; refine ⟨_, by simp only [aresults, aresult, XS.as, Tryz.results25, aload, go_sem, Option.bind_some]; rfl, ?_⟩)
    exact ⟨_, .iv _ _ (.nil _ _), rfl, trivial⟩
end Go.Proofs.YtcjnikkmjhagmaaGreatDoor
namespace Go.Proofs.YtcjnikkmjhagmaaGreatDoor
open Go.RowKit
set_option linter.unusedVariables false
set_option linter.unusedSimpArgs false
def tmG (n a b : Int) : Prop := (0 ≤ a ∧ a < n) ∧ (0 ≤ b ∧ b < n) ∧ a ≠ b
instance (n a b : Int) : Decidable (tmG n a b) := by unfold tmG; infer_instance
theorem W74c1a {A B : Prop} (h9 : B) (w : B → A := by (intro h9; (repeat intro K hK); refine ⟨?_⟩; (repeat (first | (first | (with_reducible first | refine AX_block ?_ | refine AX_skip ?_ | refine AX_exit ?_ | refine AX_ret ?_ | refine AX_ift ?_ | refine AX_iff ?_ | refine AX_seq_k (fun K hK => ?_) | refine ContX.use (by assumption) ?_) | simp only [thenX, inBlockX, if_true, if_false, reduceCtorEq]) | (first | ((with_reducible refine XOP tyOK ?_); simp (disch := omega) only [go_sem , iInts, iFlat, szG, Int.toNat_zero, Int.toNat_one, hs1, hs2, hs3, rows_one, rows_take, List.length_nil]; (with_reducible refine XRes_id ?_)) | (with_reducible refine XSK ?_)) | ((with_reducible refine XRes_nil ?_); refine hK _ ?_; clear hK K) | ((with_reducible refine AX_reg0 fun K hK => ?_); simp only [go_sem]) | (first | (first | refine XTL (by rfl) hCk ?_ | refine XTL (by rfl) hV ?_ | refine XTL (by rfl) hCo ?_)))); refine Wk.o ?_; (repeat revert hK K); exact h9)) : A := w h9
set_option maxRecDepth 100000 in
set_option maxHeartbeats 1000000 in
theorem pf_tmCounts (n a b : Int) : PF Tryz.prog 73 [lt (.int .i64 n), .agg [lt (.int .i64 a), lt (.int .i64 b)]] fun r H' => r = lt (.bool (decide (tmG n a b))) ∧ H' = [] := by
  refine SF.forgetAll ?_
  have hs1 := trivial; have hs2 := trivial; have hs3 := trivial; have hCk := trivial; have hV := trivial; have hCo := trivial
  (refine SF_of_bodyX (aload tt) (aload_ok tyOK) Tryz.func73 rfl (by kernel_rfl) ?_; simp only [Tryz.ntmps73, List.length_cons, List.length_nil, Nat.reduceAdd, Nat.reduceSub, List.replicate_succ, List.replicate_zero, List.cons_append, List.nil_append])
  (refine Wk.o ?_; (repeat revert hK K); refine W74c1a ?_; (repeat intro K hK); refine ⟨?_⟩)
  (refine AWH (σ := Nat) [9, 10, 6, 11, 12, 13, 14, 15, 16, 17, 4, 18] (fun k => [(8, lint k)]) (fun k => [some ⟨108, [lt (.int .i64 a), lt (.int .i64 b)]⟩]) (fun k => []) (fun k => k ≤ 2 ∧ (0 < k → 0 ≤ a ∧ a < n) ∧ (1 < k → 0 ≤ b ∧ b < n)) (fun k => 2 - k) 0 (by first | exact ⟨by decide, fun h => absurd h (by decide), fun h => absurd h (by decide)⟩) ?_; rintro k d fr hfr ⟨hk, h1, h2⟩; simp only [updS, deadS, List.set_cons_succ, List.set_cons_zero, lint] at hfr; subst hfr; (try dsimp only))
  have hc3 : k = 0 ∨ k = 1 ∨ k = 2 := by omega
  rcases hc3 with rfl | rfl | rfl
  · by_cases ha : 0 ≤ a ∧ a < n
    · obtain ⟨a1, a2⟩ := ha
      (refine Wk.o ?_; (repeat revert hK K); refine W74c1a ?_; (repeat intro K hK); refine ⟨?_⟩)
      exact WEND 1 ⟨by decide, fun _ => ⟨a1, a2⟩, fun h => absurd h (by decide)⟩ (by (first | omega | (dsimp only; omega) | (simp only; omega)))
    · have e : decide (tmG n a b) = false := decide_eq_false fun h => ha h.1
      rw [e]
      have hx : a < 0 ∨ n ≤ a := by omega
      rcases hx with h | h
      · (refine Wk.o ?_; (repeat revert hK K); refine W74c1a ?_; (repeat intro K hK); refine ⟨?_⟩)
        (simp only [bodyX]; refine ⟨_, by simp only [aresults, aresult, XS.as, Tryz.results73, aload, go_sem, Option.bind_some]; rfl, ?_⟩)
        exact ⟨.iv _, rfl, trivial⟩
      · by_cases h3 : a < 0
        · (refine Wk.o ?_; (repeat revert hK K); refine W74c1a ?_; (repeat intro K hK); refine ⟨?_⟩)
          (simp only [bodyX]; refine ⟨_, by simp only [aresults, aresult, XS.as, Tryz.results73, aload, go_sem, Option.bind_some]; rfl, ?_⟩)
          exact ⟨.iv _, rfl, trivial⟩
        · (refine Wk.o ?_; (repeat revert hK K); refine W74c1a ?_; (repeat intro K hK); refine ⟨?_⟩)
          (simp only [bodyX]; refine ⟨_, by simp only [aresults, aresult, XS.as, Tryz.results73, aload, go_sem, Option.bind_some]; rfl, ?_⟩)
          exact ⟨.iv _, rfl, trivial⟩
  · by_cases hb : 0 ≤ b ∧ b < n
    · obtain ⟨b1, b2⟩ := hb
      have h1 := h1 (by decide)
      (refine Wk.o ?_; (repeat revert hK K); refine W74c1a ?_; (repeat intro K hK); refine ⟨?_⟩)
      exact WEND 2 ⟨by decide, fun _ => h1, fun _ => ⟨b1, b2⟩⟩ (by (first | omega | (dsimp only; omega) | (simp only; omega)))
    · have e : decide (tmG n a b) = false := decide_eq_false fun h => hb h.2.1
      rw [e]
      by_cases h3 : b < 0
      · (refine Wk.o ?_; (repeat revert hK K); refine W74c1a ?_; (repeat intro K hK); refine ⟨?_⟩)
        (simp only [bodyX]; refine ⟨_, by simp only [aresults, aresult, XS.as, Tryz.results73, aload, go_sem, Option.bind_some]; rfl, ?_⟩)
        exact ⟨.iv _, rfl, trivial⟩
      · have h4 : n ≤ b := by omega
        (refine Wk.o ?_; (repeat revert hK K); refine W74c1a ?_; (repeat intro K hK); refine ⟨?_⟩)
        (simp only [bodyX]; refine ⟨_, by simp only [aresults, aresult, XS.as, Tryz.results73, aload, go_sem, Option.bind_some]; rfl, ?_⟩)
        exact ⟨.iv _, rfl, trivial⟩
  · have h1 := h1 (by decide)
    have h2 := h2 (by decide)
    by_cases hab : a = b
    · have e : decide (tmG n a b) = false := decide_eq_false fun h => h.2.2 hab
      (refine Wk.o ?_; (repeat revert hK K); refine W74c1a ?_; (repeat intro K hK); refine ⟨?_⟩)
      (simp only [bodyX]; refine ⟨_, by simp only [aresults, aresult, XS.as, Tryz.results73, aload, go_sem, Option.bind_some]; rfl, ?_⟩)
      exact ⟨.iv _, by rw [e], trivial⟩
    · have e : decide (tmG n a b) = true := decide_eq_true ⟨h1, h2, hab⟩
      (refine Wk.o ?_; (repeat revert hK K); refine W74c1a ?_; (repeat intro K hK); refine ⟨?_⟩)
      (simp only [bodyX]; refine ⟨_, by simp only [aresults, aresult, XS.as, Tryz.results73, aload, go_sem, Option.bind_some]; rfl, ?_⟩)
      exact ⟨.iv _, by rw [e], trivial⟩
set_option maxRecDepth 100000 in
set_option maxHeartbeats 1000000 in
theorem pf_tmNot (n m a b : Int) : PF Tryz.prog 72 [lt (.int .i64 a), lt (.int .i64 b), .iv (.ptr (szG n m) 2)] fun r H' => r = lt (.int .i64 (-(nVar n m 1 a b))) ∧ H' = [] := by
  refine SF.forgetAll ?_
  have hs1 := trivial; have hs2 := trivial; have hs3 := trivial; have hCk := trivial; have hCo := trivial
  have hV := pf_nVar n m 1 a b
  have hl := nVar_lim n m 1 a b
  (refine SF_of_bodyX (aload tt) (aload_ok tyOK) Tryz.func72 rfl (by kernel_rfl) ?_; simp only [Tryz.ntmps72, List.length_cons, List.length_nil, Nat.reduceAdd, Nat.reduceSub, List.replicate_succ, List.replicate_zero, List.cons_append, List.nil_append])
  (refine Wk.o ?_; (repeat revert hK K); refine W74c1a ?_; (repeat intro K hK); refine ⟨?_⟩)
  (simp only [bodyX]; refine ⟨_, by simp only [aresults, aresult, XS.as, Tryz.results72, aload, go_sem, Option.bind_some]; rfl, ?_⟩)
  exact ⟨.iv _, rfl, trivial⟩
end Go.Proofs.YtcjnikkmjhagmaaGreatDoor
