import Derived.Test.YtcjnikkmjhagmaaGreatDoorMgBE
namespace Go.Proofs.YtcjnikkmjhagmaaGreatDoor
open Go.RowKit
set_option linter.unusedVariables false
set_option linter.unusedSimpArgs false
def tmRow (n m a b : Int) (x y : Nat) : List Int := [-(nVar n m 1 a x), -(nVar n m 1 b y)]
def tmA (n m a b : Int) (x k : Nat) : List (List Int) := (List.range k).map fun y => tmRow n m a b x y
def tmP (n m a b : Int) (k : Nat) : List (List Int) := (List.range k).flatMap fun x => tmA n m a b x x
def tmI (N : Nat) (m : Int) (us : List Int) (p : Nat) : List (List Int) := if tmG N (us.getD (p * 2) 0) (us.getD (p * 2 + 1) 0) then tmP N m (us.getD (p * 2) 0) (us.getD (p * 2 + 1) 0) N else []
def tmU (N : Nat) (m : Int) (us : List Int) (k : Nat) : List (List Int) := (List.range k).flatMap (tmI N m us)
theorem tmA_succ (n m a b : Int) (x k : Nat) : tmA n m a b x (k + 1) = tmA n m a b x k ++ [tmRow n m a b x k] := by unfold tmA; rw [List.range_succ, List.map_append]; rfl
theorem tmP_succ (n m a b : Int) (k : Nat) : tmP n m a b (k + 1) = tmP n m a b k ++ tmA n m a b k k := by unfold tmP; rw [List.range_succ, List.flatMap_append]; simp
theorem tmU_succ (N : Nat) (m : Int) (us : List Int) (k : Nat) : tmU N m us (k + 1) = tmU N m us k ++ tmI N m us k := by unfold tmU; rw [List.range_succ, List.flatMap_append]; simp
theorem tmA_len (n m a b : Int) (x k : Nat) : (tmA n m a b x k).length = k := by unfold tmA; simp
def tmL (n m : Int) (us : List Int) (K : Nat) : List (List Int) := if nOk n m then tmU n.toNat m us K else []
theorem snap_rowL {H : AHeap} {o : Nat} {t : TypeId} {R : List (List Int)} (h : H[o]? = some (some ⟨t, R.map rowA⟩)) : SnapC H (.osl o 0 R.length 1) (iRows R) :=
  .osl o 0 R.length 1 _ _ (fun j => rowA (R.getD j [])) (by decide) h (fun j hj => by
    rw [Nat.zero_add]; show (R.map rowA)[j]? = _
    rw [List.getElem?_map, List.getElem?_eq_getElem (by omega)]; simp only [Option.map_some, List.getD_eq_getElem?_getD, List.getElem?_eq_getElem (show j < R.length by omega), Option.getD_some]) fun j _ => .iv _
theorem W0f8ba {A B : Prop} (h9 : B) (w : B → A := by (intro h9; (repeat intro K hK); refine ⟨?_⟩; (repeat (first | (first | (with_reducible first | refine AX_block ?_ | refine AX_skip ?_ | refine AX_exit ?_ | refine AX_ret ?_ | refine AX_ift ?_ | refine AX_iff ?_ | refine AX_seq_k (fun K hK => ?_) | refine ContX.use (by assumption) ?_) | simp only [thenX, inBlockX, if_true, if_false, reduceCtorEq]) | (first | ((with_reducible refine XOP tyOK ?_); simp (disch := omega) only [go_sem , Nat.reduceLeDiff, iInts, iFlat, iRows, szG, Int.toNat_zero, Int.toNat_one, hs1, hs2, hs3, rows_one, rows_take, List.length_nil]; (with_reducible refine XRes_id ?_)) | (with_reducible refine XSK ?_)) | ((with_reducible refine XRes_nil ?_); refine hK _ ?_; clear hK K) | ((with_reducible refine AX_reg0 fun K hK => ?_); simp only [go_sem]) | (first | (first | refine XTL (by rfl) hCk ?_ | refine ATL tyOK (by rfl) hCk ?_ | refine XTL (by rfl) hCo ?_ | refine ATL tyOK (by rfl) hCo ?_) | ((refine ADR_tellV (by rfl) rfl hNa ?_ (fun _ => rfl) ?_); (focus exact idsA (by rfl)); (simp only [putL, List.set_cons_succ, List.set_cons_zero])) | ((refine ADR_tellV (by rfl) rfl hNb ?_ (fun _ => rfl) ?_); (focus exact idsA (by rfl)); (simp only [putL, List.set_cons_succ, List.set_cons_zero]))))); refine Wk.o ?_; (repeat revert hK K); exact h9)) : A := w h9
set_option maxRecDepth 100000 in
set_option maxHeartbeats 4000000 in
theorem pf_tmClauses (n m : Int) (us : List Int) (Z : Nat) (hZl : Z ≤ 10000) (hu : us.length = Z * 2) : PF Tryz.prog 26 [szA n m, .iv (iFlat us Z 2)] fun r H' => r = .iv (iRows (tmL n m us Z)) ∧ H' = [] := by
  refine SF.frozen ?_
  have hs1 := trivial; have hs2 := trivial; have hs3 := trivial; have hCo := trivial; have hNa := trivial; have hNb := trivial
  have hCk := pf_nCheck n m
  by_cases hok : nOk n m
  · rw [nCheck_yes hok] at hCk
    rw [show tmL n m us Z = tmU n.toNat m us Z by unfold tmL; rw [if_pos hok]]
    obtain ⟨n, rfl⟩ : ∃ N : Nat, n = N := ⟨n.toNat, by unfold nOk at hok; omega⟩
    have hn : n ≤ 64 := by unfold nOk at hok; omega
    rw [Int.toNat_natCast]
    (refine SF_of_bodyX (aload tt) (aload_ok tyOK) Tryz.func26 rfl (by kernel_rfl) ?_; simp only [Tryz.ntmps26, List.length_cons, List.length_nil, Nat.reduceAdd, Nat.reduceSub, List.replicate_succ, List.replicate_zero, List.cons_append, List.nil_append])
    unfold iFlat
    (repeat (first | (with_reducible first | refine AX_block ?_ | refine AX_skip ?_ | refine AX_exit ?_ | refine AX_ret ?_ | refine AX_ift ?_ | refine AX_iff ?_ | refine AX_seq_k (fun K hK => ?_) | refine ContX.use (by assumption) ?_) | simp only [thenX, inBlockX, if_true, if_false, reduceCtorEq]))
    ((first | (with_reducible refine AX_reg0 fun K hK => ?_) | (refine AX_drawG1 tyOK (by kernel_rfl) (by rfl) (by kernel_rfl) fun K hK => ?_) | (refine AX_drawT tyOK (by kernel_rfl) (by decide +kernel) fun K hK => ?_) | (refine AX_drawM1 (by kernel_rfl) (by rfl) (by decide +kernel) fun K hK => ?_) | (refine AX_drawA tyOK (by kernel_rfl) (by decide +kernel) fun K hK => ?_)); (first | simp only [go_sem, preN, effOp, runF, alM, mapOp, alD2, kdOf2, Bool.not_false, Bool.not_true, reduceCtorEq] | simp only [go_sem, preN, effOp, runF, alM, mapOp, Bool.not_false, Bool.not_true, reduceCtorEq] | simp only [go_sem, preN, effOp, runF, alD2, kdOf2, Bool.not_false, Bool.not_true, reduceCtorEq] | simp only [go_sem, alD2, kdOf2, Bool.not_false, Bool.not_true, reduceCtorEq] | simp only [go_sem, preN, effOp, runF, Bool.not_false, Bool.not_true, reduceCtorEq] | simp only [go_sem]))
    repeat (first | ((first | (with_reducible refine XRes_op tyOK ?_ ?_) | ((with_reducible first | refine ADF_op tyOK ?_ ?_ ?_ | refine ADX_op tyOK ?_ ?_ ?_); (focus rfl)) | (with_reducible refine ADR_alloc1 tyOK ?_ ?_) | ((with_reducible refine ADR_free1 tyOK ?_ ?_ ?_); (focus rfl)) | ((with_reducible refine ADR_free0 tyOK ?_ ?_ ?_); (focus rfl)) | ((with_reducible refine ADR_read1 tyOK ?_ ?_ ?_); (focus rfl)) | (with_reducible refine ADR_chg1 tyOK ?_ ?_)); (focus (first | (with_reducible rfl) | ((simp (disch := omega) only [go_sem]); done))); simp (disch := omega) only [go_sem , Nat.reduceLeDiff, iInts, iFlat, iRows, szG, Int.toNat_zero, Int.toNat_one, hs1, hs2, hs3, rows_one, rows_take, List.length_nil]; (first | (with_reducible refine XRes_id ?_) | (with_reducible refine ADF_id ?_) | (with_reducible refine ADR_id1 ?_) | (with_reducible refine ADX_id ?_))) | ((first | (with_reducible refine XRes_skip ?_ ?_) | (with_reducible refine ADF_skip (b := true) ?_ ?_) | (with_reducible refine ADX_skip ?_ ?_) | ((with_reducible refine ADR_skip1 ?_ ?_ ?_); (focus rfl))); (focus (first | rfl | ((simp (disch := omega) only [go_sem]); done))); (simp only [putL, List.set_cons_succ, List.set_cons_zero])))
    ((first | (with_reducible refine XRes_nil ?_) | (with_reducible refine ADF_nil ?_) | (with_reducible refine ADR_nil ?_) | (with_reducible refine ADX_nil ?_)); (first | refine hK _ ?_ | refine hK _ _ ?_); clear hK K)
    (repeat (first | (with_reducible first | refine AX_block ?_ | refine AX_skip ?_ | refine AX_exit ?_ | refine AX_ret ?_ | refine AX_ift ?_ | refine AX_iff ?_ | refine AX_seq_k (fun K hK => ?_) | refine ContX.use (by assumption) ?_) | simp only [thenX, inBlockX, if_true, if_false, reduceCtorEq]))
    refine AX_freeze [0] [(2, .iv (.ptr (szG n m) 2))] (fun p hp => ?_) ?_
    · rw [List.mem_singleton.1 hp]; exact frz_sz (by decide) rfl
    simp only [setN, updS, List.set_cons_succ, List.set_cons_zero]
    (refine Wk.o ?_; (repeat revert hK K); refine W0f8ba ?_; (repeat intro K hK); refine ⟨?_⟩)
    refine AX_nil 6 57 1 rfl ?_
    refine AX_ren [1] [] ?fr2 [some ⟨57, []⟩] (by decide) (by decide) (by (simp (disch := omega) only [go_sem, lint, rows_rn, rows_id, rows_one])) (by (simp (disch := omega) only [go_sem, lint, rows_rn, rows_id, rows_one])) (by (simp (disch := omega) only [go_sem, lint, rows_rn, rows_id, rows_one])) ?hfr (fun d2 => ?_)
    case hfr =>
      (simp (disch := omega) only [go_sem, lint, rows_rn, rows_id, rows_one])
      rfl
    simp only [deadS, List.set_cons_succ, List.set_cons_zero]
    (refine AWH (σ := Nat × List (List Int)) [18, 19, 20, 8, 21, 22, 23, 24, 25, 26, 27, 28, 29, 30, 9, 31, 32, 33, 34, 10, 35, 36, 37, 38, 39, 40, 41, 42, 43, 44, 45, 46, 47, 48, 49, 50, 51] (fun (p, R) => [(17, lint p), (6, .osl 0 0 R.length 1)]) (fun (p, R) => [some ⟨57, R.map rowA⟩]) (fun (p, R) => []) (fun (p, R) => p ≤ Z ∧ R = tmU n m us p ∧ R.length ≤ 4096 * p) (fun (p, R) => Z - p) (0, []) (by first | exact ⟨Nat.zero_le _, rfl, Nat.le_refl _⟩) ?_; rintro ⟨p, R⟩ d fr hfr ⟨hp, hR, hRl⟩; simp only [updS, deadS, List.set_cons_succ, List.set_cons_zero, lint] at hfr; subst hfr; (try dsimp only))
    by_cases hlt : p < Z
    · have hCo := pf_tmCounts n (us.getD (p * 2) 0) (us.getD (p * 2 + 1) 0)
      by_cases hg : tmG n (us.getD (p * 2) 0) (us.getD (p * 2 + 1) 0)
      · rw [decide_eq_true hg] at hCo
        (refine Wk.o ?_; (repeat revert hK K); refine W0f8ba ?_; (repeat intro K hK); refine ⟨?_⟩)
        refine AX_freeze [1] [(8, .iv (.ptr (szG (us.getD (p * 2) 0) (us.getD (p * 2 + 1) 0)) 2))] (fun p hp => ?_) ?_
        · rw [List.mem_singleton.1 hp]; exact frz_sz (by decide) rfl
        simp only [setN, updS, List.set_cons_succ, List.set_cons_zero]
        refine AX_ren [0] [] ?fr3 [some ⟨57, R.map rowA⟩] (by decide) (by decide) (by (simp (disch := omega) only [go_sem, lint, rows_rn, rows_id, rows_one])) (by (simp (disch := omega) only [go_sem, lint, rows_rn, rows_id, rows_one])) (by (simp (disch := omega) only [go_sem, lint, rows_rn, rows_id, rows_one])) ?hfr2 (fun d3 => ?_)
        case hfr2 =>
          (simp (disch := omega) only [go_sem, lint, rows_rn, rows_id, rows_one])
          rfl
        simp only [deadS, List.set_cons_succ, List.set_cons_zero]
        (refine AWH (σ := Nat × List (List Int)) [29, 30, 9, 31, 32, 33, 34, 10, 35, 36, 37, 38, 39, 40, 41, 42, 43, 44, 45, 46, 47, 48, 49, 50] (fun (x, R1) => [(28, lint x), (6, .osl 0 0 R1.length 1)]) (fun (x, R1) => [some ⟨57, R1.map rowA⟩]) (fun (x, R1) => []) (fun (x, R1) => x ≤ n ∧ R1 = R ++ tmP n m (us.getD (p * 2) 0) (us.getD (p * 2 + 1) 0) x ∧ R1.length ≤ R.length + 64 * x) (fun (x, R1) => n - x) (0, R) (by first | exact ⟨Nat.zero_le _, by simp [tmP], Nat.le_refl _⟩) ?_; rintro ⟨x, R1⟩ d fr hfr ⟨hx, hR1, hR1l⟩; simp only [updS, deadS, List.set_cons_succ, List.set_cons_zero, lint] at hfr; subst hfr; (try dsimp only))
        by_cases hlx : x < n
        · (refine Wk.o ?_; (repeat revert hK K); refine W0f8ba ?_; (repeat intro K hK); refine ⟨?_⟩)
          (refine AWH (σ := Nat × List (List Int)) [33, 34, 10, 35, 36, 37, 38, 39, 40, 41, 42, 43, 44, 45, 46, 47, 48, 49] (fun (y, R2) => [(32, lint y), (6, .osl 0 0 R2.length 1)]) (fun (y, R2) => [some ⟨57, R2.map rowA⟩]) (fun (y, R2) => []) (fun (y, R2) => y ≤ x ∧ R2 = R1 ++ tmA n m (us.getD (p * 2) 0) (us.getD (p * 2 + 1) 0) x y) (fun (y, R2) => x - y) (0, R1) (by first | exact ⟨Nat.zero_le _, by simp [tmA]⟩) ?_; rintro ⟨y, R2⟩ d fr hfr ⟨hy, hR2⟩; simp only [updS, deadS, List.set_cons_succ, List.set_cons_zero, lint] at hfr; subst hfr; (try dsimp only))
          have hR2l : R2.length = R1.length + y := by rw [hR2, List.length_append, tmA_len]
          by_cases hly : y < x
          · have hNa := pf_tmNot n m (us.getD (p * 2) 0) x
            have hNb := pf_tmNot n m (us.getD (p * 2 + 1) 0) y
            repeat (first | (first | (with_reducible first | refine AX_block ?_ | refine AX_skip ?_ | refine AX_exit ?_ | refine AX_ret ?_ | refine AX_ift ?_ | refine AX_iff ?_ | refine AX_seq_k (fun K hK => ?_) | refine ContX.use (by assumption) ?_) | simp only [thenX, inBlockX, if_true, if_false, reduceCtorEq]) | (first | ((refine ADR_litF tyOK (by rfl) rfl (by decide) rfl rfl ?_); (try simp (disch := omega) only [go_sem, asets, acells]); (simp only [List.map_cons, List.map_nil, intOf, putL, List.set_cons_succ, List.set_cons_zero])) | ((refine ADR_litI tyOK (iRows [tmRow n m (us.getD (p * 2) 0) (us.getD (p * 2 + 1) 0) x y]) (by rfl) (fun H => ⟨.osl H.length 0 1 1, ⟨57, [rowA (tmRow n m (us.getD (p * 2) 0) (us.getD (p * 2 + 1) 0) x y)]⟩, ?_, snap_rowL (t := 57) (R := [tmRow n m (us.getD (p * 2) 0) (us.getD (p * 2 + 1) 0) x y]) (only_mk (by simp) (by simp))⟩) ?_); (focus rfl); (simp only [putL, List.set_cons_succ, List.set_cons_zero]))) | (first | ((first | (with_reducible refine XRes_op tyOK ?_ ?_) | ((with_reducible first | refine ADF_op tyOK ?_ ?_ ?_ | refine ADX_op tyOK ?_ ?_ ?_); (focus rfl)) | (with_reducible refine ADR_alloc1 tyOK ?_ ?_) | ((with_reducible refine ADR_free1 tyOK ?_ ?_ ?_); (focus rfl)) | ((with_reducible refine ADR_free0 tyOK ?_ ?_ ?_); (focus rfl)) | ((with_reducible refine ADR_read1 tyOK ?_ ?_ ?_); (focus rfl)) | (with_reducible refine ADR_chg1 tyOK ?_ ?_)); (focus (first | (with_reducible rfl) | ((simp (disch := omega) only [go_sem]); done))); simp (disch := omega) only [go_sem , Nat.reduceLeDiff, iInts, iFlat, iRows, szG, Int.toNat_zero, Int.toNat_one, hs1, hs2, hs3, rows_one, rows_take, List.length_nil]; (first | (with_reducible refine XRes_id ?_) | (with_reducible refine ADF_id ?_) | (with_reducible refine ADR_id1 ?_) | (with_reducible refine ADX_id ?_))) | ((first | (with_reducible refine XRes_skip ?_ ?_) | (with_reducible refine ADF_skip (b := true) ?_ ?_) | (with_reducible refine ADX_skip ?_ ?_) | ((with_reducible refine ADR_skip1 ?_ ?_ ?_); (focus rfl))); (focus (first | rfl | ((simp (disch := omega) only [go_sem]); done))); (simp only [putL, List.set_cons_succ, List.set_cons_zero]))) | ((first | (with_reducible refine XRes_nil ?_) | (with_reducible refine ADF_nil ?_) | (with_reducible refine ADR_nil ?_) | (with_reducible refine ADX_nil ?_)); (first | refine hK _ ?_ | refine hK _ _ ?_); clear hK K) | ((with_reducible refine AX_reg0 fun K hK => ?_); simp only [go_sem]) | ((refine AX_drawL tyOK (by kernel_rfl) (by decide +kernel) fun K hK => ?_); (simp only [go_sem, alL, kdOfL, kdOf, isApp, List.any_cons, List.any_nil, List.map_cons, List.map_nil, Bool.or_false, Bool.false_or, Bool.or_true, Bool.true_or, reduceCtorEq])) | (first | (first | refine XTL (by rfl) hCk ?_ | refine ATL tyOK (by rfl) hCk ?_ | refine XTL (by rfl) hCo ?_ | refine ATL tyOK (by rfl) hCo ?_) | ((refine ADR_tellV (by rfl) rfl hNa ?_ (fun _ => rfl) ?_); (focus exact idsA (by rfl)); (simp only [putL, List.set_cons_succ, List.set_cons_zero])) | ((refine ADR_tellV (by rfl) rfl hNb ?_ (fun _ => rfl) ?_); (focus exact idsA (by rfl)); (simp only [putL, List.set_cons_succ, List.set_cons_zero]))))
            obtain ⟨R3, hR3⟩ : ∃ R3, R3 = R2 ++ [tmRow n m (us.getD (p * 2) 0) (us.getD (p * 2 + 1) 0) x y] := ⟨_, rfl⟩
            have hlen : R3.length = R2.length + 1 := by rw [hR3, List.length_append]; rfl
            refine xs_set (P := WhX _ _ _ _ _ _ _ _ _) 1 57 _ (R3.map rowA) rfl ?_ ?_
            · rw [hR3, List.map_append]; rfl
            simp only [List.set_cons_succ, List.set_cons_zero]
            exact whx_ren [1] (y + 1, R3) ⟨by omega, by rw [hR3, hR2, tmA_succ, List.append_assoc]⟩ (by (first | omega | (dsimp only; omega) | (simp only; omega))) rfl (by decide) (by decide) (by (simp (disch := omega) only [go_sem, lint, rows_rn, rows_id, rows_one])) (by (simp (disch := omega) only [go_sem, lint, rows_rn, rows_id, rows_one])) (by (simp (disch := omega) only [go_sem, lint, rows_rn, rows_id, rows_one])) (fun d => by simp (disch := omega) only [go_sem, lint, rows_rn, rows_id, rows_one, hlen])
          · obtain rfl : y = x := by omega
            (refine Wk.o ?_; (repeat revert hK K); refine W0f8ba ?_; (repeat intro K hK); refine ⟨?_⟩)
            exact whx_ren [0] (y + 1, R2) ⟨by omega, by rw [hR2, hR1, tmP_succ, List.append_assoc], by show R2.length ≤ _; omega⟩ (by (first | omega | (dsimp only; omega) | (simp only; omega))) rfl (by decide) (by decide) (by (simp (disch := omega) only [go_sem, lint, rows_rn, rows_id, rows_one])) (by (simp (disch := omega) only [go_sem, lint, rows_rn, rows_id, rows_one])) (by (simp (disch := omega) only [go_sem, lint, rows_rn, rows_id, rows_one])) (fun d => by (simp (disch := omega) only [go_sem, lint, rows_rn, rows_id, rows_one]))
        · obtain rfl : x = n := by omega
          (refine Wk.o ?_; (repeat revert hK K); refine W0f8ba ?_; (repeat intro K hK); refine ⟨?_⟩)
          exact whx_ren [0] (p + 1, R1) ⟨by omega, by rw [tmU_succ, hR1, hR]; unfold tmI; rw [if_pos hg], by show R1.length ≤ _; omega⟩ (by (first | omega | (dsimp only; omega) | (simp only; omega))) rfl (by decide) (by decide) (by (simp (disch := omega) only [go_sem, lint, rows_rn, rows_id, rows_one])) (by (simp (disch := omega) only [go_sem, lint, rows_rn, rows_id, rows_one])) (by (simp (disch := omega) only [go_sem, lint, rows_rn, rows_id, rows_one])) (fun d => by (simp (disch := omega) only [go_sem, lint, rows_rn, rows_id, rows_one]))
      · rw [decide_eq_false hg] at hCo
        (refine Wk.o ?_; (repeat revert hK K); refine W0f8ba ?_; (repeat intro K hK); refine ⟨?_⟩)
        exact whx_ren [0] (p + 1, R) ⟨by omega, by rw [tmU_succ, hR]; unfold tmI; rw [if_neg hg, List.append_nil], by show R.length ≤ _; omega⟩ (by (first | omega | (dsimp only; omega) | (simp only; omega))) rfl (by decide) (by decide) (by (simp (disch := omega) only [go_sem, lint, rows_rn, rows_id, rows_one])) (by (simp (disch := omega) only [go_sem, lint, rows_rn, rows_id, rows_one])) (by (simp (disch := omega) only [go_sem, lint, rows_rn, rows_id, rows_one])) (fun d => by (simp (disch := omega) only [go_sem, lint, rows_rn, rows_id, rows_one]))
    · obtain rfl : p = Z := by omega
      (refine Wk.o ?_; (repeat revert hK K); refine W0f8ba ?_; (repeat intro K hK); refine ⟨?_⟩)
      (simp only [bodyX]; refine ⟨_, by simp only [aresults, aresult, XS.as, Tryz.results26, aload, go_sem, Option.bind_some]; rfl, ?_⟩)
      exact ⟨_, snap_rws rfl rfl, by rw [hR], trivial⟩
  · rw [nCheck_no hok] at hCk
    rw [show tmL n m us Z = [] by unfold tmL; rw [if_neg hok]]
    (refine SF_of_bodyX (aload tt) (aload_ok tyOK) Tryz.func26 rfl (by kernel_rfl) ?_; simp only [Tryz.ntmps26, List.length_cons, List.length_nil, Nat.reduceAdd, Nat.reduceSub, List.replicate_succ, List.replicate_zero, List.cons_append, List.nil_append])
    unfold iFlat
    (refine Wk.o ?_; (repeat revert hK K); refine W0f8ba ?_; (repeat intro K hK); refine ⟨?_⟩)
    (simp only [bodyX]; refine ⟨_, by simp only [aresults, aresult, XS.as, Tryz.results26, aload, go_sem, Option.bind_some]; rfl, ?_⟩)
    exact ⟨_, .iv _ _ (.nil _ _), rfl, trivial⟩
end Go.Proofs.YtcjnikkmjhagmaaGreatDoor
namespace Go.Proofs.YtcjnikkmjhagmaaGreatDoor
open Go.RowKit
set_option linter.unusedVariables false
set_option linter.unusedSimpArgs false
def tri (n : Nat) : Nat := n * (n - 1) / 2
theorem tri_two (n : Nat) : 2 * tri n = n * (n - 1) := by
  unfold tri
  have : n * (n - 1) % 2 = 0 := by
    rcases Nat.mod_two_eq_zero_or_one n with h | h
    · rw [Nat.mul_mod, h]; simp
    · rw [Nat.mul_mod, show (n - 1) % 2 = 0 by omega]; simp
  omega
theorem tri_int (n : Nat) : (n : Int) * (n - 1) = 2 * tri n := by
  have := tri_two n
  rcases Nat.eq_zero_or_pos n with h | h
  · subst h; simp [tri]
  · have e : ((n : Int) - 1) = ((n - 1 : Nat) : Int) := by omega
    rw [e]; exact_mod_cast this.symm
theorem tri_le {n b : Nat} (h : n ≤ b) : 2 * tri n ≤ b * b := by
  rw [tri_two]; exact Nat.mul_le_mul h (by omega)
theorem tri_div (n : Nat) : Int.tdiv ((n : Int) * (n - 1)) 2 = tri n := by
  rw [tri_int, Int.mul_comm, Int.mul_tdiv_cancel _ (by decide)]
def cP (n : Nat) : Int := n + 2 * n * tri n
theorem cP_lim {n : Nat} (hn : n ≤ 64) : 0 ≤ 2 * (n : Int) * tri n ∧ 2 * (n : Int) * tri n ≤ 1000000 := by
  have := tri_le hn
  have e : 2 * (n : Int) * tri n = ((2 * n * tri n : Nat) : Int) := by push_cast; rfl
  have : 2 * n * tri n ≤ 128 * 2048 := Nat.mul_le_mul (by omega) (by omega)
  rw [e]; omega
def cSt (n m : Nat) : Int := 1 + ((n + 1 : Nat) : Int) * (1 + tri m)
theorem cSt_lim {n m : Nat} (hn : n ≤ 64) (hm : m ≤ 32) : 0 ≤ ((n + 1 : Nat) : Int) * (1 + tri m) ∧ ((n + 1 : Nat) : Int) * (1 + tri m) ≤ 1000000 := by
  have := tri_le hm
  have e : ((n + 1 : Nat) : Int) * (1 + tri m) = (((n + 1) * (1 + tri m) : Nat) : Int) := by push_cast; rfl
  have : (n + 1) * (1 + tri m) ≤ 65 * 2048 := Nat.mul_le_mul (by omega) (by omega)
  rw [e]; omega
def cTm (n p : Nat) : Int := (tri n : Int) * p
theorem cTm_lim {n p : Nat} (hn : n ≤ 64) (hp : p ≤ 2016) : 0 ≤ (tri n : Int) * p ∧ (tri n : Int) * p ≤ 10000000 := by
  have := tri_le hn
  have e : (tri n : Int) * p = ((tri n * p : Nat) : Int) := by push_cast; rfl
  have : tri n * p ≤ 2048 * 2016 := Nat.mul_le_mul (by omega) (by omega)
  rw [e]; omega
theorem W5462a {A B : Prop} (h9 : B) (w : B → A := by (intro h9; (repeat intro K hK); refine ⟨?_⟩; (repeat (first | (first | (with_reducible first | refine AX_block ?_ | refine AX_skip ?_ | refine AX_exit ?_ | refine AX_ret ?_ | refine AX_ift ?_ | refine AX_iff ?_ | refine AX_seq_k (fun K hK => ?_) | refine ContX.use (by assumption) ?_) | simp only [thenX, inBlockX, if_true, if_false, reduceCtorEq]) | (first | ((with_reducible first | refine XOP tyOK ?_ | refine AOP tyOK ?_); simp (disch := omega) only [go_sem , iInts, iFlat, szG, Int.toNat_zero, Int.toNat_one, hs1, hs2, hs3, rows_one, rows_take, List.length_nil]; (with_reducible first | refine XRes_id ?_ | refine ADF_id ?_)) | (with_reducible first | refine XSK ?_ | refine ASK ?_)) | ((first | (with_reducible refine XRes_nil ?_) | (with_reducible refine ADF_nil ?_)); (first | refine hK _ ?_ | refine hK _ _ ?_); clear hK K) | ((first | (with_reducible refine AX_reg0 fun K hK => ?_) | (refine AX_drawG1 tyOK (by kernel_rfl) (by rfl) (by kernel_rfl) fun K hK => ?_)); simp only [go_sem]) | (first | (first | refine XTL (by rfl) hCk ?_ | refine ATL tyOK (by rfl) hCk ?_ | refine XTL (by rfl) hV ?_ | refine ATL tyOK (by rfl) hV ?_ | refine XTL (by rfl) hCo ?_ | refine ATL tyOK (by rfl) hCo ?_)))); refine Wk.o ?_; (repeat revert hK K); exact h9)) : A := w h9
set_option maxRecDepth 100000 in
set_option maxHeartbeats 1000000 in
theorem pf_cTwo (n : Nat) (h : n ≤ 64) : PF Tryz.prog 108 [lt (.int .i64 n)] fun r H' => r = lt (.int .i64 (tri n)) ∧ H' = [] := by
  have hs1 := trivial; have hs2 := trivial; have hs3 := trivial; have hCk := trivial; have hV := trivial; have hCo := trivial
  have hl := tri_le h
  have e1 := tri_int n
  have e2 := tri_div n
  have hb : -64 ≤ (n : Int) * (n - 1) ∧ (n : Int) * (n - 1) ≤ 4096 := by omega
  clear e1
  (refine SF_of_bodyX (aload tt) (aload_ok tyOK) Tryz.func108 rfl (by kernel_rfl) ?_; simp only [Tryz.ntmps108, List.length_cons, List.length_nil, Nat.reduceAdd, Nat.reduceSub, List.replicate_succ, List.replicate_zero, List.cons_append, List.nil_append])
  (refine Wk.o ?_; (repeat revert hK K); refine W5462a ?_; (repeat intro K hK); refine ⟨?_⟩)
  (simp only [bodyX]; refine ⟨_, by simp only [aresults, aresult, XS.as, Tryz.results108, aload, go_sem, Option.bind_some]; rfl, ?_⟩)
  exact ⟨by rw [e2], trivial⟩
set_option maxRecDepth 100000 in
set_option maxHeartbeats 1000000 in
theorem pf_cMay (n m : Int) : PF Tryz.prog 59 [szA n m] fun r H' => r = lt (.bool (decide (nOk n m))) ∧ H' = [] := by
  refine SF.forgetAll ?_
  have hs1 := trivial; have hs2 := trivial; have hs3 := trivial; have hV := trivial; have hCo := trivial
  have hCk := pf_nCheck n m
  by_cases hok : nOk n m
  · rw [nCheck_yes hok] at hCk
    rw [decide_eq_true hok]
    (refine SF_of_bodyX (aload tt) (aload_ok tyOK) Tryz.func59 rfl (by kernel_rfl) ?_; simp only [Tryz.ntmps59, List.length_cons, List.length_nil, Nat.reduceAdd, Nat.reduceSub, List.replicate_succ, List.replicate_zero, List.cons_append, List.nil_append])
    (refine Wk.o ?_; (repeat revert hK K); refine W5462a ?_; (repeat intro K hK); refine ⟨?_⟩)
    (simp only [bodyX]; refine ⟨_, by simp only [aresults, aresult, XS.as, Tryz.results59, aload, go_sem, Option.bind_some]; rfl, ?_⟩)
    exact ⟨.iv _, rfl, trivial⟩
  · rw [nCheck_no hok] at hCk
    rw [decide_eq_false hok]
    (refine SF_of_bodyX (aload tt) (aload_ok tyOK) Tryz.func59 rfl (by kernel_rfl) ?_; simp only [Tryz.ntmps59, List.length_cons, List.length_nil, Nat.reduceAdd, Nat.reduceSub, List.replicate_succ, List.replicate_zero, List.cons_append, List.nil_append])
    (refine Wk.o ?_; (repeat revert hK K); refine W5462a ?_; (repeat intro K hK); refine ⟨?_⟩)
    (simp only [bodyX]; refine ⟨_, by simp only [aresults, aresult, XS.as, Tryz.results59, aload, go_sem, Option.bind_some]; rfl, ?_⟩)
    exact ⟨.iv _, rfl, trivial⟩
theorem nOk_nat {n m : Int} (h : nOk n m) : ∃ N M : Nat, n = N ∧ m = M ∧ N ≤ 64 ∧ M ≤ 32 := ⟨n.toNat, m.toNat, by unfold nOk at h; omega, by unfold nOk at h; omega, by unfold nOk at h; omega, by unfold nOk at h; omega⟩
set_option maxRecDepth 100000 in
set_option maxHeartbeats 1000000 in
theorem pf_cStates (n m : Int) : PF Tryz.prog 63 [szA n m] fun r H' => r = lt (.int .i64 (if nOk n m then cSt n.toNat m.toNat else 0)) ∧ H' = [] := by
  refine SF.forgetAll ?_
  have hs1 := trivial; have hs2 := trivial; have hs3 := trivial
  have hCk := pf_cMay n m
  by_cases hok : nOk n m
  · rw [decide_eq_true hok] at hCk
    rw [if_pos hok]
    obtain ⟨N, M, rfl, rfl, hN, hM⟩ := nOk_nat hok
    rw [Int.toNat_natCast, Int.toNat_natCast]
    have hV := pf_cTwo M (by omega)
    have hCo := trivial
    have hl := tri_le hM
    have hl2 := cSt_lim hN hM
    (refine SF_of_bodyX (aload tt) (aload_ok tyOK) Tryz.func63 rfl (by kernel_rfl) ?_; simp only [Tryz.ntmps63, List.length_cons, List.length_nil, Nat.reduceAdd, Nat.reduceSub, List.replicate_succ, List.replicate_zero, List.cons_append, List.nil_append])
    (refine Wk.o ?_; (repeat revert hK K); refine W5462a ?_; (repeat intro K hK); refine ⟨?_⟩)
    (simp only [bodyX]; refine ⟨_, by simp only [aresults, aresult, XS.as, Tryz.results63, aload, go_sem, Option.bind_some]; rfl, ?_⟩)
    exact ⟨.iv _, rfl, trivial⟩
  · rw [decide_eq_false hok] at hCk
    rw [if_neg hok]
    have hV := trivial
    have hCo := trivial
    (refine SF_of_bodyX (aload tt) (aload_ok tyOK) Tryz.func63 rfl (by kernel_rfl) ?_; simp only [Tryz.ntmps63, List.length_cons, List.length_nil, Nat.reduceAdd, Nat.reduceSub, List.replicate_succ, List.replicate_zero, List.cons_append, List.nil_append])
    (refine Wk.o ?_; (repeat revert hK K); refine W5462a ?_; (repeat intro K hK); refine ⟨?_⟩)
    (simp only [bodyX]; refine ⟨_, by simp only [aresults, aresult, XS.as, Tryz.results63, aload, go_sem, Option.bind_some]; rfl, ?_⟩)
    exact ⟨.iv _, rfl, trivial⟩
set_option maxRecDepth 100000 in
set_option maxHeartbeats 1000000 in
theorem pf_cPlaces (n m : Int) : PF Tryz.prog 61 [szA n m] fun r H' => r = lt (.int .i64 (if nOk n m then cP n.toNat else 0)) ∧ H' = [] := by
  refine SF.forgetAll ?_
  have hs1 := trivial; have hs2 := trivial; have hs3 := trivial
  have hCk := pf_cMay n m
  by_cases hok : nOk n m
  · rw [decide_eq_true hok] at hCk
    rw [if_pos hok]
    obtain ⟨N, M, rfl, rfl, hN, hM⟩ := nOk_nat hok
    rw [Int.toNat_natCast]
    have hV := pf_cTwo N (by omega)
    have hCo := trivial
    have hl := tri_le hN
    have hl2 := cP_lim hN
    (refine SF_of_bodyX (aload tt) (aload_ok tyOK) Tryz.func61 rfl (by kernel_rfl) ?_; simp only [Tryz.ntmps61, List.length_cons, List.length_nil, Nat.reduceAdd, Nat.reduceSub, List.replicate_succ, List.replicate_zero, List.cons_append, List.nil_append])
    (refine Wk.o ?_; (repeat revert hK K); refine W5462a ?_; (repeat intro K hK); refine ⟨?_⟩)
    (simp only [bodyX]; refine ⟨_, by simp only [aresults, aresult, XS.as, Tryz.results61, aload, go_sem, Option.bind_some]; rfl, ?_⟩)
    exact ⟨.iv _, rfl, trivial⟩
  · rw [decide_eq_false hok] at hCk
    rw [if_neg hok]
    have hV := trivial
    have hCo := trivial
    (refine SF_of_bodyX (aload tt) (aload_ok tyOK) Tryz.func61 rfl (by kernel_rfl) ?_; simp only [Tryz.ntmps61, List.length_cons, List.length_nil, Nat.reduceAdd, Nat.reduceSub, List.replicate_succ, List.replicate_zero, List.cons_append, List.nil_append])
    (refine Wk.o ?_; (repeat revert hK K); refine W5462a ?_; (repeat intro K hK); refine ⟨?_⟩)
    (simp only [bodyX]; refine ⟨_, by simp only [aresults, aresult, XS.as, Tryz.results61, aload, go_sem, Option.bind_some]; rfl, ?_⟩)
    exact ⟨.iv _, rfl, trivial⟩
set_option maxRecDepth 100000 in
set_option maxHeartbeats 1000000 in
theorem pf_cTimes (n m : Int) (p : Nat) : PF Tryz.prog 62 [szA n m, lt (.int .i64 p)] fun r H' => r = lt (.int .i64 (if nOk n m ∧ p ≤ 2016 then cTm n.toNat p else 0)) ∧ H' = [] := by
  refine SF.forgetAll ?_
  have hs1 := trivial; have hs2 := trivial; have hs3 := trivial
  have hCk := pf_cMay n m
  by_cases hok : nOk n m
  · rw [decide_eq_true hok] at hCk
    by_cases hp : p ≤ 2016
    · rw [if_pos ⟨hok, hp⟩]
      obtain ⟨N, M, rfl, rfl, hN, hM⟩ := nOk_nat hok
      rw [Int.toNat_natCast]
      have hV := pf_cTwo N (by omega)
      have hCo := trivial
      have hl := tri_le hN
      have hl2 := cTm_lim hN hp
      (refine SF_of_bodyX (aload tt) (aload_ok tyOK) Tryz.func62 rfl (by kernel_rfl) ?_; simp only [Tryz.ntmps62, List.length_cons, List.length_nil, Nat.reduceAdd, Nat.reduceSub, List.replicate_succ, List.replicate_zero, List.cons_append, List.nil_append])
      (refine Wk.o ?_; (repeat revert hK K); refine W5462a ?_; (repeat intro K hK); refine ⟨?_⟩)
      (simp only [bodyX]; refine ⟨_, by simp only [aresults, aresult, XS.as, Tryz.results62, aload, go_sem, Option.bind_some]; rfl, ?_⟩)
      exact ⟨.iv _, rfl, trivial⟩
    · rw [if_neg fun h => hp h.2]
      have hV := trivial
      have hCo := trivial
      (refine SF_of_bodyX (aload tt) (aload_ok tyOK) Tryz.func62 rfl (by kernel_rfl) ?_; simp only [Tryz.ntmps62, List.length_cons, List.length_nil, Nat.reduceAdd, Nat.reduceSub, List.replicate_succ, List.replicate_zero, List.cons_append, List.nil_append])
      (refine Wk.o ?_; (repeat revert hK K); refine W5462a ?_; (repeat intro K hK); refine ⟨?_⟩)
      (simp only [bodyX]; refine ⟨_, by simp only [aresults, aresult, XS.as, Tryz.results62, aload, go_sem, Option.bind_some]; rfl, ?_⟩)
      exact ⟨.iv _, rfl, trivial⟩
  · rw [decide_eq_false hok] at hCk
    rw [if_neg fun h => hok h.1]
    have hV := trivial
    have hCo := trivial
    (refine SF_of_bodyX (aload tt) (aload_ok tyOK) Tryz.func62 rfl (by kernel_rfl) ?_; simp only [Tryz.ntmps62, List.length_cons, List.length_nil, Nat.reduceAdd, Nat.reduceSub, List.replicate_succ, List.replicate_zero, List.cons_append, List.nil_append])
    (refine Wk.o ?_; (repeat revert hK K); refine W5462a ?_; (repeat intro K hK); refine ⟨?_⟩)
    (simp only [bodyX]; refine ⟨_, by simp only [aresults, aresult, XS.as, Tryz.results62, aload, go_sem, Option.bind_some]; rfl, ?_⟩)
    exact ⟨.iv _, rfl, trivial⟩
def cMv (n m e : Nat) : Int := (e : Int) * (1 + (n : Int) * m) + ((n : Int) - e) * 2 * ((n : Int) * m)
theorem cMv_lim {n m e : Nat} (hn : n ≤ 64) (hm : m ≤ 32) (he : e ≤ n) : (0 ≤ (n : Int) * m ∧ (n : Int) * m ≤ 100000) ∧ (0 ≤ (e : Int) * (1 + (n : Int) * m) ∧ (e : Int) * (1 + (n : Int) * m) ≤ 1000000) ∧ 0 ≤ ((n : Int) - e) * 2 * ((n : Int) * m) ∧ ((n : Int) - e) * 2 * ((n : Int) * m) ≤ 1000000 := by
  have h1 : n * m ≤ 64 * 32 := Nat.mul_le_mul hn hm
  have h2 : e * (1 + n * m) ≤ 64 * 2049 := Nat.mul_le_mul (by omega) (by omega)
  have h3 : (n - e) * 2 * (n * m) ≤ 128 * 2048 := Nat.mul_le_mul (by omega) (by omega)
  have e1 : (n : Int) * m = ((n * m : Nat) : Int) := by push_cast; rfl
  have e2 : (e : Int) * (1 + (n : Int) * m) = ((e * (1 + n * m) : Nat) : Int) := by push_cast; rfl
  have e3 : ((n : Int) - e) * 2 * ((n : Int) * m) = (((n - e) * 2 * (n * m) : Nat) : Int) := by rw [← Int.natCast_sub he]; push_cast; rfl
  rw [e3, e2, e1]; omega
set_option maxRecDepth 100000 in
set_option maxHeartbeats 1000000 in
theorem pf_cMoves (n m : Int) (e : Nat) : PF Tryz.prog 64 [szA n m, lt (.int .i64 e)] fun r H' => r = lt (.int .i64 (if nOk n m ∧ (e : Int) ≤ n then cMv n.toNat m.toNat e else 0)) ∧ H' = [] := by
  refine SF.forgetAll ?_
  have hs1 := trivial; have hs2 := trivial; have hs3 := trivial
  have hCk := pf_cMay n m
  by_cases hok : nOk n m
  · rw [decide_eq_true hok] at hCk
    obtain ⟨N, M, rfl, rfl, hN, hM⟩ := nOk_nat hok
    rw [Int.toNat_natCast, Int.toNat_natCast]
    have hV := trivial
    have hCo := trivial
    by_cases hp : e ≤ N
    · rw [if_pos ⟨hok, by omega⟩]
      have hl2 := cMv_lim hN hM hp
      (refine SF_of_bodyX (aload tt) (aload_ok tyOK) Tryz.func64 rfl (by kernel_rfl) ?_; simp only [Tryz.ntmps64, List.length_cons, List.length_nil, Nat.reduceAdd, Nat.reduceSub, List.replicate_succ, List.replicate_zero, List.cons_append, List.nil_append])
      (refine Wk.o ?_; (repeat revert hK K); refine W5462a ?_; (repeat intro K hK); refine ⟨?_⟩)
      (simp only [bodyX]; refine ⟨_, by simp only [aresults, aresult, XS.as, Tryz.results64, aload, go_sem, Option.bind_some]; rfl, ?_⟩)
      exact ⟨.iv _, rfl, trivial⟩
    · rw [if_neg fun h => hp (by omega)]
      (refine SF_of_bodyX (aload tt) (aload_ok tyOK) Tryz.func64 rfl (by kernel_rfl) ?_; simp only [Tryz.ntmps64, List.length_cons, List.length_nil, Nat.reduceAdd, Nat.reduceSub, List.replicate_succ, List.replicate_zero, List.cons_append, List.nil_append])
      (refine Wk.o ?_; (repeat revert hK K); refine W5462a ?_; (repeat intro K hK); refine ⟨?_⟩)
      (simp only [bodyX]; refine ⟨_, by simp only [aresults, aresult, XS.as, Tryz.results64, aload, go_sem, Option.bind_some]; rfl, ?_⟩)
      exact ⟨.iv _, rfl, trivial⟩
  · rw [decide_eq_false hok] at hCk
    rw [if_neg fun h => hok h.1]
    have hV := trivial
    have hCo := trivial
    (refine SF_of_bodyX (aload tt) (aload_ok tyOK) Tryz.func64 rfl (by kernel_rfl) ?_; simp only [Tryz.ntmps64, List.length_cons, List.length_nil, Nat.reduceAdd, Nat.reduceSub, List.replicate_succ, List.replicate_zero, List.cons_append, List.nil_append])
    (refine Wk.o ?_; (repeat revert hK K); refine W5462a ?_; (repeat intro K hK); refine ⟨?_⟩)
    (simp only [bodyX]; refine ⟨_, by simp only [aresults, aresult, XS.as, Tryz.results64, aload, go_sem, Option.bind_some]; rfl, ?_⟩)
    exact ⟨.iv _, rfl, trivial⟩
end Go.Proofs.YtcjnikkmjhagmaaGreatDoor
namespace Go.Proofs.YtcjnikkmjhagmaaGreatDoor
open Go.RowKit
set_option linter.unusedVariables false
set_option linter.unusedSimpArgs false
def g4 (a b c d : Int) : Nat → IV
  | 0 => .lit (.int .i64 a) | 1 => .lit (.int .i64 b) | 2 => .lit (.int .i64 c) | _ => .lit (.int .i64 d)
theorem frz_g4 {H : AHeap} {ds : List Nat} {o : Nat} {t : TypeId} {a b c d : Int} (hd : o ∈ ds) (h : H[o]? = some (some ⟨t, [lt (.int .i64 a), lt (.int .i64 b), lt (.int .i64 c), lt (.int .i64 d)]⟩)) : FrzV (onlyH ds H) (.optr o 0) (.iv (.ptr (g4 a b c d) 4)) := by
  refine .iv _ _ (.optr o 0 4 _ ⟨t, [lt (.int .i64 a), lt (.int .i64 b), lt (.int .i64 c), lt (.int .i64 d)]⟩ (fun j => .iv (g4 a b c d j)) (by decide) (only_mk hd h) (fun j hj => ?_) fun j _ => .iv _)
  rcases j with _ | _ | _ | _ | j
  · rfl
  · rfl
  · rfl
  · rfl
  · omega
def sum4 (a b c d : Int) (k : Nat) : Int := match k with | 0 => 0 | 1 => a | 2 => a + b | 3 => a + b + c | _ => a + b + c + d
theorem s4_0 (a b c d : Int) : sum4 a b c d 0 = 0 := rfl
theorem s4_1 (a b c d : Int) : sum4 a b c d 1 = a := rfl
theorem s4_2 (a b c d : Int) : sum4 a b c d 2 = a + b := rfl
theorem s4_3 (a b c d : Int) : sum4 a b c d 3 = a + b + c := rfl
theorem Wc2eaa {A B : Prop} (h9 : B) (w : B → A := by (intro h9; (repeat intro K hK); refine ⟨?_⟩; (repeat (first | (first | (with_reducible first | refine AX_block ?_ | refine AX_skip ?_ | refine AX_exit ?_ | refine AX_ret ?_ | refine AX_ift ?_ | refine AX_iff ?_ | refine AX_seq_k (fun K hK => ?_) | refine ContX.use (by assumption) ?_) | simp only [thenX, inBlockX, if_true, if_false, reduceCtorEq]) | (first | ((with_reducible refine XOP tyOK ?_); simp (disch := omega) only [go_sem , g4, s4_0, s4_1, s4_2, s4_3, Int.zero_add, Int.toNat_zero, Int.toNat_one, hs1, hs2, hs3, rows_one, rows_take, List.length_nil]; (with_reducible refine XRes_id ?_)) | (with_reducible refine XSK ?_)) | ((with_reducible refine XRes_nil ?_); refine hK _ ?_; clear hK K) | ((with_reducible refine AX_reg0 fun K hK => ?_); simp only [go_sem]) | (first | (first | refine XTL (by rfl) hCk ?_ | refine XTL (by rfl) hV ?_ | refine XTL (by rfl) hCo ?_)))); refine Wk.o ?_; (repeat revert hK K); exact h9)) : A := w h9
set_option maxRecDepth 100000 in
set_option maxHeartbeats 1000000 in
theorem pf_cSum (a b c d : Int) (ha : 0 ≤ a ∧ a ≤ 100000000) (hb : 0 ≤ b ∧ b ≤ 100000000) (hc : 0 ≤ c ∧ c ≤ 100000000) (hd : 0 ≤ d ∧ d ≤ 100000000) : PF Tryz.prog 65 [.iv (.ptr (g4 a b c d) 4)] fun r H' => r = lt (.int .i64 (a + b + c + d)) ∧ H' = [] := by
  refine SF.forgetAll ?_
  have hs1 := trivial; have hs2 := trivial; have hs3 := trivial; have hCk := trivial; have hV := trivial; have hCo := trivial
  (refine SF_of_bodyX (aload tt) (aload_ok tyOK) Tryz.func65 rfl (by kernel_rfl) ?_; simp only [Tryz.ntmps65, List.length_cons, List.length_nil, Nat.reduceAdd, Nat.reduceSub, List.replicate_succ, List.replicate_zero, List.cons_append, List.nil_append])
  (refine Wk.o ?_; (repeat revert hK K); refine Wc2eaa ?_; (repeat intro K hK); refine ⟨?_⟩)
  (refine AWH (σ := Nat) [6, 7, 3, 8, 9, 10, 11] (fun k => [(5, lint k), (1, lint (sum4 a b c d k))]) (fun k => []) (fun k => []) (fun k => k ≤ 4) (fun k => 4 - k) 0 (by first | exact by decide) ?_; rintro k d fr hfr hk; simp only [updS, deadS, List.set_cons_succ, List.set_cons_zero, lint] at hfr; subst hfr; (try dsimp only))
  have hc3 : k = 0 ∨ k = 1 ∨ k = 2 ∨ k = 3 ∨ k = 4 := by omega
  rcases hc3 with rfl | rfl | rfl | rfl | rfl
  · (refine Wk.o ?_; (repeat revert hK K); refine Wc2eaa ?_; (repeat intro K hK); refine ⟨?_⟩)
    exact WEND 1 (by decide) (by (first | omega | (dsimp only; omega) | (simp only; omega)))
  · (refine Wk.o ?_; (repeat revert hK K); refine Wc2eaa ?_; (repeat intro K hK); refine ⟨?_⟩)
    exact WEND 2 (by decide) (by (first | omega | (dsimp only; omega) | (simp only; omega)))
  · (refine Wk.o ?_; (repeat revert hK K); refine Wc2eaa ?_; (repeat intro K hK); refine ⟨?_⟩)
    exact WEND 3 (by decide) (by (first | omega | (dsimp only; omega) | (simp only; omega)))
  · (refine Wk.o ?_; (repeat revert hK K); refine Wc2eaa ?_; (repeat intro K hK); refine ⟨?_⟩)
    exact WEND 4 (by decide) (by (first | omega | (dsimp only; omega) | (simp only; omega)))
  · (refine Wk.o ?_; (repeat revert hK K); refine Wc2eaa ?_; (repeat intro K hK); refine ⟨?_⟩)
    (simp only [bodyX]; refine ⟨_, by simp only [aresults, aresult, XS.as, Tryz.results65, aload, go_sem, Option.bind_some]; rfl, ?_⟩)
    exact ⟨.iv _, rfl, trivial⟩
end Go.Proofs.YtcjnikkmjhagmaaGreatDoor
