import Derived.Test.YtcjnikkmjhagmaaGreatDoorMgBA
import Derived.Test.YtcjnikkmjhagmaaGreatDoorMgBB
namespace Go.Proofs.YtcjnikkmjhagmaaGreatDoor
open Go.RowKit
set_option linter.unusedVariables false
set_option linter.unusedSimpArgs false
def mvE (o : Ob) (x : Op5) (st : Int) : Int := if mvMay o x st = true then mvTo o x st else -1
def mvEach (o : Ob) (x : Op5) (k : Nat) : List Int := (List.range k).map fun st : Nat => mvE o x st
theorem mvEach_len (o : Ob) (x : Op5) (k : Nat) : (mvEach o x k).length = k := by unfold mvEach; simp
theorem mvEach_at {o : Ob} {x : Op5} {k st : Nat} (h : st < k) : (mvEach o x k).getD st 0 = mvE o x st := by
  unfold mvEach; rw [List.getD_eq_getElem?_getD, List.getElem?_map, List.getElem?_range h]; rfl
def mvHalf (o : Ob) (x : Op5) (n k : Nat) : List Int := (List.range n).map fun st : Nat => if st < k then mvE o x st else 0
theorem mvHalf_len (o : Ob) (x : Op5) (n k : Nat) : (mvHalf o x n k).length = n := by unfold mvHalf; simp
theorem mvHalf_zero (o : Ob) (x : Op5) (n : Nat) : mvHalf o x n 0 = List.replicate n 0 := by
  apply List.ext_getElem?
  intro i
  unfold mvHalf
  rw [List.getElem?_map, List.getElem?_replicate]
  by_cases hi : i < n
  · rw [List.getElem?_range hi, if_pos hi, Option.map_some, if_neg (by omega)]
  · rw [List.getElem?_eq_none (by simpa using hi), if_neg hi]; rfl
theorem mvHalf_set (o : Ob) (x : Op5) {n k : Nat} (h : k < n) : (mvHalf o x n k).set k (mvE o x k) = mvHalf o x n (k + 1) := by
  apply List.ext_getElem?
  intro i
  rw [List.getElem?_set, mvHalf_len]
  unfold mvHalf
  rw [List.getElem?_map, List.getElem?_map]
  by_cases hi : i < n
  · rw [List.getElem?_range hi, Option.map_some, Option.map_some]
    by_cases hk : k = i
    · subst hk; rw [if_pos rfl, if_pos h, if_pos (by omega)]
    · rw [if_neg hk]
      by_cases h1 : i < k
      · rw [if_pos h1, if_pos (by omega)]
      · rw [if_neg h1, if_neg (by omega)]
  · rw [List.getElem?_eq_none (by simpa using hi)]
    by_cases hk : k = i
    · omega
    · rw [if_neg hk]; rfl
theorem mvHalf_full (o : Ob) (x : Op5) (n : Nat) : mvHalf o x n n = mvEach o x n := by
  unfold mvHalf mvEach
  exact List.map_congr_left fun i hi => by rw [if_pos (List.mem_range.1 hi)]
set_option maxRecDepth 100000 in
set_option maxHeartbeats 1000000 in
theorem pf_each (o : Ob) (x : Op5) (n : Nat) (hr : o.R.length ≤ 100000) (hS : o.S = n) (hn : n ≤ 32) : PF Tryz.prog 80 [obA o, opA x] fun r H' => r = .iv (iInts (mvEach o x n)) ∧ H' = [] := by
  refine SF.frozen ?_
  have hs1 := trivial
  obtain ⟨S0, K0, I0, R0⟩ := o
  simp only at hS
  subst hS
  (refine SF_of_bodyX (aload tt) (aload_ok tyOK) Tryz.func80 rfl (by kernel_rfl) ?_; simp only [Tryz.ntmps80, List.length_cons, List.length_nil, Nat.reduceAdd, Nat.reduceSub, List.replicate_succ, List.replicate_zero, List.cons_append, List.nil_append])
  (repeat (first | (first | (with_reducible first | refine AX_block ?_ | refine AX_skip ?_ | refine AX_exit ?_ | refine AX_ret ?_ | refine AX_ift ?_ | refine AX_iff ?_ | refine AX_seq_k (fun K hK => ?_) | refine ContX.use (by assumption) ?_) | simp only [thenX, inBlockX, if_true, if_false, reduceCtorEq]) | (first | ((with_reducible refine XOP tyOK ?_); simp (disch := omega) only [go_sem , iOps, iFlat, hs1, rep_lintI, mvHalf_len]; (with_reducible refine XRes_id ?_)) | (with_reducible refine XSK ?_)) | ((with_reducible refine XRes_nil ?_); refine hK _ ?_; clear hK K) | ((with_reducible refine AX_reg0 fun K hK => ?_); simp only [go_sem]) | ((refine XRes_slot (by rfl) rfl (PF.tells (idsA rfl) (fun _ => rfl) (pf_tmay ⟨↑n, K0, I0, R0⟩ x _ hr)) ?_); (rintro r H' ⟨rfl, rfl⟩); (simp only [putL, List.set_cons_succ, List.set_cons_zero]))))
  rw [← mvHalf_zero ⟨↑n, K0, I0, R0⟩ x n]
  (refine AWH (σ := Nat) [18, 19, 7, 21, 22, 23, 24, 20, 25, 26, 8, 9, 27, 28, 29, 30, 31, 32, 33] (fun k => [(17, lint k)]) (fun k => [some ⟨24, [lt (.int .i64 n), lt (.int .i64 K0), lt (.int .i64 I0), .iv (iRws R0)]⟩, some ⟨56, [lt (.int .i64 x.p), lt (.int .i64 x.k), lt (.int .i64 x.s), lt (.int .i64 x.e), lt (.int .i64 x.r)]⟩, some ⟨3, (mvHalf ⟨↑n, K0, I0, R0⟩ x n k).map lint⟩]) (fun k => []) (fun k => k ≤ n) (fun k => n - k) 0 (by first | exact Nat.zero_le _) ?_; rintro k d fr hfr hk; simp only [updS, deadS, List.set_cons_succ, List.set_cons_zero, lint] at hfr; subst hfr; (try dsimp only))
  by_cases hlt : k < n
  · (repeat' (first | (first | (with_reducible first | refine AX_block ?_ | refine AX_skip ?_ | refine AX_exit ?_ | refine AX_ret ?_ | refine AX_ift ?_ | refine AX_iff ?_ | refine AX_seq_k (fun K hK => ?_) | refine ContX.use (by assumption) ?_) | simp only [thenX, inBlockX, if_true, if_false, reduceCtorEq]) | (first | ((with_reducible refine XOP tyOK ?_); simp (disch := omega) only [go_sem , iOps, iFlat, hs1, rep_lintI, mvHalf_len]; (with_reducible refine XRes_id ?_)) | (with_reducible refine XSK ?_)) | ((with_reducible refine XRes_nil ?_); refine hK _ ?_; clear hK K) | ((with_reducible refine AX_reg0 fun K hK => ?_); simp only [go_sem]) | ((refine XRes_slot (by rfl) rfl (PF.tells (idsA rfl) (fun _ => rfl) (pf_tmay ⟨↑n, K0, I0, R0⟩ x _ hr)) ?_); (rintro r H' ⟨rfl, rfl⟩); (simp only [putL, List.set_cons_succ, List.set_cons_zero])) | ((refine XRes_splitG (by rfl) (fun hc => ?_) (fun hc => ?_)) <;> (try simp only [eqRes, List.cons_beq_cons, Bool.and_eq_true, Bool.not_eq_true, Bool.and_eq_false_iff, decide_eq_true_eq, decide_eq_false_iff_not, bne_iff_ne, beq_iff_eq, bne_eq_false_iff_eq, beq_eq_false_iff_ne, Bool.not_eq_true', Bool.not_eq_false', ne_eq, Int.not_lt, Int.not_le, Decidable.not_not] at hc) <;> simp only [List.set_cons_succ, List.set_cons_zero]) | (first | ((with_reducible refine AX_if_t ?_ ?_); focus (simp (disch := omega) only [go_sem , iOps, iFlat, hs1, rep_lintI, mvHalf_len]; done)) | ((with_reducible refine AX_if_f ?_ ?_); focus (simp (disch := omega) only [go_sem , iOps, iFlat, hs1, rep_lintI, mvHalf_len]; done)) | (refine AX_cond _ (by rfl) (fun hc => ?_) (fun hc => ?_) <;> (try simp only [eqRes, List.cons_beq_cons, Bool.and_eq_true, Bool.not_eq_true, Bool.and_eq_false_iff, decide_eq_true_eq, decide_eq_false_iff_not, bne_iff_ne, beq_iff_eq, bne_eq_false_iff_eq, beq_eq_false_iff_ne, Bool.not_eq_true', Bool.not_eq_false', ne_eq, Int.not_lt, Int.not_le, Decidable.not_not] at hc)))))
    · have e : mvHalf ⟨↑n, K0, I0, R0⟩ x n (k + 1) = (mvHalf ⟨↑n, K0, I0, R0⟩ x n k).set k (-1) := by rw [← mvHalf_set _ _ hlt]; unfold mvE; rw [if_neg (by rw [hc]; decide)]
      exact whx_ren [0, 1, 2] (k + 1) (by omega) (by (first | omega | (dsimp only; omega) | (simp only; omega))) rfl (by decide) (by decide) (by (simp (disch := omega) only [go_sem, lint])) (by (simp (disch := omega) only [go_sem, lint])) (by simp only [e]; (simp (disch := omega) only [go_sem, lint])) (fun d => by (simp (disch := omega) only [go_sem, lint]))
    · have e : mvHalf ⟨↑n, K0, I0, R0⟩ x n (k + 1) = (mvHalf ⟨↑n, K0, I0, R0⟩ x n k).set k (mvTo ⟨↑n, K0, I0, R0⟩ x k) := by rw [← mvHalf_set _ _ hlt]; unfold mvE; rw [if_pos hc]
      exact whx_ren [0, 1, 2] (k + 1) (by omega) (by (first | omega | (dsimp only; omega) | (simp only; omega))) rfl (by decide) (by decide) (by (simp (disch := omega) only [go_sem, lint])) (by (simp (disch := omega) only [go_sem, lint])) (by simp only [e]; (simp (disch := omega) only [go_sem, lint])) (fun d => by (simp (disch := omega) only [go_sem, lint]))
  · have hkk : k = n := by omega
    subst hkk
    rw [mvHalf_full]
    (repeat' (first | (first | (with_reducible first | refine AX_block ?_ | refine AX_skip ?_ | refine AX_exit ?_ | refine AX_ret ?_ | refine AX_ift ?_ | refine AX_iff ?_ | refine AX_seq_k (fun K hK => ?_) | refine ContX.use (by assumption) ?_) | simp only [thenX, inBlockX, if_true, if_false, reduceCtorEq]) | (first | ((with_reducible refine XOP tyOK ?_); simp (disch := omega) only [go_sem , iOps, iFlat, hs1, rep_lintI, mvHalf_len]; (with_reducible refine XRes_id ?_)) | (with_reducible refine XSK ?_)) | ((with_reducible refine XRes_nil ?_); refine hK _ ?_; clear hK K) | ((with_reducible refine AX_reg0 fun K hK => ?_); simp only [go_sem]) | ((refine XRes_slot (by rfl) rfl (PF.tells (idsA rfl) (fun _ => rfl) (pf_tmay ⟨↑n, K0, I0, R0⟩ x _ hr)) ?_); (rintro r H' ⟨rfl, rfl⟩); (simp only [putL, List.set_cons_succ, List.set_cons_zero])) | ((refine XRes_splitG (by rfl) (fun hc => ?_) (fun hc => ?_)) <;> (try simp only [eqRes, List.cons_beq_cons, Bool.and_eq_true, Bool.not_eq_true, Bool.and_eq_false_iff, decide_eq_true_eq, decide_eq_false_iff_not, bne_iff_ne, beq_iff_eq, bne_eq_false_iff_eq, beq_eq_false_iff_ne, Bool.not_eq_true', Bool.not_eq_false', ne_eq, Int.not_lt, Int.not_le, Decidable.not_not] at hc) <;> simp only [List.set_cons_succ, List.set_cons_zero]) | (first | ((with_reducible refine AX_if_t ?_ ?_); focus (simp (disch := omega) only [go_sem , iOps, iFlat, hs1, rep_lintI, mvHalf_len]; done)) | ((with_reducible refine AX_if_f ?_ ?_); focus (simp (disch := omega) only [go_sem , iOps, iFlat, hs1, rep_lintI, mvHalf_len]; done)) | (refine AX_cond _ (by rfl) (fun hc => ?_) (fun hc => ?_) <;> (try simp only [eqRes, List.cons_beq_cons, Bool.and_eq_true, Bool.not_eq_true, Bool.and_eq_false_iff, decide_eq_true_eq, decide_eq_false_iff_not, bne_iff_ne, beq_iff_eq, bne_eq_false_iff_eq, beq_eq_false_iff_ne, Bool.not_eq_true', Bool.not_eq_false', ne_eq, Int.not_lt, Int.not_le, Decidable.not_not] at hc)))))
    (simp only [bodyX]; refine ⟨_, by simp only [aresults, aresult, XS.as, Tryz.results80, aload, go_sem, Option.bind_some]; rfl, ?_⟩)
    exact ⟨_, snap_ints rfl (mvEach_len _ _ _).symm, rfl, trivial⟩
end Go.Proofs.YtcjnikkmjhagmaaGreatDoor
namespace Go.Proofs.YtcjnikkmjhagmaaGreatDoor
open Go.RowKit
set_option linter.unusedVariables false
set_option linter.unusedSimpArgs false
theorem nVar_lim (o s k a b : Int) : 0 ≤ nVar o s k a b ∧ nVar o s k a b ≤ 100000 := by
  by_cases h : nName o s k a b
  · have h1 := nVar_bd h
    have h2 := nAhead_bd h.1 k
    have h3 := nAhead_bd h.1 (k + 1)
    omega
  · unfold nVar; rw [if_neg h]; omega
def mA (o : Ob) (l : List Op5) (i p b : Nat) : List (List Int) :=
  [[-(nVar l.length o.S 1 i p), -(nVar l.length o.S 2 i 0), -(nVar l.length o.S 3 p b)] ++ (if 0 ≤ mvE o (oAt l i) b then [nVar l.length o.S 3 (p + 1 : Nat) (mvE o (oAt l i) b)] else [])] ++
  (if (oAt l i).e = -1 then [[-(nVar l.length o.S 1 i p), nVar l.length o.S 2 i 0, -(nVar l.length o.S 3 p b), nVar l.length o.S 3 (p + 1 : Nat) b]] else [])
def mB (o : Ob) (l : List Op5) (i p : Nat) (k : Nat) : List (List Int) := (List.range k).flatMap fun b => mA o l i p b
def mP (o : Ob) (l : List Op5) (i : Nat) (k : Nat) : List (List Int) := (List.range k).flatMap fun p => mB o l i p o.S.toNat
def mI (o : Ob) (l : List Op5) (i : Nat) : List (List Int) := (if (oAt l i).e = -1 then [] else [[nVar l.length o.S 2 i 0]]) ++ mP o l i l.length
def mCl (o : Ob) (l : List Op5) (k : Nat) : List (List Int) := (List.range k).flatMap fun i => mI o l i
theorem mB_succ (o : Ob) (l : List Op5) (i p k : Nat) : mB o l i p (k + 1) = mB o l i p k ++ mA o l i p k := by unfold mB; rw [List.range_succ, List.flatMap_append]; simp
theorem mP_succ (o : Ob) (l : List Op5) (i k : Nat) : mP o l i (k + 1) = mP o l i k ++ mB o l i k o.S.toNat := by unfold mP; rw [List.range_succ, List.flatMap_append]; simp
theorem mCl_succ (o : Ob) (l : List Op5) (k : Nat) : mCl o l (k + 1) = mCl o l k ++ mI o l k := by unfold mCl; rw [List.range_succ, List.flatMap_append]; simp
abbrev rowA (r : List Int) : AV := .iv (iInts r)
theorem rows_one (R : List (List Int)) : (R.map rowA).all AV.one = true := by rw [List.all_map, List.all_eq_true]; exact fun _ _ => rfl
theorem rows_rn (r : Nat → Nat) (R : List (List Int)) : rnL r (R.map rowA) = R.map rowA := by rw [rnL_map, List.map_map]; rfl
theorem rows_id (p : Nat → Bool) (R : List (List Int)) : idL p (R.map rowA) = true := by rw [idL_all, List.all_map, List.all_eq_true]; exact fun _ _ => rfl
theorem rows_take {R : List (List Int)} {n : Nat} (h : R.length ≤ n) : (R.map rowA).take n = R.map rowA := List.take_of_length_le (by simpa using h)
set_option maxRecDepth 100000 in
set_option maxHeartbeats 1000000 in
theorem sf_name (n m k a b : Int) (H : AHeap) (h1 : H[1]? = some (some ⟨51, [lt (.int .i64 n), lt (.int .i64 m)]⟩)) : SF Tryz.prog 78 [lt (.int .i64 k), lt (.int .i64 a), lt (.int .i64 b), .optr 1 0] H fun r H' => r = lt (.int .i64 (nVar n m k a b)) ∧ H' = H := by
  (refine SF_of_bodyX (aload tt) (aload_ok tyOK) Tryz.func78 rfl (by kernel_rfl) ?_; simp only [Tryz.ntmps78, List.length_cons, List.length_nil, Nat.reduceAdd, Nat.reduceSub, List.replicate_succ, List.replicate_zero, List.cons_append, List.nil_append])
  (repeat' (first | (first | (with_reducible first | refine AX_block ?_ | refine AX_skip ?_ | refine AX_exit ?_ | refine AX_ret ?_ | refine AX_ift ?_ | refine AX_iff ?_ | refine AX_seq_k (fun K hK => ?_) | refine ContX.use (by assumption) ?_) | simp only [thenX, inBlockX, if_true, if_false, reduceCtorEq]) | (first | ((first | (with_reducible refine XRes_op tyOK ?_ ?_) | ((with_reducible first | refine ADF_op tyOK ?_ ?_ ?_ | refine ADX_op tyOK ?_ ?_ ?_); (focus rfl)) | (with_reducible refine ADR_alloc1 tyOK ?_ ?_) | ((with_reducible refine ADR_free1 tyOK ?_ ?_ ?_); (focus rfl)) | ((with_reducible refine ADR_free0 tyOK ?_ ?_ ?_); (focus rfl)) | ((with_reducible refine ADR_read1 tyOK ?_ ?_ ?_); (focus rfl)) | (with_reducible refine ADR_chg1 tyOK ?_ ?_)); (focus (first | (with_reducible rfl) | ((simp (disch := omega) only [go_sem]); done))); simp (disch := omega) only [go_sem , h1]; (first | (with_reducible refine XRes_id ?_) | (with_reducible refine ADF_id ?_) | (with_reducible refine ADR_id1 ?_) | (with_reducible refine ADX_id ?_))) | ((first | (with_reducible refine XRes_skip ?_ ?_) | (with_reducible refine ADF_skip (b := true) ?_ ?_) | (with_reducible refine ADX_skip ?_ ?_) | ((with_reducible refine ADR_skip1 ?_ ?_ ?_); (focus rfl))); (focus (first | rfl | ((simp (disch := omega) only [go_sem]); done))); (simp only [putL, List.set_cons_succ, List.set_cons_zero]))) | ((first | (with_reducible refine XRes_nil ?_) | (with_reducible refine ADF_nil ?_) | (with_reducible refine ADR_nil ?_) | (with_reducible refine ADX_nil ?_)); (first | refine hK _ ?_ | refine hK _ _ ?_); clear hK K) | ((first | (with_reducible refine AX_reg0 fun K hK => ?_) | (refine AX_drawG1 tyOK (by kernel_rfl) (by rfl) (by kernel_rfl) fun K hK => ?_) | (refine AX_drawT tyOK (by kernel_rfl) (by decide +kernel) fun K hK => ?_) | (refine AX_drawM1 (by kernel_rfl) (by rfl) (by decide +kernel) fun K hK => ?_) | (refine AX_drawA tyOK (by kernel_rfl) (by decide +kernel) fun K hK => ?_)); (first | simp only [go_sem, preN, effOp, runF, alM, mapOp, alD2, kdOf2, Bool.not_false, Bool.not_true, reduceCtorEq] | simp only [go_sem, preN, effOp, runF, alM, mapOp, Bool.not_false, Bool.not_true, reduceCtorEq] | simp only [go_sem, preN, effOp, runF, alD2, kdOf2, Bool.not_false, Bool.not_true, reduceCtorEq] | simp only [go_sem, alD2, kdOf2, Bool.not_false, Bool.not_true, reduceCtorEq] | simp only [go_sem, preN, effOp, runF, Bool.not_false, Bool.not_true, reduceCtorEq] | simp only [go_sem])) | (first | refine XTL (by rfl) (pf_nVar _ _ _ _ _) ?_ | refine ATL tyOK (by rfl) (pf_nVar _ _ _ _ _) ?_) | ((first | (refine XRes_splitG (by rfl) (fun hc => ?_) (fun hc => ?_)) | (refine ADF_splitG (by rfl) (fun hc => ?_) (fun hc => ?_))) <;> (try simp only [eqRes, List.cons_beq_cons, Bool.and_eq_true, Bool.not_eq_true, Bool.and_eq_false_iff, decide_eq_true_eq, decide_eq_false_iff_not, bne_iff_ne, beq_iff_eq, bne_eq_false_iff_eq, beq_eq_false_iff_ne, Bool.not_eq_true', Bool.not_eq_false', ne_eq, Int.not_lt, Int.not_le, Decidable.not_not] at hc) <;> simp only [List.set_cons_succ, List.set_cons_zero]) | (first | ((with_reducible refine AX_if_t ?_ ?_); focus (simp (disch := omega) only [go_sem , h1]; done)) | ((with_reducible refine AX_if_f ?_ ?_); focus (simp (disch := omega) only [go_sem , h1]; done)) | (refine AX_cond _ (by rfl) (fun hc => ?_) (fun hc => ?_) <;> (try simp only [eqRes, List.cons_beq_cons, Bool.and_eq_true, Bool.not_eq_true, Bool.and_eq_false_iff, decide_eq_true_eq, decide_eq_false_iff_not, bne_iff_ne, beq_iff_eq, bne_eq_false_iff_eq, beq_eq_false_iff_ne, Bool.not_eq_true', Bool.not_eq_false', ne_eq, Int.not_lt, Int.not_le, Decidable.not_not] at hc)))))
  (simp only [bodyX]; refine ⟨_, by simp only [aresults, aresult, XS.as, Tryz.results78, aload, go_sem, Option.bind_some]; rfl, ?_⟩)
  exact ⟨rfl, by first | trivial | rfl⟩
end Go.Proofs.YtcjnikkmjhagmaaGreatDoor
namespace Go.Proofs.YtcjnikkmjhagmaaGreatDoor
open Go.RowKit
set_option linter.unusedVariables false
set_option linter.unusedSimpArgs false
theorem m_nOk {o : Ob} {l : List Op5} (h : nOk (mN o l) (mS o l)) : mOk o l ∧ l.length ≤ 64 ∧ 1 ≤ o.S ∧ o.S ≤ 32 := by
  by_cases hm : mOk o l
  · rw [(m_yes hm).1, (m_yes hm).2] at h
    unfold nOk at h
    exact ⟨hm, by omega, by omega, by omega⟩
  · rw [(m_no hm).1, (m_no hm).2] at h
    unfold nOk at h
    omega
def mRes (o : Ob) (l : List Op5) : List (List Int) := if nOk (mN o l) (mS o l) then mCl o l l.length else []
theorem at24 {P : Program} {m : Nat} {Q : Exit → XS → Prop} {s : XS} {ops : Array Oper} {d : Bool} (h : AX P m (.region 24 ops d) Q s) : AX P m (.region 24 ops d) Q s := h
theorem xs_set {P : XS → Prop} {fr : List AV} {H : AHeap} {M : MS} (k : Nat) (t : TypeId) (cs cs' : List AV) (hk : H[k]? = some (some ⟨t, cs⟩)) (hc : cs = cs') (h : P ⟨fr, H.set k (some ⟨t, cs'⟩), M⟩) : P ⟨fr, H, M⟩ := by
  have : H.set k (some ⟨t, cs'⟩) = H := by
    rw [← hc]
    apply List.ext_getElem?
    intro j
    rw [List.getElem?_set]
    by_cases hj : k = j
    · subst hj
      obtain ⟨hlt, hv⟩ := List.getElem?_eq_some_iff.1 hk
      rw [if_pos rfl, if_pos hlt, hk]
    · rw [if_neg hj]
  rw [this] at h
  exact h
theorem snap_rws {H : AHeap} {o n : Nat} {t : TypeId} {R : List (List Int)} (h : H[o]? = some (some ⟨t, R.map rowA⟩)) (hn : n = R.length) : Snap H (.osl o 0 n 1) (.iv (iRows R)) := by
  subst hn
  exact .iv _ _ (.osl o 0 R.length 1 _ _ (fun j => rowA (R.getD j [])) (by decide) h (fun j hj => by
    rw [Nat.zero_add]; show (R.map rowA)[j]? = _
    rw [List.getElem?_map, List.getElem?_eq_getElem (by omega)]; simp only [Option.map_some, List.getD_eq_getElem?_getD, List.getElem?_eq_getElem (show j < R.length by omega), Option.getD_some]) fun j _ => .iv _)
theorem W82cfa {A B : Prop} (h9 : B) (w : B → A := by (intro h9; (repeat intro K hK); refine ⟨?_⟩; (repeat (first | (first | (with_reducible first | refine AX_block ?_ | refine AX_skip ?_ | refine AX_exit ?_ | refine AX_ret ?_ | refine AX_ift ?_ | refine AX_iff ?_ | refine AX_seq_k (fun K hK => ?_) | refine ContX.use (by assumption) ?_) | simp only [thenX, inBlockX, if_true, if_false, reduceCtorEq]) | (first | ((with_reducible refine XOP tyOK ?_); simp (disch := omega) only [go_sem , iOps, iFlat, iInts, hs1, hs2, hs3, mvEach_len, flatO_p, flatO_k, flatO_s, flatO_e, flatO_r, rows_one, rows_take, List.length_nil]; (with_reducible refine XRes_id ?_)) | (with_reducible refine XSK ?_)) | ((with_reducible refine XRes_nil ?_); refine hK _ ?_; clear hK K) | ((with_reducible refine AX_reg0 fun K hK => ?_); simp only [go_sem]) | (first | (first | refine XTL (by rfl) hZ ?_ | refine XTL (by rfl) (pf_nCheck _ _) ?_ | refine XTL (by rfl) (pf_pending _) ?_ | refine XTL (by rfl) hE ?_) | ((refine XRes_slot (by rfl) rfl (sf_name _ _ _ _ _ _ rfl) ?_); (rintro r H' ⟨rfl, rfl⟩); (simp only [putL, List.set_cons_succ, List.set_cons_zero]))))); refine Wk.o ?_; (repeat revert hK K); exact h9)) : A := w h9
theorem W82cfb {A B : Prop} (h9 : B) (w : B → A := by (intro h9; (repeat intro K hK); refine ⟨?_⟩; (repeat (first | (first | (with_reducible first | refine AX_block ?_ | refine AX_skip ?_ | refine AX_exit ?_ | refine AX_ret ?_ | refine AX_ift ?_ | refine AX_iff ?_ | refine AX_seq_k (fun K hK => ?_) | refine ContX.use (by assumption) ?_) | simp only [thenX, inBlockX, if_true, if_false, reduceCtorEq]) | (first | ((with_reducible refine XOP tyOK ?_); simp (disch := omega) only [go_sem , iOps, iFlat, iInts, hs1, hs2, hs3, mvEach_len, flatO_p, flatO_k, flatO_s, flatO_e, flatO_r, rows_one, rows_take, List.length_nil]; (with_reducible refine XRes_id ?_)) | (with_reducible refine XSK ?_)) | ((with_reducible refine XRes_nil ?_); refine hK _ ?_; clear hK K) | ((fail_if_success (with_reducible refine at24 ?_)); ((with_reducible refine AX_reg0 fun K hK => ?_); simp only [go_sem])) | (first | (first | refine XTL (by rfl) hZ ?_ | refine XTL (by rfl) (pf_nCheck _ _) ?_ | refine XTL (by rfl) (pf_pending _) ?_ | refine XTL (by rfl) hE ?_) | ((refine XRes_slot (by rfl) rfl (sf_name _ _ _ _ _ _ rfl) ?_); (rintro r H' ⟨rfl, rfl⟩); (simp only [putL, List.set_cons_succ, List.set_cons_zero]))))); refine Wk.o ?_; (repeat revert hK K); exact h9)) : A := w h9
theorem W82cfc {A B : Prop} (h9 : B) (w : B → A := by (intro h9; (repeat intro K hK); refine ⟨?_⟩; (repeat (first | (first | (with_reducible first | refine AX_block ?_ | refine AX_skip ?_ | refine AX_exit ?_ | refine AX_ret ?_ | refine AX_ift ?_ | refine AX_iff ?_ | refine AX_seq_k (fun K hK => ?_) | refine ContX.use (by assumption) ?_) | simp only [thenX, inBlockX, if_true, if_false, reduceCtorEq]) | ((refine XRes_litF tyOK (by rfl) rfl (by decide) rfl rfl ?_); (simp only [List.map_cons, List.map_nil, intOf, putL, List.set_cons_succ, List.set_cons_zero])) | (first | ((with_reducible refine XOP tyOK ?_); simp (disch := omega) only [go_sem , iOps, iFlat, iInts, hs1, hs2, hs3, mvEach_len, flatO_p, flatO_k, flatO_s, flatO_e, flatO_r, rows_one, rows_take, List.length_nil]; (with_reducible refine XRes_id ?_)) | (with_reducible refine XSK ?_)) | ((with_reducible refine XRes_nil ?_); refine hK _ ?_; clear hK K) | ((with_reducible refine AX_reg0 fun K hK => ?_); simp only [go_sem]) | (first | (first | refine XTL (by rfl) hZ ?_ | refine XTL (by rfl) (pf_nCheck _ _) ?_ | refine XTL (by rfl) (pf_pending _) ?_ | refine XTL (by rfl) hE ?_) | ((refine XRes_slot (by rfl) rfl (sf_name _ _ _ _ _ _ rfl) ?_); (rintro r H' ⟨rfl, rfl⟩); (simp only [putL, List.set_cons_succ, List.set_cons_zero]))))); refine Wk.o ?_; (repeat revert hK K); exact h9)) : A := w h9
set_option maxRecDepth 100000 in
set_option maxHeartbeats 8000000 in
theorem pf_mClauses (o : Ob) (l : List Op5) (hr : o.R.length ≤ 100000) (ho : o.Ok) (hl : l.length ≤ 100000) (hs : okS l) : PF Tryz.prog 29 [obA o, .iv (iOps l)] fun r H' => r = .iv (iRows (mRes o l)) ∧ H' = [] := by
  refine SF.frozen ?_
  have hs1 := trivial; have hs2 := trivial; have hs3 := trivial
  have hZ := pf_mSize o l hr ho hl hs
  by_cases hok : nOk (mN o l) (mS o l)
  · obtain ⟨hm, hln, hS1, hS2⟩ := m_nOk hok
    have hch := nCheck_yes hok
    rw [(m_yes hm).1, (m_yes hm).2] at hZ
    rw [(m_yes hm).1, (m_yes hm).2] at hch
    have hres : mRes o l = mCl o l l.length := by unfold mRes; rw [if_pos hok]
    rw [hres]
    have hE := fun x => pf_each o x o.S.toNat hr (by omega) (by omega)
    clear hres hok hm
    obtain ⟨S0, K0, I0, R0⟩ := o
    simp only at hS1 hS2
    obtain ⟨m, rfl⟩ : ∃ m : Nat, S0 = m := ⟨S0.toNat, by omega⟩
    simp only [Int.toNat_natCast] at hE
    (refine SF_of_bodyX (aload tt) (aload_ok tyOK) Tryz.func29 rfl (by kernel_rfl) ?_; simp only [Tryz.ntmps29, List.length_cons, List.length_nil, Nat.reduceAdd, Nat.reduceSub, List.replicate_succ, List.replicate_zero, List.cons_append, List.nil_append])
    unfold iOps iFlat
    have hs1 := hch
    (refine Wk.o ?_; (repeat revert hK K); refine W82cfa ?_; (repeat intro K hK); refine ⟨?_⟩)
    have hvl := nVar_lim l.length m
    refine AX_nil 7 57 1 rfl ?_
    (refine AWH (σ := Nat × List (List Int)) [28, 29, 30, 31, 9, 8, 32, 33, 34, 10, 35, 36, 37, 38, 39, 40, 41, 42, 43, 44, 45, 11, 46, 47, 48, 49, 50, 12, 51, 52, 53, 54, 13, 55, 56, 57, 58, 59, 60, 61, 14, 15, 62, 63, 64, 65, 16, 66, 67, 68, 69, 70, 71, 72, 17, 73, 74, 75, 76, 77, 78, 79, 80, 81, 82, 83, 84, 85, 86, 87, 88, 89, 90, 91, 92, 93, 94, 95, 96, 97, 98, 99, 100, 101, 102, 103, 104, 105] (fun (i, R) => [(27, lint i), (7, .osl 2 0 R.length 1)]) (fun (i, R) => [some ⟨24, [lt (.int .i64 m), lt (.int .i64 K0), lt (.int .i64 I0), .iv (iRws R0)]⟩, some ⟨51, [lt (.int .i64 l.length), lt (.int .i64 m)]⟩, some ⟨57, R.map rowA⟩]) (fun (i, R) => []) (fun (i, R) => i ≤ l.length ∧ R = mCl ⟨↑m, K0, I0, R0⟩ l i ∧ R.length ≤ 5000 * i) (fun (i, R) => l.length - i) (0, []) (by first | exact ⟨Nat.zero_le _, rfl, Nat.le_refl _⟩) ?_; rintro ⟨i, R⟩ d fr hfr ⟨hi, hR, hRl⟩; simp only [updS, deadS, List.set_cons_succ, List.set_cons_zero, lint] at hfr; subst hfr; (try dsimp only))
    by_cases hlt : i < l.length
    · have hE := hE (oAt l i)
      have hin := hvl 2 i 0
      by_cases he : (oAt l i).e = -1
      · (refine Wk.o ?_; (repeat revert hK K); refine W82cfa ?_; (repeat intro K hK); refine ⟨?_⟩)
        (refine AWH (σ := Nat × List (List Int)) [49, 50, 12, 51, 52, 53, 54, 13, 55, 56, 57, 58, 59, 60, 61, 14, 15, 62, 63, 64, 65, 16, 66, 67, 68, 69, 70, 71, 72, 17, 73, 74, 75, 76, 77, 78, 79, 80, 81, 82, 83, 84, 85, 86, 87, 88, 89, 90, 91, 92, 93, 94, 95, 96, 97, 98, 99, 100, 101, 102, 103, 104] (fun (p, R1) => [(48, lint p), (7, .osl 2 0 R1.length 1)]) (fun (p, R1) => [some ⟨24, [lt (.int .i64 m), lt (.int .i64 K0), lt (.int .i64 I0), .iv (iRws R0)]⟩, some ⟨51, [lt (.int .i64 l.length), lt (.int .i64 m)]⟩, some ⟨57, R1.map rowA⟩, some ⟨56, [lt (.int .i64 (oAt l i).p), lt (.int .i64 (oAt l i).k), lt (.int .i64 (oAt l i).s), lt (.int .i64 (oAt l i).e), lt (.int .i64 (oAt l i).r)]⟩]) (fun (p, R1) => []) (fun (p, R1) => p ≤ l.length ∧ R1 = R ++ mP ⟨↑m, K0, I0, R0⟩ l i p ∧ R1.length ≤ R.length + 64 * p) (fun (p, R1) => l.length - p) (0, R) (by first | exact ⟨Nat.zero_le _, by simp [mP], by omega⟩) ?_; rintro ⟨p, R1⟩ d fr hfr ⟨hp, hR1, hR1l⟩; simp only [updS, deadS, List.set_cons_succ, List.set_cons_zero, lint] at hfr; subst hfr; (try dsimp only))
        by_cases hlp : p < l.length
        · have hpl := hvl 1 i p
          (refine Wk.o ?_; (repeat revert hK K); refine W82cfa ?_; (repeat intro K hK); refine ⟨?_⟩)
          (refine AWH (σ := Nat × List (List Int)) [58, 59, 60, 61, 14, 15, 62, 63, 64, 65, 16, 66, 67, 68, 69, 70, 71, 72, 17, 73, 74, 75, 76, 77, 78, 79, 80, 81, 82, 83, 84, 85, 86, 87, 88, 89, 90, 91, 92, 93, 94, 95, 96, 97, 98, 99, 100, 101, 102, 103] (fun (b, R2) => [(57, lint b), (7, .osl 2 0 R2.length 1)]) (fun (b, R2) => [some ⟨24, [lt (.int .i64 m), lt (.int .i64 K0), lt (.int .i64 I0), .iv (iRws R0)]⟩, some ⟨51, [lt (.int .i64 l.length), lt (.int .i64 m)]⟩, some ⟨57, R2.map rowA⟩, some ⟨56, [lt (.int .i64 (oAt l i).p), lt (.int .i64 (oAt l i).k), lt (.int .i64 (oAt l i).s), lt (.int .i64 (oAt l i).e), lt (.int .i64 (oAt l i).r)]⟩]) (fun (b, R2) => []) (fun (b, R2) => b ≤ m ∧ R2 = R1 ++ mB ⟨↑m, K0, I0, R0⟩ l i p b ∧ R2.length ≤ R1.length + 2 * b) (fun (b, R2) => m - b) (0, R1) (by first | exact ⟨Nat.zero_le _, by simp [mB], by omega⟩) ?_; rintro ⟨b, R2⟩ d fr hfr ⟨hb, hR2, hR2l⟩; simp only [updS, deadS, List.set_cons_succ, List.set_cons_zero, lint] at hfr; subst hfr; (try dsimp only))
          by_cases hlb : b < m
          · have hst := hvl 3 p b
            have hst2 := hvl 3 (p + 1 : Nat) b
            have hst3 := hvl 3 (p + 1 : Nat) (mvE ⟨↑m, K0, I0, R0⟩ (oAt l i) b)
            have hs2 := mvEach_at (o := ⟨↑m, K0, I0, R0⟩) (x := oAt l i) hlb
            generalize hnx : mvE ⟨↑m, K0, I0, R0⟩ (oAt l i) b = nx at *
            by_cases hn0 : 0 ≤ nx
            · (refine Wk.o ?_; (repeat revert hK K); refine W82cfb ?_; (repeat intro K hK); refine ⟨?_⟩)
              refine AX_freeze [6] [(17, .iv (iInts [-(nVar l.length m 1 i p), -(nVar l.length m 2 i 0), -(nVar l.length m 3 p b), nVar l.length m 3 (p + 1 : Nat) nx]))] (fun q hq => ?_) ?_
              · rw [List.mem_singleton.1 hq]; refine frz_ints (t := 3) (only_mk (ds := [6]) (by decide) ?_) rfl; rfl
              simp only [setN, updS, List.set_cons_succ, List.set_cons_zero, iInts]
              (refine Wk.o ?_; (repeat revert hK K); refine W82cfc ?_; (repeat intro K hK); refine ⟨?_⟩)
              (first | ((with_reducible refine AX_if_t ?_ ?_); focus (simp (disch := omega) only [go_sem , iOps, iFlat, iInts, hs1, hs2, hs3, mvEach_len, flatO_p, flatO_k, flatO_s, flatO_e, flatO_r, rows_one, rows_take, List.length_nil]; done)) | ((with_reducible refine AX_if_f ?_ ?_); focus (simp (disch := omega) only [go_sem , iOps, iFlat, iInts, hs1, hs2, hs3, mvEach_len, flatO_p, flatO_k, flatO_s, flatO_e, flatO_r, rows_one, rows_take, List.length_nil]; done)) | (refine AX_cond _ (by rfl) (fun hc => ?_) (fun hc => ?_) <;> (try simp only [eqRes, List.cons_beq_cons, Bool.and_eq_true, Bool.not_eq_true, Bool.and_eq_false_iff, decide_eq_true_eq, decide_eq_false_iff_not, bne_iff_ne, beq_iff_eq, bne_eq_false_iff_eq, beq_eq_false_iff_ne, Bool.not_eq_true', Bool.not_eq_false', ne_eq, Int.not_lt, Int.not_le, Decidable.not_not] at hc)))
              (refine Wk.o ?_; (repeat revert hK K); refine W82cfc ?_; (repeat intro K hK); refine ⟨?_⟩)
              obtain ⟨R3, hR3⟩ : ∃ R3, R3 = R2 ++ mA ⟨↑m, K0, I0, R0⟩ l i p b := ⟨_, rfl⟩
              have hA : mA ⟨↑m, K0, I0, R0⟩ l i p b = [[-(nVar l.length m 1 i p), -(nVar l.length m 2 i 0), -(nVar l.length m 3 p b), nVar l.length m 3 (p + 1 : Nat) nx], [-(nVar l.length m 1 i p), nVar l.length m 2 i 0, -(nVar l.length m 3 p b), nVar l.length m 3 (p + 1 : Nat) b]] := by
                unfold mA; rw [hnx, if_pos hn0, if_pos he]; rfl
              have hlen : R3.length = R2.length + 1 + 1 := by rw [hR3, hA, List.length_append]; rfl
              refine xs_set (P := WhX _ _ _ _ _ _ _ _ _) 10 57 _ (R3.map rowA) rfl ?_ ?_
              · rw [List.take_of_length_le (by simp), hR3, hA, List.map_append, List.append_assoc]; rfl
              simp only [List.set_cons_succ, List.set_cons_zero]
              exact whx_ren [0, 1, 10, 3] (b + 1, R3) ⟨by omega, by rw [hR3, hR2, mB_succ, List.append_assoc], by show R3.length ≤ _; omega⟩ (by (first | omega | (dsimp only; omega) | (simp only; omega))) rfl (by decide) (by decide) (by (simp (disch := omega) only [go_sem, lint, rows_rn, rows_id, rows_one])) (by (simp (disch := omega) only [go_sem, lint, rows_rn, rows_id, rows_one])) (by (simp (disch := omega) only [go_sem, lint, rows_rn, rows_id, rows_one])) (fun d => by simp (disch := omega) only [go_sem, lint, rows_rn, rows_id, rows_one, hlen])
            · (refine Wk.o ?_; (repeat revert hK K); refine W82cfc ?_; (repeat intro K hK); refine ⟨?_⟩)
              (first | ((with_reducible refine AX_if_t ?_ ?_); focus (simp (disch := omega) only [go_sem , iOps, iFlat, iInts, hs1, hs2, hs3, mvEach_len, flatO_p, flatO_k, flatO_s, flatO_e, flatO_r, rows_one, rows_take, List.length_nil]; done)) | ((with_reducible refine AX_if_f ?_ ?_); focus (simp (disch := omega) only [go_sem , iOps, iFlat, iInts, hs1, hs2, hs3, mvEach_len, flatO_p, flatO_k, flatO_s, flatO_e, flatO_r, rows_one, rows_take, List.length_nil]; done)) | (refine AX_cond _ (by rfl) (fun hc => ?_) (fun hc => ?_) <;> (try simp only [eqRes, List.cons_beq_cons, Bool.and_eq_true, Bool.not_eq_true, Bool.and_eq_false_iff, decide_eq_true_eq, decide_eq_false_iff_not, bne_iff_ne, beq_iff_eq, bne_eq_false_iff_eq, beq_eq_false_iff_ne, Bool.not_eq_true', Bool.not_eq_false', ne_eq, Int.not_lt, Int.not_le, Decidable.not_not] at hc)))
              (refine Wk.o ?_; (repeat revert hK K); refine W82cfc ?_; (repeat intro K hK); refine ⟨?_⟩)
              obtain ⟨R3, hR3⟩ : ∃ R3, R3 = R2 ++ mA ⟨↑m, K0, I0, R0⟩ l i p b := ⟨_, rfl⟩
              have hA : mA ⟨↑m, K0, I0, R0⟩ l i p b = [[-(nVar l.length m 1 i p), -(nVar l.length m 2 i 0), -(nVar l.length m 3 p b)], [-(nVar l.length m 1 i p), nVar l.length m 2 i 0, -(nVar l.length m 3 p b), nVar l.length m 3 (p + 1 : Nat) b]] := by
                unfold mA; rw [hnx, if_neg hn0, if_pos he]; rfl
              have hlen : R3.length = R2.length + 1 + 1 := by rw [hR3, hA, List.length_append]; rfl
              refine xs_set (P := WhX _ _ _ _ _ _ _ _ _) 7 57 _ (R3.map rowA) rfl ?_ ?_
              · rw [List.take_of_length_le (by simp), hR3, hA, List.map_append, List.append_assoc]; rfl
              simp only [List.set_cons_succ, List.set_cons_zero]
              exact whx_ren [0, 1, 7, 3] (b + 1, R3) ⟨by omega, by rw [hR3, hR2, mB_succ, List.append_assoc], by show R3.length ≤ _; omega⟩ (by (first | omega | (dsimp only; omega) | (simp only; omega))) rfl (by decide) (by decide) (by (simp (disch := omega) only [go_sem, lint, rows_rn, rows_id, rows_one])) (by (simp (disch := omega) only [go_sem, lint, rows_rn, rows_id, rows_one])) (by (simp (disch := omega) only [go_sem, lint, rows_rn, rows_id, rows_one])) (fun d => by simp (disch := omega) only [go_sem, lint, rows_rn, rows_id, rows_one, hlen])
          · obtain rfl : b = m := by omega
            (refine Wk.o ?_; (repeat revert hK K); refine W82cfa ?_; (repeat intro K hK); refine ⟨?_⟩)
            exact whx_ren [0, 1, 2, 3] (p + 1, R2) ⟨by omega, by rw [hR2, hR1, mP_succ, List.append_assoc]; rfl, by show R2.length ≤ _; omega⟩ (by (first | omega | (dsimp only; omega) | (simp only; omega))) rfl (by decide) (by decide) (by (simp (disch := omega) only [go_sem, lint, rows_rn, rows_id, rows_one])) (by (simp (disch := omega) only [go_sem, lint, rows_rn, rows_id, rows_one])) (by (simp (disch := omega) only [go_sem, lint, rows_rn, rows_id, rows_one])) (fun d => by (simp (disch := omega) only [go_sem, lint, rows_rn, rows_id, rows_one]))
        · obtain rfl : p = l.length := by omega
          (refine Wk.o ?_; (repeat revert hK K); refine W82cfa ?_; (repeat intro K hK); refine ⟨?_⟩)
          have hI : mI ⟨↑m, K0, I0, R0⟩ l i = mP ⟨↑m, K0, I0, R0⟩ l i l.length := by unfold mI; rw [if_pos he]; rfl
          exact whx_ren [0, 1, 2] (i + 1, R1) ⟨by omega, by rw [hR1, hR, mCl_succ, hI], by show R1.length ≤ _; omega⟩ (by (first | omega | (dsimp only; omega) | (simp only; omega))) rfl (by decide) (by decide) (by (simp (disch := omega) only [go_sem, lint, rows_rn, rows_id, rows_one])) (by (simp (disch := omega) only [go_sem, lint, rows_rn, rows_id, rows_one])) (by (simp (disch := omega) only [go_sem, lint, rows_rn, rows_id, rows_one])) (fun d => by (simp (disch := omega) only [go_sem, lint, rows_rn, rows_id, rows_one]))
      · (refine Wk.o ?_; (repeat revert hK K); refine W82cfc ?_; (repeat intro K hK); refine ⟨?_⟩)
        obtain ⟨Ra, hRa⟩ : ∃ Ra, Ra = R ++ [[nVar l.length m 2 i 0]] := ⟨_, rfl⟩
        have hla : Ra.length = R.length + 1 := by rw [hRa, List.length_append]; rfl
        refine xs_set (P := AX _ _ _ _) 4 57 _ [rowA [nVar l.length m 2 i 0]] rfl rfl ?_
        refine xs_set (P := AX _ _ _ _) 5 57 _ (Ra.map rowA) rfl (by rw [hRa, List.map_append]; rfl) ?_
        simp only [List.set_cons_succ, List.set_cons_zero, ← hla]
        refine AX_ren [0, 1, 5, 3] [38, 40, 41, 42] ?fr2 [some ⟨24, [lt (.int .i64 m), lt (.int .i64 K0), lt (.int .i64 I0), .iv (iRws R0)]⟩, some ⟨51, [lt (.int .i64 l.length), lt (.int .i64 m)]⟩, some ⟨57, Ra.map rowA⟩, some ⟨56, [lt (.int .i64 (oAt l i).p), lt (.int .i64 (oAt l i).k), lt (.int .i64 (oAt l i).s), lt (.int .i64 (oAt l i).e), lt (.int .i64 (oAt l i).r)]⟩] (by decide) (by decide) (by (simp (disch := omega) only [go_sem, lint, rows_rn, rows_id, rows_one])) (by (simp (disch := omega) only [go_sem, lint, rows_rn, rows_id, rows_one])) (by (simp (disch := omega) only [go_sem, lint, rows_rn, rows_id, rows_one])) ?hfr (fun d2 => ?_)
        case hfr =>
          (simp (disch := omega) only [go_sem, lint, rows_rn, rows_id, rows_one])
          rfl
        simp only [deadS, List.set_cons_succ, List.set_cons_zero]
        (refine AWH (σ := Nat × List (List Int)) [49, 50, 12, 51, 52, 53, 54, 13, 55, 56, 57, 58, 59, 60, 61, 14, 15, 62, 63, 64, 65, 16, 66, 67, 68, 69, 70, 71, 72, 17, 73, 74, 75, 76, 77, 78, 79, 80, 81, 82, 83, 84, 85, 86, 87, 88, 89, 90, 91, 92, 93, 94, 95, 96, 97, 98, 99, 100, 101, 102, 103, 104] (fun (p, R1) => [(48, lint p), (7, .osl 2 0 R1.length 1)]) (fun (p, R1) => [some ⟨24, [lt (.int .i64 m), lt (.int .i64 K0), lt (.int .i64 I0), .iv (iRws R0)]⟩, some ⟨51, [lt (.int .i64 l.length), lt (.int .i64 m)]⟩, some ⟨57, R1.map rowA⟩, some ⟨56, [lt (.int .i64 (oAt l i).p), lt (.int .i64 (oAt l i).k), lt (.int .i64 (oAt l i).s), lt (.int .i64 (oAt l i).e), lt (.int .i64 (oAt l i).r)]⟩]) (fun (p, R1) => []) (fun (p, R1) => p ≤ l.length ∧ R1 = Ra ++ mP ⟨↑m, K0, I0, R0⟩ l i p ∧ R1.length ≤ Ra.length + 64 * p) (fun (p, R1) => l.length - p) (0, Ra) (by first | exact ⟨Nat.zero_le _, by simp [mP], by omega⟩) ?_; rintro ⟨p, R1⟩ d fr hfr ⟨hp, hR1, hR1l⟩; simp only [updS, deadS, List.set_cons_succ, List.set_cons_zero, lint] at hfr; subst hfr; (try dsimp only))
        by_cases hlp : p < l.length
        · have hpl := hvl 1 i p
          (refine Wk.o ?_; (repeat revert hK K); refine W82cfa ?_; (repeat intro K hK); refine ⟨?_⟩)
          (refine AWH (σ := Nat × List (List Int)) [58, 59, 60, 61, 14, 15, 62, 63, 64, 65, 16, 66, 67, 68, 69, 70, 71, 72, 17, 73, 74, 75, 76, 77, 78, 79, 80, 81, 82, 83, 84, 85, 86, 87, 88, 89, 90, 91, 92, 93, 94, 95, 96, 97, 98, 99, 100, 101, 102, 103] (fun (b, R2) => [(57, lint b), (7, .osl 2 0 R2.length 1)]) (fun (b, R2) => [some ⟨24, [lt (.int .i64 m), lt (.int .i64 K0), lt (.int .i64 I0), .iv (iRws R0)]⟩, some ⟨51, [lt (.int .i64 l.length), lt (.int .i64 m)]⟩, some ⟨57, R2.map rowA⟩, some ⟨56, [lt (.int .i64 (oAt l i).p), lt (.int .i64 (oAt l i).k), lt (.int .i64 (oAt l i).s), lt (.int .i64 (oAt l i).e), lt (.int .i64 (oAt l i).r)]⟩]) (fun (b, R2) => []) (fun (b, R2) => b ≤ m ∧ R2 = R1 ++ mB ⟨↑m, K0, I0, R0⟩ l i p b ∧ R2.length ≤ R1.length + 2 * b) (fun (b, R2) => m - b) (0, R1) (by first | exact ⟨Nat.zero_le _, by simp [mB], by omega⟩) ?_; rintro ⟨b, R2⟩ d fr hfr ⟨hb, hR2, hR2l⟩; simp only [updS, deadS, List.set_cons_succ, List.set_cons_zero, lint] at hfr; subst hfr; (try dsimp only))
          by_cases hlb : b < m
          · have hst := hvl 3 p b
            have hst2 := hvl 3 (p + 1 : Nat) b
            have hst3 := hvl 3 (p + 1 : Nat) (mvE ⟨↑m, K0, I0, R0⟩ (oAt l i) b)
            have hs2 := mvEach_at (o := ⟨↑m, K0, I0, R0⟩) (x := oAt l i) hlb
            generalize hnx : mvE ⟨↑m, K0, I0, R0⟩ (oAt l i) b = nx at *
            by_cases hn0 : 0 ≤ nx
            · (refine Wk.o ?_; (repeat revert hK K); refine W82cfb ?_; (repeat intro K hK); refine ⟨?_⟩)
              refine AX_freeze [6] [(17, .iv (iInts [-(nVar l.length m 1 i p), -(nVar l.length m 2 i 0), -(nVar l.length m 3 p b), nVar l.length m 3 (p + 1 : Nat) nx]))] (fun q hq => ?_) ?_
              · rw [List.mem_singleton.1 hq]; refine frz_ints (t := 3) (only_mk (ds := [6]) (by decide) ?_) rfl; rfl
              simp only [setN, updS, List.set_cons_succ, List.set_cons_zero, iInts]
              (refine Wk.o ?_; (repeat revert hK K); refine W82cfc ?_; (repeat intro K hK); refine ⟨?_⟩)
              obtain ⟨R3, hR3⟩ : ∃ R3, R3 = R2 ++ mA ⟨↑m, K0, I0, R0⟩ l i p b := ⟨_, rfl⟩
              have hA : mA ⟨↑m, K0, I0, R0⟩ l i p b = [[-(nVar l.length m 1 i p), -(nVar l.length m 2 i 0), -(nVar l.length m 3 p b), nVar l.length m 3 (p + 1 : Nat) nx]] := by
                unfold mA; rw [hnx, if_pos hn0, if_neg he]; rfl
              have hlen : R3.length = R2.length + 1 := by rw [hR3, hA, List.length_append]; rfl
              (first | ((with_reducible refine AX_if_t ?_ ?_); focus (simp (disch := omega) only [go_sem , iOps, iFlat, iInts, hs1, hs2, hs3, mvEach_len, flatO_p, flatO_k, flatO_s, flatO_e, flatO_r, rows_one, rows_take, List.length_nil]; done)) | ((with_reducible refine AX_if_f ?_ ?_); focus (simp (disch := omega) only [go_sem , iOps, iFlat, iInts, hs1, hs2, hs3, mvEach_len, flatO_p, flatO_k, flatO_s, flatO_e, flatO_r, rows_one, rows_take, List.length_nil]; done)) | (refine AX_cond _ (by rfl) (fun hc => ?_) (fun hc => ?_) <;> (try simp only [eqRes, List.cons_beq_cons, Bool.and_eq_true, Bool.not_eq_true, Bool.and_eq_false_iff, decide_eq_true_eq, decide_eq_false_iff_not, bne_iff_ne, beq_iff_eq, bne_eq_false_iff_eq, beq_eq_false_iff_ne, Bool.not_eq_true', Bool.not_eq_false', ne_eq, Int.not_lt, Int.not_le, Decidable.not_not] at hc)))
              (refine Wk.o ?_; (repeat revert hK K); refine W82cfc ?_; (repeat intro K hK); refine ⟨?_⟩)
              refine xs_set (P := WhX _ _ _ _ _ _ _ _ _) 8 57 _ (R3.map rowA) rfl ?_ ?_
              · rw [hR3, hA, List.map_append]; rfl
              simp only [List.set_cons_succ, List.set_cons_zero]
              exact whx_ren [0, 1, 8, 3] (b + 1, R3) ⟨by omega, by rw [hR3, hR2, mB_succ, List.append_assoc], by show R3.length ≤ _; omega⟩ (by (first | omega | (dsimp only; omega) | (simp only; omega))) rfl (by decide) (by decide) (by (simp (disch := omega) only [go_sem, lint, rows_rn, rows_id, rows_one])) (by (simp (disch := omega) only [go_sem, lint, rows_rn, rows_id, rows_one])) (by (simp (disch := omega) only [go_sem, lint, rows_rn, rows_id, rows_one])) (fun d => by simp (disch := omega) only [go_sem, lint, rows_rn, rows_id, rows_one, hlen])
            · (refine Wk.o ?_; (repeat revert hK K); refine W82cfc ?_; (repeat intro K hK); refine ⟨?_⟩)
              obtain ⟨R3, hR3⟩ : ∃ R3, R3 = R2 ++ mA ⟨↑m, K0, I0, R0⟩ l i p b := ⟨_, rfl⟩
              have hA : mA ⟨↑m, K0, I0, R0⟩ l i p b = [[-(nVar l.length m 1 i p), -(nVar l.length m 2 i 0), -(nVar l.length m 3 p b)]] := by
                unfold mA; rw [hnx, if_neg hn0, if_neg he]; rfl
              have hlen : R3.length = R2.length + 1 := by rw [hR3, hA, List.length_append]; rfl
              (first | ((with_reducible refine AX_if_t ?_ ?_); focus (simp (disch := omega) only [go_sem , iOps, iFlat, iInts, hs1, hs2, hs3, mvEach_len, flatO_p, flatO_k, flatO_s, flatO_e, flatO_r, rows_one, rows_take, List.length_nil]; done)) | ((with_reducible refine AX_if_f ?_ ?_); focus (simp (disch := omega) only [go_sem , iOps, iFlat, iInts, hs1, hs2, hs3, mvEach_len, flatO_p, flatO_k, flatO_s, flatO_e, flatO_r, rows_one, rows_take, List.length_nil]; done)) | (refine AX_cond _ (by rfl) (fun hc => ?_) (fun hc => ?_) <;> (try simp only [eqRes, List.cons_beq_cons, Bool.and_eq_true, Bool.not_eq_true, Bool.and_eq_false_iff, decide_eq_true_eq, decide_eq_false_iff_not, bne_iff_ne, beq_iff_eq, bne_eq_false_iff_eq, beq_eq_false_iff_ne, Bool.not_eq_true', Bool.not_eq_false', ne_eq, Int.not_lt, Int.not_le, Decidable.not_not] at hc)))
              (refine Wk.o ?_; (repeat revert hK K); refine W82cfc ?_; (repeat intro K hK); refine ⟨?_⟩)
              refine xs_set (P := WhX _ _ _ _ _ _ _ _ _) 5 57 _ (R3.map rowA) rfl ?_ ?_
              · rw [hR3, hA, List.map_append]; rfl
              simp only [List.set_cons_succ, List.set_cons_zero]
              exact whx_ren [0, 1, 5, 3] (b + 1, R3) ⟨by omega, by rw [hR3, hR2, mB_succ, List.append_assoc], by show R3.length ≤ _; omega⟩ (by (first | omega | (dsimp only; omega) | (simp only; omega))) rfl (by decide) (by decide) (by (simp (disch := omega) only [go_sem, lint, rows_rn, rows_id, rows_one])) (by (simp (disch := omega) only [go_sem, lint, rows_rn, rows_id, rows_one])) (by (simp (disch := omega) only [go_sem, lint, rows_rn, rows_id, rows_one])) (fun d => by simp (disch := omega) only [go_sem, lint, rows_rn, rows_id, rows_one, hlen])
          · obtain rfl : b = m := by omega
            (refine Wk.o ?_; (repeat revert hK K); refine W82cfa ?_; (repeat intro K hK); refine ⟨?_⟩)
            exact whx_ren [0, 1, 2, 3] (p + 1, R2) ⟨by omega, by rw [hR2, hR1, mP_succ, List.append_assoc]; rfl, by show R2.length ≤ _; omega⟩ (by (first | omega | (dsimp only; omega) | (simp only; omega))) rfl (by decide) (by decide) (by (simp (disch := omega) only [go_sem, lint, rows_rn, rows_id, rows_one])) (by (simp (disch := omega) only [go_sem, lint, rows_rn, rows_id, rows_one])) (by (simp (disch := omega) only [go_sem, lint, rows_rn, rows_id, rows_one])) (fun d => by (simp (disch := omega) only [go_sem, lint, rows_rn, rows_id, rows_one]))
        · obtain rfl : p = l.length := by omega
          (refine Wk.o ?_; (repeat revert hK K); refine W82cfa ?_; (repeat intro K hK); refine ⟨?_⟩)
          have hI : mI ⟨↑m, K0, I0, R0⟩ l i = [[nVar l.length m 2 i 0]] ++ mP ⟨↑m, K0, I0, R0⟩ l i l.length := by unfold mI; rw [if_neg he]
          exact whx_ren [0, 1, 2] (i + 1, R1) ⟨by omega, by rw [hR1, hRa, hR, mCl_succ, hI, List.append_assoc], by show R1.length ≤ _; omega⟩ (by (first | omega | (dsimp only; omega) | (simp only; omega))) rfl (by decide) (by decide) (by (simp (disch := omega) only [go_sem, lint, rows_rn, rows_id, rows_one])) (by (simp (disch := omega) only [go_sem, lint, rows_rn, rows_id, rows_one])) (by (simp (disch := omega) only [go_sem, lint, rows_rn, rows_id, rows_one])) (fun d => by (simp (disch := omega) only [go_sem, lint, rows_rn, rows_id, rows_one]))
    · obtain rfl : i = l.length := by omega
      (refine Wk.o ?_; (repeat revert hK K); refine W82cfa ?_; (repeat intro K hK); refine ⟨?_⟩)
      (simp only [bodyX]; refine ⟨_, by simp only [aresults, aresult, XS.as, Tryz.results29, aload, go_sem, Option.bind_some]; rfl, ?_⟩)
      rw [← hR]
      exact ⟨_, snap_rws rfl rfl, rfl, trivial⟩
  · have hs1 := nCheck_no hok
    have hres : mRes o l = [] := by unfold mRes; rw [if_neg hok]
    rw [hres]
    (refine SF_of_bodyX (aload tt) (aload_ok tyOK) Tryz.func29 rfl (by kernel_rfl) ?_; simp only [Tryz.ntmps29, List.length_cons, List.length_nil, Nat.reduceAdd, Nat.reduceSub, List.replicate_succ, List.replicate_zero, List.cons_append, List.nil_append])
    unfold iOps iFlat
    (refine Wk.o ?_; (repeat revert hK K); refine W82cfa ?_; (repeat intro K hK); refine ⟨?_⟩)
    (simp only [bodyX]; refine ⟨_, by simp only [aresults, aresult, XS.as, Tryz.results29, aload, go_sem, Option.bind_some]; rfl, ?_⟩)
    exact ⟨_, .iv _ _ (.nil _ _), rfl, trivial⟩
end Go.Proofs.YtcjnikkmjhagmaaGreatDoor
