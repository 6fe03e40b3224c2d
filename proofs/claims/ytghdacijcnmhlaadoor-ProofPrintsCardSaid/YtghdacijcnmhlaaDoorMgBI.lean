import Derived.Test.YtghdacijcnmhlaaDoorMgBH
import Derived.Test.YtghdacijcnmhlaaDoorMgBD
import Derived.Test.YtghdacijcnmhlaaDoorMgAY
namespace Go.Proofs.YtghdacijcnmhlaaDoor
open Go.RowKit Go.Lib
set_option linter.unusedVariables false
set_option linter.unusedSimpArgs false
theorem sf_number1 (T : List Tok3) (a : Int) (A0 A2 A3 : Option AObj) (hT : TokOK T) (h0 : T.length ≠ 0) :
    SF Tryd.prog 41 [.optr 1 0, lt (.int .i64 0), lt (.int .i64 10000000), .fn 42 [] []] [A0, some ⟨55, [.iv (.sl (fun j => .lit ((tokL T).getD j undef)) T.length 3), lt (.int .i64 0), lt (.int .i64 a), lt (.int .i64 0)]⟩, A2, A3] fun r H' => r = lt (.int .i64 (idQ T).1) ∧ ∃ Z, H' = [A0, some ⟨55, [.iv (.sl (fun j => .lit ((tokL T).getD j undef)) T.length 3), lt (.int .i64 1), lt (.int .i64 (T.getD 0 tok0).2.1), lt (.int .i64 (idQ T).2)]⟩, A2, A3, Z] := by
  by_cases hq : (idQ T).2 = 0
  · rw [hq]
    exact (sx_numGS T 0 a 0 10000000 0 42 [] [] A0 A2 A3 [A2, A3, some ⟨58, [lt (.int .i64 (T.getD 0 tok0).1), lt (.int .i64 (T.getD 0 tok0).2.1), lt (.string (ba (T.getD 0 tok0).2.2))]⟩] [] [] hT (by omega) hq rfl (by simp) (sx_step1 _ _ _)).sf.mono fun r H' ⟨M', h1, h2, _⟩ => ⟨h1, _, h2⟩
  · exact (sx_numBS T 0 a 0 10000000 _ A0 A2 A3 [] hT (by omega) hq).sf.mono fun r H' ⟨M', h1, ⟨Z, h2⟩, _⟩ => ⟨h1, Z, h2⟩
theorem sf_numbers (T : List Tok3) (k0 : Nat) (a0 lo hi : Int) (once : Bool) (A0 A2 A3 : Option AObj) (hL0 : LowO A0) (hL2 : LowO A2) (hL3 : LowO A3) (hT : TokOK T) (h0 : T.length ≠ 0) (hk0 : k0 ≤ T.length) (hlo : -10000000 ≤ lo ∧ lo ≤ 0) (hhi : 0 ≤ hi ∧ hi ≤ 10000000) :
    SF Tryd.prog 43 [.optr 1 0, lt (.int .i64 lo), lt (.int .i64 hi), lt (.bool once)] [A0, some ⟨55, [.iv (.sl (fun j => .lit ((tokL T).getD j undef)) T.length 3), lt (.int .i64 (k0 : Int)), lt (.int .i64 a0), lt (.int .i64 0)]⟩, A2, A3] fun r H' => ∃ (c : List Int) (k : Nat) (a f : Int), r = .iv (iInts c) ∧ H' = [A0, some ⟨55, [.iv (.sl (fun j => .lit ((tokL T).getD j undef)) T.length 3), lt (.int .i64 (k : Int)), lt (.int .i64 a), lt (.int .i64 f)]⟩, A2, A3] ∧ f = (nrow lo hi once (lastEnd T) (T.drop k0) k0 []).2.2.2 ∧ (f = 0 → c = (nrow lo hi once (lastEnd T) (T.drop k0) k0 []).1 ∧ k = (nrow lo hi once (lastEnd T) (T.drop k0) k0 []).2.1) ∧ (f ≠ 0 → a = (nrow lo hi once (lastEnd T) (T.drop k0) k0 []).2.2.1) :=
  (sx_numbers T k0 a0 lo hi once A0 A2 A3 hL0 hL2 hL3 hT h0 hk0 hlo hhi).sf.mono fun r H' ⟨M', h⟩ => h
def stpC (s : Stp) : List AV := [lt (.int .i64 s.k), lt (.int .i64 s.i), .iv (iInts s.L), .iv (iInts s.H)]
def stpA (s : Stp) : AV := .agg (stpC s)
theorem lowO_lt {t : TypeId} {a b : Value} {c d : IV} : LowO (some ⟨t, [lt a, lt b, .iv c, .iv d]⟩) := fun m sel => ⟨fun H => by simp [okH, idL, AV.idB, lt], by simp [AObj.rn, rnL, AV.rn, lt]⟩
end Go.Proofs.YtghdacijcnmhlaaDoor
namespace Go.Proofs.YtghdacijcnmhlaaDoor
open Go.RowKit Go.Lib
def stAt (xs : List Stp) (k : Nat) : Stp := xs.getD k st0
def stI : Stp → Nat → IV
  | s, 0 => .lit (.int .i64 s.k)
  | s, 1 => .lit (.int .i64 s.i)
  | s, 2 => iInts s.L
  | s, _ => iInts s.H
def stG (xs : List Stp) (j : Nat) : IV := stI (stAt xs (j / 4)) (j % 4)
def iSts (xs : List Stp) : IV := .sl (stG xs) xs.length 4
theorem stG_0 (xs : List Stp) (k : Nat) : stG xs (k * 4) = .lit (.int .i64 (stAt xs k).k) := by
  unfold stG; rw [Nat.mul_div_cancel _ (by decide), Nat.mul_mod_left]; rfl
theorem stG_j (xs : List Stp) (k : Nat) {j : Nat} (hj : j < 4) : stG xs (k * 4 + j) = stI (stAt xs k) j := by
  unfold stG; rw [show (k * 4 + j) / 4 = k by omega, show (k * 4 + j) % 4 = j by omega]
theorem stG_1 (xs : List Stp) (k : Nat) : stG xs (k * 4 + 1) = .lit (.int .i64 (stAt xs k).i) := stG_j xs k (by decide)
theorem stG_2 (xs : List Stp) (k : Nat) : stG xs (k * 4 + 2) = iInts (stAt xs k).L := stG_j xs k (by decide)
theorem stG_3 (xs : List Stp) (k : Nat) : stG xs (k * 4 + 3) = iInts (stAt xs k).H := stG_j xs k (by decide)
def stL (xs : List Stp) : List AV := xs.flatMap stpC
theorem stL_len : ∀ xs : List Stp, (stL xs).length = xs.length * 4
  | [] => rfl
  | x :: xs => by
    have := stL_len xs
    unfold stL at *
    rw [List.flatMap_cons, List.length_append, this, List.length_cons]
    show 4 + _ = _
    omega
theorem stL_at : ∀ (xs : List Stp) (j : Nat), j < xs.length * 4 → (stL xs)[j]? = some (.iv (stG xs j))
  | [], j, h => by simp at h
  | x :: xs, j, h => by
    have e : stL (x :: xs) = stpC x ++ stL xs := rfl
    rw [e]
    by_cases hj : j < 4
    · rw [List.getElem?_append_left (show j < (stpC x).length from hj)]
      match j, hj with | 0, _ | 1, _ | 2, _ | 3, _ => rfl
    · rw [List.getElem?_append_right (by show 4 ≤ j; omega)]
      have hl : (stpC x).length = 4 := rfl
      rw [hl, stL_at xs (j - 4) (by rw [List.length_cons] at h; omega)]
      unfold stG stAt
      rw [show j / 4 = (j - 4) / 4 + 1 by omega, show j % 4 = (j - 4) % 4 by omega]
      rfl
theorem snapC_sts {H : AHeap} {o n : Nat} {t : TypeId} {xs : List Stp} (h : H[o]? = some (some ⟨t, stL xs⟩)) (hn : n = xs.length) : SnapC H (.osl o 0 n 4) (iSts xs) := by
  subst hn
  exact .osl o 0 xs.length 4 _ _ (fun j => .iv (stG xs j)) (by decide) h (fun j hj => by rw [Nat.zero_add]; exact stL_at xs j hj) fun j _ => .iv _
theorem rnL_stL (r : Nat → Nat) : ∀ xs : List Stp, rnL r (stL xs) = stL xs
  | [] => rfl
  | x :: xs => by
    have e : stL (x :: xs) = stpC x ++ stL xs := rfl
    have h := rnL_stL r xs
    rw [e]
    unfold stpC
    simp only [List.cons_append, List.nil_append, rnL, AV.rn, lt, h]
theorem idL_stL (p : Nat → Bool) : ∀ xs : List Stp, idL p (stL xs) = true
  | [] => rfl
  | x :: xs => by
    have e : stL (x :: xs) = stpC x ++ stL xs := rfl
    have h := idL_stL p xs
    rw [e]
    unfold stpC
    simp only [List.cons_append, List.nil_append, idL, AV.idB, lt, h, Bool.and_self]
theorem stL_one (xs : List Stp) : (stL xs).all AV.one = true := by
  rw [List.all_eq_true]
  intro x hx
  unfold stL at hx
  obtain ⟨s, _, hs⟩ := List.mem_flatMap.1 hx
  simp only [stpC, List.mem_cons, List.not_mem_nil, or_false] at hs
  rcases hs with rfl | rfl | rfl | rfl <;> rfl
theorem take_stL {xs : List Stp} {n : Nat} (h : xs.length * 4 ≤ n) : (stL xs).take n = stL xs := List.take_of_length_le (by rw [stL_len]; exact h)
theorem stL_snoc (xs : List Stp) (s : Stp) : stL xs ++ [lt (.int .i64 s.k), lt (.int .i64 s.i), .iv (iInts s.L), .iv (iInts s.H)] = stL (xs ++ [s]) := by
  unfold stL; rw [List.flatMap_append]; simp [stpC]
attribute [go_sem] rnL_stL idL_stL stL_one stL_len take_stL
end Go.Proofs.YtghdacijcnmhlaaDoor
namespace Go.Proofs.YtghdacijcnmhlaaDoor
open Go.RowKit
set_option linter.unusedVariables false
set_option linter.unusedSimpArgs false
set_option maxRecDepth 100000 in
set_option maxHeartbeats 1000000 in
theorem pf_sameInts (xs ys : List Int) (hx : xs.length ≤ 1000000) (hy : ys.length ≤ 1000000) : PF Tryd.prog 19 [.iv (iInts xs), .iv (iInts ys)] fun r H' => r = lt (.bool (decide (xs = ys))) ∧ H' = [] := by
  refine SF.forgetAll ?_
  (refine SF_of_bodyX (aload tt) (aload_ok tyOK) Tryd.func19 rfl (by kernel_rfl) ?_; simp only [Tryd.ntmps19, List.length_cons, List.length_nil, Nat.reduceAdd, Nat.reduceSub, List.replicate_succ, List.replicate_zero, List.cons_append, List.nil_append])
  unfold iInts
  by_cases hl : xs.length = ys.length
  · (repeat (first | (first | (with_reducible first | refine AX_block ?_ | refine AX_skip ?_ | refine AX_exit ?_ | refine AX_ret ?_ | refine AX_ift ?_ | refine AX_iff ?_ | refine AX_seq_k (fun K hK => ?_) | refine ContX.use (by assumption) ?_) | simp only [thenX, inBlockX, if_true, if_false, reduceCtorEq]) | (first | ((with_reducible first | refine XOP tyOK ?_ | refine AOP tyOK ?_); simp (disch := omega) only [go_sem , List.length_nil]; (with_reducible first | refine XRes_id ?_ | refine ADF_id ?_)) | (with_reducible first | refine XSK ?_ | refine ASK ?_)) | ((first | (with_reducible refine XRes_nil ?_) | (with_reducible refine ADF_nil ?_)); (first | refine hK _ ?_ | refine hK _ _ ?_); clear hK K) | ((first | (with_reducible refine AX_reg0 fun K hK => ?_) | (refine AX_drawG1 tyOK (by kernel_rfl) (by rfl) (by kernel_rfl) fun K hK => ?_)); simp only [go_sem]) | fail))
    (refine AWH (σ := Nat) [11, 12, 13, 14, 17, 18, 19, 20, 21, 22, 23, 24, 25, 4, 15, 16] (fun k => [(5, lint k)]) (fun k => []) (fun k => []) (fun k => k ≤ xs.length ∧ ∀ i, i < k → xs.getD i 0 = ys.getD i 0) (fun k => xs.length - k) 0 (by first | exact ⟨Nat.zero_le _, fun i h => absurd h (by omega)⟩) ?_; rintro k d fr hfr ⟨hk, hp⟩; simp only [updS, deadS, List.set_cons_succ, List.set_cons_zero, lint] at hfr; subst hfr; (try dsimp only))
    (repeat' (first | (first | (with_reducible first | refine AX_block ?_ | refine AX_skip ?_ | refine AX_exit ?_ | refine AX_ret ?_ | refine AX_ift ?_ | refine AX_iff ?_ | refine AX_seq_k (fun K hK => ?_) | refine ContX.use (by assumption) ?_) | simp only [thenX, inBlockX, if_true, if_false, reduceCtorEq]) | (first | ((with_reducible first | refine XOP tyOK ?_ | refine AOP tyOK ?_); simp (disch := omega) only [go_sem , List.length_nil]; (with_reducible first | refine XRes_id ?_ | refine ADF_id ?_)) | (with_reducible first | refine XSK ?_ | refine ASK ?_)) | ((first | (with_reducible refine XRes_nil ?_) | (with_reducible refine ADF_nil ?_)); (first | refine hK _ ?_ | refine hK _ _ ?_); clear hK K) | ((first | (with_reducible refine AX_reg0 fun K hK => ?_) | (refine AX_drawG1 tyOK (by kernel_rfl) (by rfl) (by kernel_rfl) fun K hK => ?_)); simp only [go_sem]) | fail | ((first | (refine XRes_splitG (by rfl) (fun hc => ?_) (fun hc => ?_)) | (refine ADF_splitG (by rfl) (fun hc => ?_) (fun hc => ?_))) <;> (try simp only [eqRes, List.cons_beq_cons, Bool.and_eq_true, Bool.not_eq_true, Bool.and_eq_false_iff, decide_eq_true_eq, decide_eq_false_iff_not, bne_iff_ne, beq_iff_eq, bne_eq_false_iff_eq, beq_eq_false_iff_ne, Bool.not_eq_true', Bool.not_eq_false', ne_eq, Int.not_lt, Int.not_le, Decidable.not_not] at hc) <;> simp only [List.set_cons_succ, List.set_cons_zero]) | (first | ((with_reducible refine AX_if_t ?_ ?_); focus (simp (disch := omega) only [go_sem , List.length_nil]; done)) | ((with_reducible refine AX_if_f ?_ ?_); focus (simp (disch := omega) only [go_sem , List.length_nil]; done)) | (refine AX_cond _ (by rfl) (fun hc => ?_) (fun hc => ?_) <;> (try simp only [eqRes, List.cons_beq_cons, Bool.and_eq_true, Bool.not_eq_true, Bool.and_eq_false_iff, decide_eq_true_eq, decide_eq_false_iff_not, bne_iff_ne, beq_iff_eq, bne_eq_false_iff_eq, beq_eq_false_iff_ne, Bool.not_eq_true', Bool.not_eq_false', ne_eq, Int.not_lt, Int.not_le, Decidable.not_not] at hc)))))
    · (simp only [bodyX]; refine ⟨_, by simp only [aresults, aresult, XS.as, Tryd.results19, aload, go_sem, Option.bind_some]; rfl, ?_⟩)
      exact ⟨.iv _, (by rw [decide_eq_false]; intro e; subst e; exact hc rfl), trivial⟩
    · exact whx_end (k + 1) ⟨by omega, fun i hi => by
        rcases Nat.lt_or_ge i k with h | h
        · exact hp i h
        · rw [show i = k by omega]; exact hc⟩ (by (first | omega | (dsimp only; omega) | (simp only; omega))) rfl (by first | rfl | (simp (disch := omega) only [go_sem, lint])) (fun d => by first | ((simp only [deadS, updS, List.set_cons_succ, List.set_cons_zero, lint, List.length_nil, List.length_cons]); done) | ((simp only [deadS, updS, List.set_cons_succ, List.set_cons_zero, lint, List.length_nil, List.length_cons]); rfl) | rfl)
    · (simp only [bodyX]; refine ⟨_, by simp only [aresults, aresult, XS.as, Tryd.results19, aload, go_sem, Option.bind_some]; rfl, ?_⟩)
      refine ⟨.iv _, (by
        rw [decide_eq_true]
        apply List.ext_getElem hl
        intro i h1 h2
        have := hp i (by omega)
        simpa [List.getD, h1, h2] using this), trivial⟩
  · (repeat' (first | (first | (with_reducible first | refine AX_block ?_ | refine AX_skip ?_ | refine AX_exit ?_ | refine AX_ret ?_ | refine AX_ift ?_ | refine AX_iff ?_ | refine AX_seq_k (fun K hK => ?_) | refine ContX.use (by assumption) ?_) | simp only [thenX, inBlockX, if_true, if_false, reduceCtorEq]) | (first | ((with_reducible first | refine XOP tyOK ?_ | refine AOP tyOK ?_); simp (disch := omega) only [go_sem , List.length_nil]; (with_reducible first | refine XRes_id ?_ | refine ADF_id ?_)) | (with_reducible first | refine XSK ?_ | refine ASK ?_)) | ((first | (with_reducible refine XRes_nil ?_) | (with_reducible refine ADF_nil ?_)); (first | refine hK _ ?_ | refine hK _ _ ?_); clear hK K) | ((first | (with_reducible refine AX_reg0 fun K hK => ?_) | (refine AX_drawG1 tyOK (by kernel_rfl) (by rfl) (by kernel_rfl) fun K hK => ?_)); simp only [go_sem]) | fail | ((first | (refine XRes_splitG (by rfl) (fun hc => ?_) (fun hc => ?_)) | (refine ADF_splitG (by rfl) (fun hc => ?_) (fun hc => ?_))) <;> (try simp only [eqRes, List.cons_beq_cons, Bool.and_eq_true, Bool.not_eq_true, Bool.and_eq_false_iff, decide_eq_true_eq, decide_eq_false_iff_not, bne_iff_ne, beq_iff_eq, bne_eq_false_iff_eq, beq_eq_false_iff_ne, Bool.not_eq_true', Bool.not_eq_false', ne_eq, Int.not_lt, Int.not_le, Decidable.not_not] at hc) <;> simp only [List.set_cons_succ, List.set_cons_zero]) | (first | ((with_reducible refine AX_if_t ?_ ?_); focus (simp (disch := omega) only [go_sem , List.length_nil]; done)) | ((with_reducible refine AX_if_f ?_ ?_); focus (simp (disch := omega) only [go_sem , List.length_nil]; done)) | (refine AX_cond _ (by rfl) (fun hc => ?_) (fun hc => ?_) <;> (try simp only [eqRes, List.cons_beq_cons, Bool.and_eq_true, Bool.not_eq_true, Bool.and_eq_false_iff, decide_eq_true_eq, decide_eq_false_iff_not, bne_iff_ne, beq_iff_eq, bne_eq_false_iff_eq, beq_eq_false_iff_ne, Bool.not_eq_true', Bool.not_eq_false', ne_eq, Int.not_lt, Int.not_le, Decidable.not_not] at hc)))))
    (simp only [bodyX]; refine ⟨_, by simp only [aresults, aresult, XS.as, Tryd.results19, aload, go_sem, Option.bind_some]; rfl, ?_⟩)
    exact ⟨.iv _, (by rw [decide_eq_false]; intro e; subst e; exact hl rfl), trivial⟩
end Go.Proofs.YtghdacijcnmhlaaDoor
namespace Go.Proofs.YtghdacijcnmhlaaDoor
open Go.RowKit
set_option linter.unusedVariables false
set_option linter.unusedSimpArgs false
set_option maxRecDepth 100000 in
set_option maxHeartbeats 1000000 in
theorem pf_has (xs : List Int) (v : Int) (hx : xs.length ≤ 1000000) : PF Tryd.prog 53 [.iv (iInts xs), lt (.int .i64 v)] fun r H' => r = lt (.bool (decide (v ∈ xs))) ∧ H' = [] := by
  refine SF.forgetAll ?_
  (refine SF_of_bodyX (aload tt) (aload_ok tyOK) Tryd.func53 rfl (by kernel_rfl) ?_; simp only [Tryd.ntmps53, List.length_cons, List.length_nil, Nat.reduceAdd, Nat.reduceSub, List.replicate_succ, List.replicate_zero, List.cons_append, List.nil_append])
  unfold iInts
  (repeat (first | (first | (with_reducible first | refine AX_block ?_ | refine AX_skip ?_ | refine AX_exit ?_ | refine AX_ret ?_ | refine AX_ift ?_ | refine AX_iff ?_ | refine AX_seq_k (fun K hK => ?_) | refine ContX.use (by assumption) ?_) | simp only [thenX, inBlockX, if_true, if_false, reduceCtorEq]) | (first | ((first | (with_reducible refine XRes_op tyOK ?_ ?_) | ((with_reducible first | refine ADF_op tyOK ?_ ?_ ?_ | refine ADX_op tyOK ?_ ?_ ?_); (focus rfl)) | (with_reducible refine ADR_alloc1 tyOK ?_ ?_) | ((with_reducible refine ADR_free1 tyOK ?_ ?_ ?_); (focus rfl)) | ((with_reducible refine ADR_free0 tyOK ?_ ?_ ?_); (focus rfl)) | ((with_reducible refine ADR_read1 tyOK ?_ ?_ ?_); (focus rfl)) | (with_reducible refine ADR_chg1 tyOK ?_ ?_)); (focus (first | (with_reducible rfl) | ((simp (disch := omega) only [go_sem]); done))); simp (disch := omega) only [go_sem , iFlat, iInts]; (first | (with_reducible refine XRes_id ?_) | (with_reducible refine ADF_id ?_) | (with_reducible refine ADR_id1 ?_) | (with_reducible refine ADX_id ?_))) | ((first | (with_reducible refine XRes_skip ?_ ?_) | (with_reducible refine ADF_skip (b := true) ?_ ?_) | (with_reducible refine ADX_skip ?_ ?_) | ((with_reducible refine ADR_skip1 ?_ ?_ ?_); (focus rfl))); (focus (first | rfl | ((simp (disch := omega) only [go_sem]); done))); (simp only [putL, List.set_cons_succ, List.set_cons_zero]))) | ((first | (with_reducible refine XRes_nil ?_) | (with_reducible refine ADF_nil ?_) | (with_reducible refine ADR_nil ?_) | (with_reducible refine ADX_nil ?_)); (first | refine hK _ ?_ | refine hK _ _ ?_); clear hK K) | ((first | (with_reducible refine AX_reg0 fun K hK => ?_) | (refine AX_drawG1 tyOK (by kernel_rfl) (by rfl) (by kernel_rfl) fun K hK => ?_) | (refine AX_drawT tyOK (by kernel_rfl) (by decide +kernel) fun K hK => ?_) | (refine AX_drawM1 (by kernel_rfl) (by rfl) (by decide +kernel) fun K hK => ?_) | (refine AX_drawA tyOK (by kernel_rfl) (by decide +kernel) fun K hK => ?_)); (first | simp only [go_sem, preN, effOp, runF, alM, mapOp, alD2, kdOf2, Bool.not_false, Bool.not_true, reduceCtorEq] | simp only [go_sem, preN, effOp, runF, alM, mapOp, Bool.not_false, Bool.not_true, reduceCtorEq] | simp only [go_sem, preN, effOp, runF, alD2, kdOf2, Bool.not_false, Bool.not_true, reduceCtorEq] | simp only [go_sem, alD2, kdOf2, Bool.not_false, Bool.not_true, reduceCtorEq] | simp only [go_sem, preN, effOp, runF, Bool.not_false, Bool.not_true, reduceCtorEq] | simp only [go_sem])) | fail))
  (refine AWH (σ := Nat) [6, 7, 8, 9, 12, 13, 14, 15, 16, 17, 4, 10, 11] (fun k => [(5, lint k)]) (fun k => []) (fun k => []) (fun k => k ≤ xs.length ∧ ∀ j, j < k → xs.getD j 0 ≠ v) (fun k => xs.length - k) 0 (by first | exact ⟨Nat.zero_le _, fun j h => absurd h (by omega)⟩) ?_; rintro k d fr hfr ⟨hk, hj⟩; simp only [updS, deadS, List.set_cons_succ, List.set_cons_zero, lint] at hfr; subst hfr; (try dsimp only))
  (repeat' (first | (first | (with_reducible first | refine AX_block ?_ | refine AX_skip ?_ | refine AX_exit ?_ | refine AX_ret ?_ | refine AX_ift ?_ | refine AX_iff ?_ | refine AX_seq_k (fun K hK => ?_) | refine ContX.use (by assumption) ?_) | simp only [thenX, inBlockX, if_true, if_false, reduceCtorEq]) | (first | ((first | (with_reducible refine XRes_op tyOK ?_ ?_) | ((with_reducible first | refine ADF_op tyOK ?_ ?_ ?_ | refine ADX_op tyOK ?_ ?_ ?_); (focus rfl)) | (with_reducible refine ADR_alloc1 tyOK ?_ ?_) | ((with_reducible refine ADR_free1 tyOK ?_ ?_ ?_); (focus rfl)) | ((with_reducible refine ADR_free0 tyOK ?_ ?_ ?_); (focus rfl)) | ((with_reducible refine ADR_read1 tyOK ?_ ?_ ?_); (focus rfl)) | (with_reducible refine ADR_chg1 tyOK ?_ ?_)); (focus (first | (with_reducible rfl) | ((simp (disch := omega) only [go_sem]); done))); simp (disch := omega) only [go_sem , iFlat, iInts]; (first | (with_reducible refine XRes_id ?_) | (with_reducible refine ADF_id ?_) | (with_reducible refine ADR_id1 ?_) | (with_reducible refine ADX_id ?_))) | ((first | (with_reducible refine XRes_skip ?_ ?_) | (with_reducible refine ADF_skip (b := true) ?_ ?_) | (with_reducible refine ADX_skip ?_ ?_) | ((with_reducible refine ADR_skip1 ?_ ?_ ?_); (focus rfl))); (focus (first | rfl | ((simp (disch := omega) only [go_sem]); done))); (simp only [putL, List.set_cons_succ, List.set_cons_zero]))) | ((first | (with_reducible refine XRes_nil ?_) | (with_reducible refine ADF_nil ?_) | (with_reducible refine ADR_nil ?_) | (with_reducible refine ADX_nil ?_)); (first | refine hK _ ?_ | refine hK _ _ ?_); clear hK K) | ((first | (with_reducible refine AX_reg0 fun K hK => ?_) | (refine AX_drawG1 tyOK (by kernel_rfl) (by rfl) (by kernel_rfl) fun K hK => ?_) | (refine AX_drawT tyOK (by kernel_rfl) (by decide +kernel) fun K hK => ?_) | (refine AX_drawM1 (by kernel_rfl) (by rfl) (by decide +kernel) fun K hK => ?_) | (refine AX_drawA tyOK (by kernel_rfl) (by decide +kernel) fun K hK => ?_)); (first | simp only [go_sem, preN, effOp, runF, alM, mapOp, alD2, kdOf2, Bool.not_false, Bool.not_true, reduceCtorEq] | simp only [go_sem, preN, effOp, runF, alM, mapOp, Bool.not_false, Bool.not_true, reduceCtorEq] | simp only [go_sem, preN, effOp, runF, alD2, kdOf2, Bool.not_false, Bool.not_true, reduceCtorEq] | simp only [go_sem, alD2, kdOf2, Bool.not_false, Bool.not_true, reduceCtorEq] | simp only [go_sem, preN, effOp, runF, Bool.not_false, Bool.not_true, reduceCtorEq] | simp only [go_sem])) | fail | ((first | (refine XRes_splitG (by rfl) (fun hc => ?_) (fun hc => ?_)) | (refine ADF_splitG (by rfl) (fun hc => ?_) (fun hc => ?_))) <;> (try simp only [eqRes, List.cons_beq_cons, Bool.and_eq_true, Bool.not_eq_true, Bool.and_eq_false_iff, decide_eq_true_eq, decide_eq_false_iff_not, bne_iff_ne, beq_iff_eq, bne_eq_false_iff_eq, beq_eq_false_iff_ne, Bool.not_eq_true', Bool.not_eq_false', ne_eq, Int.not_lt, Int.not_le, Decidable.not_not] at hc) <;> simp only [List.set_cons_succ, List.set_cons_zero]) | (first | ((with_reducible refine AX_if_t ?_ ?_); focus (simp (disch := omega) only [go_sem , iFlat, iInts]; done)) | ((with_reducible refine AX_if_f ?_ ?_); focus (simp (disch := omega) only [go_sem , iFlat, iInts]; done)) | (refine AX_cond _ (by rfl) (fun hc => ?_) (fun hc => ?_) <;> (try simp only [eqRes, List.cons_beq_cons, Bool.and_eq_true, Bool.not_eq_true, Bool.and_eq_false_iff, decide_eq_true_eq, decide_eq_false_iff_not, bne_iff_ne, beq_iff_eq, bne_eq_false_iff_eq, beq_eq_false_iff_ne, Bool.not_eq_true', Bool.not_eq_false', ne_eq, Int.not_lt, Int.not_le, Decidable.not_not] at hc)))))
  · (simp only [bodyX]; refine ⟨_, by simp only [aresults, aresult, XS.as, Tryd.results53, aload, go_sem, Option.bind_some]; rfl, ?_⟩)
    have hm : v ∈ xs := by
      have hlt : k < xs.length := by omega
      rw [List.getD_eq_getElem?_getD, List.getElem?_eq_getElem hlt] at hc
      have e : xs[k] = v := hc
      rw [← e]; exact List.getElem_mem hlt
    exact ⟨.iv _, by rw [decide_eq_true hm], trivial⟩
  · refine WEND (k + 1) ⟨by omega, fun j hj2 => ?_⟩ (by (first | omega | (dsimp only; omega) | (simp only; omega)))
    rcases Nat.lt_or_ge j k with h | h
    · exact hj j h
    · rw [show j = k by omega]; exact hc
  · (simp only [bodyX]; refine ⟨_, by simp only [aresults, aresult, XS.as, Tryd.results53, aload, go_sem, Option.bind_some]; rfl, ?_⟩)
    have hm : ¬ v ∈ xs := fun h => by
      obtain ⟨j, hj2, e⟩ := List.mem_iff_getElem.1 h
      refine hj j (by omega) ?_
      rw [List.getD_eq_getElem?_getD, List.getElem?_eq_getElem hj2]; exact e
    exact ⟨.iv _, by rw [decide_eq_false hm], trivial⟩
end Go.Proofs.YtghdacijcnmhlaaDoor
