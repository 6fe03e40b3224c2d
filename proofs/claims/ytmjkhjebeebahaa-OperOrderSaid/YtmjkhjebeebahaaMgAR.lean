import Derived.Test.YtmjkhjebeebahaaMgAQ
import Derived.Test.YtmjkhjebeebahaaMgAL
namespace Go.Proofs.Ytmjkhjebeebahaa
open Go.RowKit
set_option linter.unusedVariables false
set_option linter.unusedSimpArgs false


/-- The document's list, when i events have been looked at. -/
def rOfL (xs : List Ev3) (i : Nat) : List Int := flatO ((oCalls xs i).map (opOf xs xs.length))
theorem rOfL_succ (xs : List Ev3) (i : Nat) : rOfL xs (i + 1) = if (evAt xs i).w = 1 then rOfL xs i ++ oFl (opOf xs xs.length i) else rOfL xs i := by
  unfold rOfL
  rw [oCalls_succ]
  split
  · rw [List.map_append, flatO, List.flatMap_append]; simp [flatO]
  · rfl
theorem opOf_next {xs : List Ev3} {k i : Nat} : opOf xs (k + 1) i = if eNext xs i k = none ∧ i < k ∧ (evAt xs k).p = (evAt xs i).p then ⟨(evAt xs i).p, (evAt xs i).n, i, k, (evAt xs k).n⟩ else opOf xs k i := by
  unfold opOf
  rw [eNext]
  cases h : eNext xs i k with
  | some j => simp
  | none =>
    by_cases hc : i < k ∧ (evAt xs k).p = (evAt xs i).p
    · simp [hc]
    · simp [hc]
theorem opOf_e {xs : List Ev3} {k i : Nat} : (opOf xs k i).e < 0 ↔ eNext xs i k = none := by
  unfold opOf
  cases h : eNext xs i k with
  | some j => simp
  | none => simp
theorem opOf_psk (xs : List Ev3) (k i : Nat) : (opOf xs k i).p = (evAt xs i).p ∧ (opOf xs k i).k = (evAt xs i).n ∧ (opOf xs k i).s = i := by
  unfold opOf
  cases eNext xs i k <;> exact ⟨rfl, rfl, rfl⟩
theorem opOf_er {xs : List Ev3} {k i : Nat} (h : (opOf xs k i).e < 0) : (opOf xs k i).e = -1 ∧ (opOf xs k i).r = -1 := by
  rw [opOf_e] at h
  unfold opOf; rw [h]; exact ⟨rfl, rfl⟩
theorem opOf_full {xs : List Ev3} {k i n : Nat} (h : 0 ≤ (opOf xs k i).e) (hn : k ≤ n) : opOf xs n i = opOf xs k i := by
  cases hk : eNext xs i k with
  | none => have := (opOf_e (xs := xs) (k := k) (i := i)).2 hk; omega
  | some j =>
    have := eNext_stay hk (n - k)
    rw [show k + (n - k) = n by omega] at this
    unfold opOf; rw [hk, this]
set_option maxRecDepth 100000 in
set_option maxHeartbeats 2000000 in
theorem pf_rOf (xs : List Ev3) (hx : xs.length ≤ 100000) : PF Try.prog 9 [.iv (iFlat (flatE xs) xs.length 3)] fun r H' => (∃ a c, EChk xs a c ∧ ((c ≠ 0 ∧ r = .tup [.iv (iFlat [] 0 5), lt (.int .i64 c)]) ∨ (c = 0 ∧ r = .tup [.iv (iOps ((oCalls xs xs.length).map (opOf xs xs.length))), lt (.int .i64 0)]))) ∧ H' = [] := by
  refine SF.frozen ?_
  (refine SF_of_bodyX (aload tt) (aload_ok tyOK) Try.func9 rfl (by kernel_rfl) ?_; simp only [Try.ntmps9, List.length_cons, List.length_nil, Nat.reduceAdd, Nat.reduceSub, List.replicate_succ, List.replicate_zero, List.cons_append, List.nil_append])
  (repeat (first | (first | (with_reducible first | refine AX_block ?_ | refine AX_skip ?_ | refine AX_exit ?_ | refine AX_ret ?_) | ((with_reducible refine AX_if_t ?_ ?_); focus (simp only [go_sem]; done)) | ((with_reducible refine AX_if_f ?_ ?_); focus (simp only [go_sem]; done)) | (with_reducible refine AX_seq_k (fun K hK => ?_)) | ((with_reducible refine ContX.use (by assumption) ?_)) | (simp only [thenX, inBlockX, if_true, if_false, reduceCtorEq])) | (first | ((first | ((with_reducible refine XRes_op tyOK ?_ ?_); (focus (first | (with_reducible rfl) | ((simp (disch := omega) only [go_sem]); done)))) | ((with_reducible refine ADF_op tyOK ?_ ?_ ?_); (focus rfl); (focus (first | (with_reducible rfl) | ((simp (disch := omega) only [go_sem]); done)))) | ((with_reducible refine ADR_alloc1 tyOK ?_ ?_); (focus (first | (with_reducible rfl) | ((simp (disch := omega) only [go_sem]); done)))) | ((with_reducible refine ADX_op tyOK ?_ ?_ ?_); (focus rfl); (focus (first | (with_reducible rfl) | ((simp (disch := omega) only [go_sem]); done)))) | ((with_reducible refine ADR_free1 tyOK ?_ ?_ ?_); (focus rfl); (focus (first | (with_reducible rfl) | ((simp (disch := omega) only [go_sem]); done)))) | ((with_reducible refine ADR_free0 tyOK ?_ ?_ ?_); (focus rfl); (focus (first | (with_reducible rfl) | ((simp (disch := omega) only [go_sem]); done)))) | ((with_reducible refine ADR_read1 tyOK ?_ ?_ ?_); (focus rfl); (focus (first | (with_reducible rfl) | ((simp (disch := omega) only [go_sem]); done)))) | ((with_reducible refine ADR_chg1 tyOK ?_ ?_); (focus (first | (with_reducible rfl) | ((simp (disch := omega) only [go_sem]); done))))); simp (maxSteps := 2000000) (disch := omega) only [go_sem , flatE_w, flatE_p, flatE_n]; (first | (with_reducible refine XRes_id ?_) | (with_reducible refine ADF_id ?_) | (with_reducible refine ADR_id1 ?_) | (with_reducible refine ADX_id ?_))) | ((first | (with_reducible refine XRes_skip ?_ ?_) | (with_reducible refine ADF_skip (b := true) ?_ ?_) | (with_reducible refine ADX_skip ?_ ?_) | ((with_reducible refine ADR_skip1 ?_ ?_ ?_); (focus rfl))); (focus (first | rfl | ((simp (disch := omega) only [go_sem]); done))); (simp only [putL, List.set_cons_succ, List.set_cons_zero]))) | ((first | (with_reducible refine XRes_nil ?_) | (with_reducible refine ADF_nil ?_) | (with_reducible refine ADR_nil ?_) | (with_reducible refine ADX_nil ?_)); (first | refine hK _ ?_ | refine hK _ _ ?_); clear hK K) | ((first | (with_reducible refine AX_reg0 fun K hK => ?_) | (refine AX_drawG1 tyOK (by kernel_rfl) (by rfl) (by kernel_rfl) fun K hK => ?_) | (refine AX_drawT tyOK (by kernel_rfl) (by decide +kernel) fun K hK => ?_) | (refine AX_drawM1 (by kernel_rfl) (by rfl) (by decide +kernel) fun K hK => ?_) | (refine AX_drawA tyOK (by kernel_rfl) (by decide +kernel) fun K hK => ?_)); (first | simp only [go_sem, preN, effOp, runF, alM, mapOp, alD2, kdOf2, Bool.not_false, Bool.not_true, reduceCtorEq] | simp only [go_sem, preN, effOp, runF, alM, mapOp, Bool.not_false, Bool.not_true, reduceCtorEq] | simp only [go_sem, preN, effOp, runF, alD2, kdOf2, Bool.not_false, Bool.not_true, reduceCtorEq] | simp only [go_sem, alD2, kdOf2, Bool.not_false, Bool.not_true, reduceCtorEq] | simp only [go_sem, preN, effOp, runF, Bool.not_false, Bool.not_true, reduceCtorEq] | simp only [go_sem])) | fail))
  refine XRes_fn rfl (PF.among (idsA rfl) (pf_rCheck xs hx)) ?_
  rintro r H' ⟨r1, H1, ⟨⟨a, c, hc, rfl⟩, rfl⟩, rfl, rfl⟩
  simp only [AV.ren, renL, renH, List.map_nil, List.append_nil]
  by_cases h0 : c = 0
  · subst h0
    (repeat (first | (first | (with_reducible first | refine AX_block ?_ | refine AX_skip ?_ | refine AX_exit ?_ | refine AX_ret ?_) | ((with_reducible refine AX_if_t ?_ ?_); focus (simp only [go_sem]; done)) | ((with_reducible refine AX_if_f ?_ ?_); focus (simp only [go_sem]; done)) | (with_reducible refine AX_seq_k (fun K hK => ?_)) | ((with_reducible refine ContX.use (by assumption) ?_)) | (simp only [thenX, inBlockX, if_true, if_false, reduceCtorEq])) | (first | ((first | ((with_reducible refine XRes_op tyOK ?_ ?_); (focus (first | (with_reducible rfl) | ((simp (disch := omega) only [go_sem]); done)))) | ((with_reducible refine ADF_op tyOK ?_ ?_ ?_); (focus rfl); (focus (first | (with_reducible rfl) | ((simp (disch := omega) only [go_sem]); done)))) | ((with_reducible refine ADR_alloc1 tyOK ?_ ?_); (focus (first | (with_reducible rfl) | ((simp (disch := omega) only [go_sem]); done)))) | ((with_reducible refine ADX_op tyOK ?_ ?_ ?_); (focus rfl); (focus (first | (with_reducible rfl) | ((simp (disch := omega) only [go_sem]); done)))) | ((with_reducible refine ADR_free1 tyOK ?_ ?_ ?_); (focus rfl); (focus (first | (with_reducible rfl) | ((simp (disch := omega) only [go_sem]); done)))) | ((with_reducible refine ADR_free0 tyOK ?_ ?_ ?_); (focus rfl); (focus (first | (with_reducible rfl) | ((simp (disch := omega) only [go_sem]); done)))) | ((with_reducible refine ADR_read1 tyOK ?_ ?_ ?_); (focus rfl); (focus (first | (with_reducible rfl) | ((simp (disch := omega) only [go_sem]); done)))) | ((with_reducible refine ADR_chg1 tyOK ?_ ?_); (focus (first | (with_reducible rfl) | ((simp (disch := omega) only [go_sem]); done))))); simp (maxSteps := 2000000) (disch := omega) only [go_sem , flatE_w, flatE_p, flatE_n]; (first | (with_reducible refine XRes_id ?_) | (with_reducible refine ADF_id ?_) | (with_reducible refine ADR_id1 ?_) | (with_reducible refine ADX_id ?_))) | ((first | (with_reducible refine XRes_skip ?_ ?_) | (with_reducible refine ADF_skip (b := true) ?_ ?_) | (with_reducible refine ADX_skip ?_ ?_) | ((with_reducible refine ADR_skip1 ?_ ?_ ?_); (focus rfl))); (focus (first | rfl | ((simp (disch := omega) only [go_sem]); done))); (simp only [putL, List.set_cons_succ, List.set_cons_zero]))) | ((first | (with_reducible refine XRes_nil ?_) | (with_reducible refine ADF_nil ?_) | (with_reducible refine ADR_nil ?_) | (with_reducible refine ADX_nil ?_)); (first | refine hK _ ?_ | refine hK _ _ ?_); clear hK K) | ((first | (with_reducible refine AX_reg0 fun K hK => ?_) | (refine AX_drawG1 tyOK (by kernel_rfl) (by rfl) (by kernel_rfl) fun K hK => ?_) | (refine AX_drawT tyOK (by kernel_rfl) (by decide +kernel) fun K hK => ?_) | (refine AX_drawM1 (by kernel_rfl) (by rfl) (by decide +kernel) fun K hK => ?_) | (refine AX_drawA tyOK (by kernel_rfl) (by decide +kernel) fun K hK => ?_)); (first | simp only [go_sem, preN, effOp, runF, alM, mapOp, alD2, kdOf2, Bool.not_false, Bool.not_true, reduceCtorEq] | simp only [go_sem, preN, effOp, runF, alM, mapOp, Bool.not_false, Bool.not_true, reduceCtorEq] | simp only [go_sem, preN, effOp, runF, alD2, kdOf2, Bool.not_false, Bool.not_true, reduceCtorEq] | simp only [go_sem, alD2, kdOf2, Bool.not_false, Bool.not_true, reduceCtorEq] | simp only [go_sem, preN, effOp, runF, Bool.not_false, Bool.not_true, reduceCtorEq] | simp only [go_sem])) | fail))
    unfold iFlat
    refine AX_nil 6 47 5 rfl ?_
    (refine AX_wh (σ := Nat × Nat × List Int) [18, 19, 20, 21, 24, 25, 26, 27, 28, 29, 30, 31, 32, 33, 34, 35, 36, 37, 38, 39, 40, 41, 8, 42, 43, 9, 44, 45, 46, 47, 48, 49, 50, 51, 52, 55, 56, 57, 58, 59, 60, 61, 62, 63, 64, 65, 66, 67, 68, 69, 70, 71, 72, 73, 53, 54, 74, 75, 76, 77, 22, 23] (fun (i, n, ys) => [(7, lint i), (6, .osl 0 0 n 5)]) (fun (i, n, ys) => [some ⟨47, ys.map lint⟩]) (fun (i, n, ys) => []) (fun (i, n, ys) => i ≤ xs.length ∧ ys = rOfL xs i ∧ n = (oCalls xs i).length ∧ ys.length = n * 5) (fun (i, n, ys) => xs.length - i) (0, 0, []) (fun d => by first | ((simp only [deadS, updS, List.set_cons_succ, List.set_cons_zero, lint, List.length_nil, List.length_cons]); done) | ((simp only [deadS, updS, List.set_cons_succ, List.set_cons_zero, lint, List.length_nil, List.length_cons]); rfl) | rfl) (by first | (with_reducible rfl) | (simp only [hinit]; done) | rfl) (by first | (with_reducible rfl) | rfl) (by first | exact ⟨Nat.zero_le _, rfl, rfl, rfl⟩) ?_; rintro ⟨i, n, ys⟩ d fr hfr ⟨hi, hy, hn, hl⟩; simp only [updS, deadS, List.set_cons_succ, List.set_cons_zero, lint] at hfr; subst hfr; (try dsimp only))
    have hnn : n ≤ i := by rw [hn]; exact oCalls_len xs i
    by_cases hlt : i < xs.length
    · by_cases hw : (evAt xs i).w = 1
      · (repeat (first | (first | (with_reducible first | refine AX_block ?_ | refine AX_skip ?_ | refine AX_exit ?_ | refine AX_ret ?_) | ((with_reducible refine AX_if_t ?_ ?_); focus (simp only [go_sem]; done)) | ((with_reducible refine AX_if_f ?_ ?_); focus (simp only [go_sem]; done)) | (with_reducible refine AX_seq_k (fun K hK => ?_)) | ((with_reducible refine ContX.use (by assumption) ?_)) | (simp only [thenX, inBlockX, if_true, if_false, reduceCtorEq])) | (first | ((first | ((with_reducible refine XRes_op tyOK ?_ ?_); (focus (first | (with_reducible rfl) | ((simp (disch := omega) only [go_sem]); done)))) | ((with_reducible refine ADF_op tyOK ?_ ?_ ?_); (focus rfl); (focus (first | (with_reducible rfl) | ((simp (disch := omega) only [go_sem]); done)))) | ((with_reducible refine ADR_alloc1 tyOK ?_ ?_); (focus (first | (with_reducible rfl) | ((simp (disch := omega) only [go_sem]); done)))) | ((with_reducible refine ADX_op tyOK ?_ ?_ ?_); (focus rfl); (focus (first | (with_reducible rfl) | ((simp (disch := omega) only [go_sem]); done)))) | ((with_reducible refine ADR_free1 tyOK ?_ ?_ ?_); (focus rfl); (focus (first | (with_reducible rfl) | ((simp (disch := omega) only [go_sem]); done)))) | ((with_reducible refine ADR_free0 tyOK ?_ ?_ ?_); (focus rfl); (focus (first | (with_reducible rfl) | ((simp (disch := omega) only [go_sem]); done)))) | ((with_reducible refine ADR_read1 tyOK ?_ ?_ ?_); (focus rfl); (focus (first | (with_reducible rfl) | ((simp (disch := omega) only [go_sem]); done)))) | ((with_reducible refine ADR_chg1 tyOK ?_ ?_); (focus (first | (with_reducible rfl) | ((simp (disch := omega) only [go_sem]); done))))); simp (maxSteps := 2000000) (disch := omega) only [go_sem , flatE_w, flatE_p, flatE_n]; (first | (with_reducible refine XRes_id ?_) | (with_reducible refine ADF_id ?_) | (with_reducible refine ADR_id1 ?_) | (with_reducible refine ADX_id ?_))) | ((first | (with_reducible refine XRes_skip ?_ ?_) | (with_reducible refine ADF_skip (b := true) ?_ ?_) | (with_reducible refine ADX_skip ?_ ?_) | ((with_reducible refine ADR_skip1 ?_ ?_ ?_); (focus rfl))); (focus (first | rfl | ((simp (disch := omega) only [go_sem]); done))); (simp only [putL, List.set_cons_succ, List.set_cons_zero]))) | ((first | (with_reducible refine XRes_nil ?_) | (with_reducible refine ADF_nil ?_) | (with_reducible refine ADR_nil ?_) | (with_reducible refine ADX_nil ?_)); (first | refine hK _ ?_ | refine hK _ _ ?_); clear hK K) | ((first | (with_reducible refine AX_reg0 fun K hK => ?_) | (refine AX_drawG1 tyOK (by kernel_rfl) (by rfl) (by kernel_rfl) fun K hK => ?_) | (refine AX_drawT tyOK (by kernel_rfl) (by decide +kernel) fun K hK => ?_) | (refine AX_drawM1 (by kernel_rfl) (by rfl) (by decide +kernel) fun K hK => ?_) | (refine AX_drawA tyOK (by kernel_rfl) (by decide +kernel) fun K hK => ?_)); (first | simp only [go_sem, preN, effOp, runF, alM, mapOp, alD2, kdOf2, Bool.not_false, Bool.not_true, reduceCtorEq] | simp only [go_sem, preN, effOp, runF, alM, mapOp, Bool.not_false, Bool.not_true, reduceCtorEq] | simp only [go_sem, preN, effOp, runF, alD2, kdOf2, Bool.not_false, Bool.not_true, reduceCtorEq] | simp only [go_sem, alD2, kdOf2, Bool.not_false, Bool.not_true, reduceCtorEq] | simp only [go_sem, preN, effOp, runF, Bool.not_false, Bool.not_true, reduceCtorEq] | simp only [go_sem])) | fail))
        have hz : opOf xs (i + 1) i = ⟨(evAt xs i).p, (evAt xs i).n, i, -1, -1⟩ := by unfold opOf; rw [eNext_low (by omega)]
        have hinit : (opOf xs (i + 1) i).e = -1 ∧ (opOf xs (i + 1) i).r = -1 := by rw [hz]; exact ⟨rfl, rfl⟩
        (refine AX_wh (σ := Nat) [44, 45, 46, 47, 48, 49, 50, 51, 52, 55, 56, 57, 58, 59, 60, 61, 62, 63, 64, 65, 66, 67, 68, 69, 70, 71, 72, 73, 53, 54] (fun k => [(9, lint k)]) (fun k => [some ⟨47, ys.map lint⟩, some ⟨47, [lt (.int .i64 (evAt xs i).p), lt (.int .i64 (evAt xs i).n), lt (.int .i64 i), lt (.int .i64 (opOf xs k i).e), lt (.int .i64 (opOf xs k i).r)]⟩]) (fun k => []) (fun k => i + 1 ≤ k ∧ k ≤ xs.length) (fun k => xs.length - k) (i + 1) (fun d => by first | ((simp only [deadS, updS, List.set_cons_succ, List.set_cons_zero, lint, List.length_nil, List.length_cons]); done) | ((simp only [deadS, updS, List.set_cons_succ, List.set_cons_zero, lint, List.length_nil, List.length_cons]); rfl) | rfl) (by first | (with_reducible rfl) | (simp only [hinit]; done) | rfl) (by first | (with_reducible rfl) | rfl) (by first | exact ⟨Nat.le_refl _, hlt⟩) ?_; rintro k d fr hfr ⟨hk, hk2⟩; simp only [updS, deadS, List.set_cons_succ, List.set_cons_zero, lint] at hfr; subst hfr; (try dsimp only))
        (repeat' (first | (first | (with_reducible first | refine AX_block ?_ | refine AX_skip ?_ | refine AX_exit ?_ | refine AX_ret ?_) | ((with_reducible refine AX_if_t ?_ ?_); focus (simp only [go_sem]; done)) | ((with_reducible refine AX_if_f ?_ ?_); focus (simp only [go_sem]; done)) | (with_reducible refine AX_seq_k (fun K hK => ?_)) | ((with_reducible refine ContX.use (by assumption) ?_)) | (simp only [thenX, inBlockX, if_true, if_false, reduceCtorEq])) | (first | ((first | ((with_reducible refine XRes_op tyOK ?_ ?_); (focus (first | (with_reducible rfl) | ((simp (disch := omega) only [go_sem]); done)))) | ((with_reducible refine ADF_op tyOK ?_ ?_ ?_); (focus rfl); (focus (first | (with_reducible rfl) | ((simp (disch := omega) only [go_sem]); done)))) | ((with_reducible refine ADR_alloc1 tyOK ?_ ?_); (focus (first | (with_reducible rfl) | ((simp (disch := omega) only [go_sem]); done)))) | ((with_reducible refine ADX_op tyOK ?_ ?_ ?_); (focus rfl); (focus (first | (with_reducible rfl) | ((simp (disch := omega) only [go_sem]); done)))) | ((with_reducible refine ADR_free1 tyOK ?_ ?_ ?_); (focus rfl); (focus (first | (with_reducible rfl) | ((simp (disch := omega) only [go_sem]); done)))) | ((with_reducible refine ADR_free0 tyOK ?_ ?_ ?_); (focus rfl); (focus (first | (with_reducible rfl) | ((simp (disch := omega) only [go_sem]); done)))) | ((with_reducible refine ADR_read1 tyOK ?_ ?_ ?_); (focus rfl); (focus (first | (with_reducible rfl) | ((simp (disch := omega) only [go_sem]); done)))) | ((with_reducible refine ADR_chg1 tyOK ?_ ?_); (focus (first | (with_reducible rfl) | ((simp (disch := omega) only [go_sem]); done))))); simp (maxSteps := 2000000) (disch := omega) only [go_sem , flatE_w, flatE_p, flatE_n]; (first | (with_reducible refine XRes_id ?_) | (with_reducible refine ADF_id ?_) | (with_reducible refine ADR_id1 ?_) | (with_reducible refine ADX_id ?_))) | ((first | (with_reducible refine XRes_skip ?_ ?_) | (with_reducible refine ADF_skip (b := true) ?_ ?_) | (with_reducible refine ADX_skip ?_ ?_) | ((with_reducible refine ADR_skip1 ?_ ?_ ?_); (focus rfl))); (focus (first | rfl | ((simp (disch := omega) only [go_sem]); done))); (simp only [putL, List.set_cons_succ, List.set_cons_zero]))) | ((first | (with_reducible refine XRes_nil ?_) | (with_reducible refine ADF_nil ?_) | (with_reducible refine ADR_nil ?_) | (with_reducible refine ADX_nil ?_)); (first | refine hK _ ?_ | refine hK _ _ ?_); clear hK K) | ((first | (with_reducible refine AX_reg0 fun K hK => ?_) | (refine AX_drawG1 tyOK (by kernel_rfl) (by rfl) (by kernel_rfl) fun K hK => ?_) | (refine AX_drawT tyOK (by kernel_rfl) (by decide +kernel) fun K hK => ?_) | (refine AX_drawM1 (by kernel_rfl) (by rfl) (by decide +kernel) fun K hK => ?_) | (refine AX_drawA tyOK (by kernel_rfl) (by decide +kernel) fun K hK => ?_)); (first | simp only [go_sem, preN, effOp, runF, alM, mapOp, alD2, kdOf2, Bool.not_false, Bool.not_true, reduceCtorEq] | simp only [go_sem, preN, effOp, runF, alM, mapOp, Bool.not_false, Bool.not_true, reduceCtorEq] | simp only [go_sem, preN, effOp, runF, alD2, kdOf2, Bool.not_false, Bool.not_true, reduceCtorEq] | simp only [go_sem, alD2, kdOf2, Bool.not_false, Bool.not_true, reduceCtorEq] | simp only [go_sem, preN, effOp, runF, Bool.not_false, Bool.not_true, reduceCtorEq] | simp only [go_sem])) | fail | ((first | (refine XRes_splitG (by rfl) (fun hc => ?_) (fun hc => ?_)) | (refine ADF_splitG (by rfl) (fun hc => ?_) (fun hc => ?_))) <;> (try simp only [eqRes, List.cons_beq_cons, Bool.and_eq_true, Bool.not_eq_true, Bool.and_eq_false_iff, decide_eq_true_eq, decide_eq_false_iff_not, bne_iff_ne, beq_iff_eq, bne_eq_false_iff_eq, beq_eq_false_iff_ne, Bool.not_eq_true', Bool.not_eq_false', ne_eq, Int.not_lt, Int.not_le, Decidable.not_not] at hc) <;> simp only [List.set_cons_succ, List.set_cons_zero]) | (first | ((with_reducible refine AX_if_t ?_ ?_); focus (simp (maxSteps := 2000000) (disch := omega) only [go_sem , flatE_w, flatE_p, flatE_n]; done)) | ((with_reducible refine AX_if_f ?_ ?_); focus (simp (maxSteps := 2000000) (disch := omega) only [go_sem , flatE_w, flatE_p, flatE_n]; done)) | (refine AX_cond _ (by rfl) (fun hc => ?_) (fun hc => ?_) <;> (try simp only [eqRes, List.cons_beq_cons, Bool.and_eq_true, Bool.not_eq_true, Bool.and_eq_false_iff, decide_eq_true_eq, decide_eq_false_iff_not, bne_iff_ne, beq_iff_eq, bne_eq_false_iff_eq, beq_eq_false_iff_ne, Bool.not_eq_true', Bool.not_eq_false', ne_eq, Int.not_lt, Int.not_le, Decidable.not_not] at hc)))))
        · have e : opOf xs (k + 1) i = ⟨(evAt xs i).p, (evAt xs i).n, i, k, (evAt xs k).n⟩ := by rw [opOf_next, if_pos ⟨opOf_e.1 (by assumption), by omega, hc⟩]
          exact whx_end (k + 1) ⟨by omega, by omega⟩ (by omega) rfl (by simp only [e]) (fun d => by (simp only [deadS, updS, List.set_cons_succ, List.set_cons_zero, lint, List.length_nil, List.length_cons]))
        · have e : opOf xs (k + 1) i = opOf xs k i := by rw [opOf_next, if_neg (fun h => hc h.2.2)]
          exact whx_end (k + 1) ⟨by omega, by omega⟩ (by omega) rfl (by simp only [e]) (fun d => by (simp only [deadS, updS, List.set_cons_succ, List.set_cons_zero, lint, List.length_nil, List.length_cons]))
        all_goals
          have e : opOf xs xs.length i = opOf xs k i := by first | exact opOf_full hc (by omega) | rw [show k = xs.length by omega]
          obtain ⟨p1, p2, p3⟩ := opOf_psk xs k i
          exact whx_ren [3] (i + 1, n + 1, ys ++ [(evAt xs i).p, (evAt xs i).n, (i : Int), (opOf xs k i).e, (opOf xs k i).r]) ⟨by omega, by rw [rOfL_succ, if_pos hw, hy, e, oFl, p1, p2, p3], by rw [oCalls_succ, if_pos hw, List.length_append, hn]; rfl, by simp; omega⟩ (by (first | omega | (dsimp only; omega) | (simp only; omega))) rfl (by decide) (by decide) (by (simp (maxSteps := 2000000) (disch := omega) only [go_sem, lint])) (by (simp (maxSteps := 2000000) (disch := omega) only [go_sem, lint])) (by (simp (maxSteps := 2000000) (disch := omega) only [go_sem, lint])) (fun d => by (simp (maxSteps := 2000000) (disch := omega) only [go_sem, lint]))
      · (repeat' (first | (first | (with_reducible first | refine AX_block ?_ | refine AX_skip ?_ | refine AX_exit ?_ | refine AX_ret ?_) | ((with_reducible refine AX_if_t ?_ ?_); focus (simp only [go_sem]; done)) | ((with_reducible refine AX_if_f ?_ ?_); focus (simp only [go_sem]; done)) | (with_reducible refine AX_seq_k (fun K hK => ?_)) | ((with_reducible refine ContX.use (by assumption) ?_)) | (simp only [thenX, inBlockX, if_true, if_false, reduceCtorEq])) | (first | ((first | ((with_reducible refine XRes_op tyOK ?_ ?_); (focus (first | (with_reducible rfl) | ((simp (disch := omega) only [go_sem]); done)))) | ((with_reducible refine ADF_op tyOK ?_ ?_ ?_); (focus rfl); (focus (first | (with_reducible rfl) | ((simp (disch := omega) only [go_sem]); done)))) | ((with_reducible refine ADR_alloc1 tyOK ?_ ?_); (focus (first | (with_reducible rfl) | ((simp (disch := omega) only [go_sem]); done)))) | ((with_reducible refine ADX_op tyOK ?_ ?_ ?_); (focus rfl); (focus (first | (with_reducible rfl) | ((simp (disch := omega) only [go_sem]); done)))) | ((with_reducible refine ADR_free1 tyOK ?_ ?_ ?_); (focus rfl); (focus (first | (with_reducible rfl) | ((simp (disch := omega) only [go_sem]); done)))) | ((with_reducible refine ADR_free0 tyOK ?_ ?_ ?_); (focus rfl); (focus (first | (with_reducible rfl) | ((simp (disch := omega) only [go_sem]); done)))) | ((with_reducible refine ADR_read1 tyOK ?_ ?_ ?_); (focus rfl); (focus (first | (with_reducible rfl) | ((simp (disch := omega) only [go_sem]); done)))) | ((with_reducible refine ADR_chg1 tyOK ?_ ?_); (focus (first | (with_reducible rfl) | ((simp (disch := omega) only [go_sem]); done))))); simp (maxSteps := 2000000) (disch := omega) only [go_sem , flatE_w, flatE_p, flatE_n]; (first | (with_reducible refine XRes_id ?_) | (with_reducible refine ADF_id ?_) | (with_reducible refine ADR_id1 ?_) | (with_reducible refine ADX_id ?_))) | ((first | (with_reducible refine XRes_skip ?_ ?_) | (with_reducible refine ADF_skip (b := true) ?_ ?_) | (with_reducible refine ADX_skip ?_ ?_) | ((with_reducible refine ADR_skip1 ?_ ?_ ?_); (focus rfl))); (focus (first | rfl | ((simp (disch := omega) only [go_sem]); done))); (simp only [putL, List.set_cons_succ, List.set_cons_zero]))) | ((first | (with_reducible refine XRes_nil ?_) | (with_reducible refine ADF_nil ?_) | (with_reducible refine ADR_nil ?_) | (with_reducible refine ADX_nil ?_)); (first | refine hK _ ?_ | refine hK _ _ ?_); clear hK K) | ((first | (with_reducible refine AX_reg0 fun K hK => ?_) | (refine AX_drawG1 tyOK (by kernel_rfl) (by rfl) (by kernel_rfl) fun K hK => ?_) | (refine AX_drawT tyOK (by kernel_rfl) (by decide +kernel) fun K hK => ?_) | (refine AX_drawM1 (by kernel_rfl) (by rfl) (by decide +kernel) fun K hK => ?_) | (refine AX_drawA tyOK (by kernel_rfl) (by decide +kernel) fun K hK => ?_)); (first | simp only [go_sem, preN, effOp, runF, alM, mapOp, alD2, kdOf2, Bool.not_false, Bool.not_true, reduceCtorEq] | simp only [go_sem, preN, effOp, runF, alM, mapOp, Bool.not_false, Bool.not_true, reduceCtorEq] | simp only [go_sem, preN, effOp, runF, alD2, kdOf2, Bool.not_false, Bool.not_true, reduceCtorEq] | simp only [go_sem, alD2, kdOf2, Bool.not_false, Bool.not_true, reduceCtorEq] | simp only [go_sem, preN, effOp, runF, Bool.not_false, Bool.not_true, reduceCtorEq] | simp only [go_sem])) | fail | ((first | (refine XRes_splitG (by rfl) (fun hc => ?_) (fun hc => ?_)) | (refine ADF_splitG (by rfl) (fun hc => ?_) (fun hc => ?_))) <;> (try simp only [eqRes, List.cons_beq_cons, Bool.and_eq_true, Bool.not_eq_true, Bool.and_eq_false_iff, decide_eq_true_eq, decide_eq_false_iff_not, bne_iff_ne, beq_iff_eq, bne_eq_false_iff_eq, beq_eq_false_iff_ne, Bool.not_eq_true', Bool.not_eq_false', ne_eq, Int.not_lt, Int.not_le, Decidable.not_not] at hc) <;> simp only [List.set_cons_succ, List.set_cons_zero]) | (first | ((with_reducible refine AX_if_t ?_ ?_); focus (simp (maxSteps := 2000000) (disch := omega) only [go_sem , flatE_w, flatE_p, flatE_n]; done)) | ((with_reducible refine AX_if_f ?_ ?_); focus (simp (maxSteps := 2000000) (disch := omega) only [go_sem , flatE_w, flatE_p, flatE_n]; done)) | (refine AX_cond _ (by rfl) (fun hc => ?_) (fun hc => ?_) <;> (try simp only [eqRes, List.cons_beq_cons, Bool.and_eq_true, Bool.not_eq_true, Bool.and_eq_false_iff, decide_eq_true_eq, decide_eq_false_iff_not, bne_iff_ne, beq_iff_eq, bne_eq_false_iff_eq, beq_eq_false_iff_ne, Bool.not_eq_true', Bool.not_eq_false', ne_eq, Int.not_lt, Int.not_le, Decidable.not_not] at hc)))))
        exact whx_ren [0] (i + 1, n, ys) ⟨by omega, by rw [rOfL_succ, if_neg hw, hy], by rw [oCalls_succ, if_neg hw, hn], hl⟩ (by (first | omega | (dsimp only; omega) | (simp only; omega))) rfl (by decide) (by decide) (by (simp (maxSteps := 2000000) (disch := omega) only [go_sem, lint])) (by (simp (maxSteps := 2000000) (disch := omega) only [go_sem, lint])) (by (simp (maxSteps := 2000000) (disch := omega) only [go_sem, lint])) (fun d => by (simp (maxSteps := 2000000) (disch := omega) only [go_sem, lint]))
    · have hii : i = xs.length := by omega
      subst hii
      (repeat' (first | (first | (with_reducible first | refine AX_block ?_ | refine AX_skip ?_ | refine AX_exit ?_ | refine AX_ret ?_) | ((with_reducible refine AX_if_t ?_ ?_); focus (simp only [go_sem]; done)) | ((with_reducible refine AX_if_f ?_ ?_); focus (simp only [go_sem]; done)) | (with_reducible refine AX_seq_k (fun K hK => ?_)) | ((with_reducible refine ContX.use (by assumption) ?_)) | (simp only [thenX, inBlockX, if_true, if_false, reduceCtorEq])) | (first | ((first | ((with_reducible refine XRes_op tyOK ?_ ?_); (focus (first | (with_reducible rfl) | ((simp (disch := omega) only [go_sem]); done)))) | ((with_reducible refine ADF_op tyOK ?_ ?_ ?_); (focus rfl); (focus (first | (with_reducible rfl) | ((simp (disch := omega) only [go_sem]); done)))) | ((with_reducible refine ADR_alloc1 tyOK ?_ ?_); (focus (first | (with_reducible rfl) | ((simp (disch := omega) only [go_sem]); done)))) | ((with_reducible refine ADX_op tyOK ?_ ?_ ?_); (focus rfl); (focus (first | (with_reducible rfl) | ((simp (disch := omega) only [go_sem]); done)))) | ((with_reducible refine ADR_free1 tyOK ?_ ?_ ?_); (focus rfl); (focus (first | (with_reducible rfl) | ((simp (disch := omega) only [go_sem]); done)))) | ((with_reducible refine ADR_free0 tyOK ?_ ?_ ?_); (focus rfl); (focus (first | (with_reducible rfl) | ((simp (disch := omega) only [go_sem]); done)))) | ((with_reducible refine ADR_read1 tyOK ?_ ?_ ?_); (focus rfl); (focus (first | (with_reducible rfl) | ((simp (disch := omega) only [go_sem]); done)))) | ((with_reducible refine ADR_chg1 tyOK ?_ ?_); (focus (first | (with_reducible rfl) | ((simp (disch := omega) only [go_sem]); done))))); simp (maxSteps := 2000000) (disch := omega) only [go_sem , flatE_w, flatE_p, flatE_n]; (first | (with_reducible refine XRes_id ?_) | (with_reducible refine ADF_id ?_) | (with_reducible refine ADR_id1 ?_) | (with_reducible refine ADX_id ?_))) | ((first | (with_reducible refine XRes_skip ?_ ?_) | (with_reducible refine ADF_skip (b := true) ?_ ?_) | (with_reducible refine ADX_skip ?_ ?_) | ((with_reducible refine ADR_skip1 ?_ ?_ ?_); (focus rfl))); (focus (first | rfl | ((simp (disch := omega) only [go_sem]); done))); (simp only [putL, List.set_cons_succ, List.set_cons_zero]))) | ((first | (with_reducible refine XRes_nil ?_) | (with_reducible refine ADF_nil ?_) | (with_reducible refine ADR_nil ?_) | (with_reducible refine ADX_nil ?_)); (first | refine hK _ ?_ | refine hK _ _ ?_); clear hK K) | ((first | (with_reducible refine AX_reg0 fun K hK => ?_) | (refine AX_drawG1 tyOK (by kernel_rfl) (by rfl) (by kernel_rfl) fun K hK => ?_) | (refine AX_drawT tyOK (by kernel_rfl) (by decide +kernel) fun K hK => ?_) | (refine AX_drawM1 (by kernel_rfl) (by rfl) (by decide +kernel) fun K hK => ?_) | (refine AX_drawA tyOK (by kernel_rfl) (by decide +kernel) fun K hK => ?_)); (first | simp only [go_sem, preN, effOp, runF, alM, mapOp, alD2, kdOf2, Bool.not_false, Bool.not_true, reduceCtorEq] | simp only [go_sem, preN, effOp, runF, alM, mapOp, Bool.not_false, Bool.not_true, reduceCtorEq] | simp only [go_sem, preN, effOp, runF, alD2, kdOf2, Bool.not_false, Bool.not_true, reduceCtorEq] | simp only [go_sem, alD2, kdOf2, Bool.not_false, Bool.not_true, reduceCtorEq] | simp only [go_sem, preN, effOp, runF, Bool.not_false, Bool.not_true, reduceCtorEq] | simp only [go_sem])) | fail | ((first | (refine XRes_splitG (by rfl) (fun hc => ?_) (fun hc => ?_)) | (refine ADF_splitG (by rfl) (fun hc => ?_) (fun hc => ?_))) <;> (try simp only [eqRes, List.cons_beq_cons, Bool.and_eq_true, Bool.not_eq_true, Bool.and_eq_false_iff, decide_eq_true_eq, decide_eq_false_iff_not, bne_iff_ne, beq_iff_eq, bne_eq_false_iff_eq, beq_eq_false_iff_ne, Bool.not_eq_true', Bool.not_eq_false', ne_eq, Int.not_lt, Int.not_le, Decidable.not_not] at hc) <;> simp only [List.set_cons_succ, List.set_cons_zero]) | (first | ((with_reducible refine AX_if_t ?_ ?_); focus (simp (maxSteps := 2000000) (disch := omega) only [go_sem , flatE_w, flatE_p, flatE_n]; done)) | ((with_reducible refine AX_if_f ?_ ?_); focus (simp (maxSteps := 2000000) (disch := omega) only [go_sem , flatE_w, flatE_p, flatE_n]; done)) | (refine AX_cond _ (by rfl) (fun hc => ?_) (fun hc => ?_) <;> (try simp only [eqRes, List.cons_beq_cons, Bool.and_eq_true, Bool.not_eq_true, Bool.and_eq_false_iff, decide_eq_true_eq, decide_eq_false_iff_not, bne_iff_ne, beq_iff_eq, bne_eq_false_iff_eq, beq_eq_false_iff_ne, Bool.not_eq_true', Bool.not_eq_false', ne_eq, Int.not_lt, Int.not_le, Decidable.not_not] at hc)))))
      (simp only [bodyX]; refine ⟨_, by simp only [aresults, aresult, XS.as, Try.results9, aload, List.getD_cons_succ, List.getD_cons_zero, List.getElem?_cons_succ, List.getElem?_cons_zero, Option.bind_some]; rfl, ?_⟩)
      exact ⟨_, Snap.pair (snap_flat rfl (by decide) hl) (.same _ (.iv _)), ⟨_, _, hc, .inr ⟨rfl, by rw [hy, iOps, List.length_map, hn]; rfl⟩⟩, trivial⟩
  · (repeat' (first | (first | (with_reducible first | refine AX_block ?_ | refine AX_skip ?_ | refine AX_exit ?_ | refine AX_ret ?_) | ((with_reducible refine AX_if_t ?_ ?_); focus (simp only [go_sem]; done)) | ((with_reducible refine AX_if_f ?_ ?_); focus (simp only [go_sem]; done)) | (with_reducible refine AX_seq_k (fun K hK => ?_)) | ((with_reducible refine ContX.use (by assumption) ?_)) | (simp only [thenX, inBlockX, if_true, if_false, reduceCtorEq])) | (first | ((first | ((with_reducible refine XRes_op tyOK ?_ ?_); (focus (first | (with_reducible rfl) | ((simp (disch := omega) only [go_sem]); done)))) | ((with_reducible refine ADF_op tyOK ?_ ?_ ?_); (focus rfl); (focus (first | (with_reducible rfl) | ((simp (disch := omega) only [go_sem]); done)))) | ((with_reducible refine ADR_alloc1 tyOK ?_ ?_); (focus (first | (with_reducible rfl) | ((simp (disch := omega) only [go_sem]); done)))) | ((with_reducible refine ADX_op tyOK ?_ ?_ ?_); (focus rfl); (focus (first | (with_reducible rfl) | ((simp (disch := omega) only [go_sem]); done)))) | ((with_reducible refine ADR_free1 tyOK ?_ ?_ ?_); (focus rfl); (focus (first | (with_reducible rfl) | ((simp (disch := omega) only [go_sem]); done)))) | ((with_reducible refine ADR_free0 tyOK ?_ ?_ ?_); (focus rfl); (focus (first | (with_reducible rfl) | ((simp (disch := omega) only [go_sem]); done)))) | ((with_reducible refine ADR_read1 tyOK ?_ ?_ ?_); (focus rfl); (focus (first | (with_reducible rfl) | ((simp (disch := omega) only [go_sem]); done)))) | ((with_reducible refine ADR_chg1 tyOK ?_ ?_); (focus (first | (with_reducible rfl) | ((simp (disch := omega) only [go_sem]); done))))); simp (maxSteps := 2000000) (disch := omega) only [go_sem , flatE_w, flatE_p, flatE_n]; (first | (with_reducible refine XRes_id ?_) | (with_reducible refine ADF_id ?_) | (with_reducible refine ADR_id1 ?_) | (with_reducible refine ADX_id ?_))) | ((first | (with_reducible refine XRes_skip ?_ ?_) | (with_reducible refine ADF_skip (b := true) ?_ ?_) | (with_reducible refine ADX_skip ?_ ?_) | ((with_reducible refine ADR_skip1 ?_ ?_ ?_); (focus rfl))); (focus (first | rfl | ((simp (disch := omega) only [go_sem]); done))); (simp only [putL, List.set_cons_succ, List.set_cons_zero]))) | ((first | (with_reducible refine XRes_nil ?_) | (with_reducible refine ADF_nil ?_) | (with_reducible refine ADR_nil ?_) | (with_reducible refine ADX_nil ?_)); (first | refine hK _ ?_ | refine hK _ _ ?_); clear hK K) | ((first | (with_reducible refine AX_reg0 fun K hK => ?_) | (refine AX_drawG1 tyOK (by kernel_rfl) (by rfl) (by kernel_rfl) fun K hK => ?_) | (refine AX_drawT tyOK (by kernel_rfl) (by decide +kernel) fun K hK => ?_) | (refine AX_drawM1 (by kernel_rfl) (by rfl) (by decide +kernel) fun K hK => ?_) | (refine AX_drawA tyOK (by kernel_rfl) (by decide +kernel) fun K hK => ?_)); (first | simp only [go_sem, preN, effOp, runF, alM, mapOp, alD2, kdOf2, Bool.not_false, Bool.not_true, reduceCtorEq] | simp only [go_sem, preN, effOp, runF, alM, mapOp, Bool.not_false, Bool.not_true, reduceCtorEq] | simp only [go_sem, preN, effOp, runF, alD2, kdOf2, Bool.not_false, Bool.not_true, reduceCtorEq] | simp only [go_sem, alD2, kdOf2, Bool.not_false, Bool.not_true, reduceCtorEq] | simp only [go_sem, preN, effOp, runF, Bool.not_false, Bool.not_true, reduceCtorEq] | simp only [go_sem])) | fail | ((first | (refine XRes_splitG (by rfl) (fun hc => ?_) (fun hc => ?_)) | (refine ADF_splitG (by rfl) (fun hc => ?_) (fun hc => ?_))) <;> (try simp only [eqRes, List.cons_beq_cons, Bool.and_eq_true, Bool.not_eq_true, Bool.and_eq_false_iff, decide_eq_true_eq, decide_eq_false_iff_not, bne_iff_ne, beq_iff_eq, bne_eq_false_iff_eq, beq_eq_false_iff_ne, Bool.not_eq_true', Bool.not_eq_false', ne_eq, Int.not_lt, Int.not_le, Decidable.not_not] at hc) <;> simp only [List.set_cons_succ, List.set_cons_zero]) | (first | ((with_reducible refine AX_if_t ?_ ?_); focus (simp (maxSteps := 2000000) (disch := omega) only [go_sem , flatE_w, flatE_p, flatE_n]; done)) | ((with_reducible refine AX_if_f ?_ ?_); focus (simp (maxSteps := 2000000) (disch := omega) only [go_sem , flatE_w, flatE_p, flatE_n]; done)) | (refine AX_cond _ (by rfl) (fun hc => ?_) (fun hc => ?_) <;> (try simp only [eqRes, List.cons_beq_cons, Bool.and_eq_true, Bool.not_eq_true, Bool.and_eq_false_iff, decide_eq_true_eq, decide_eq_false_iff_not, bne_iff_ne, beq_iff_eq, bne_eq_false_iff_eq, beq_eq_false_iff_ne, Bool.not_eq_true', Bool.not_eq_false', ne_eq, Int.not_lt, Int.not_le, Decidable.not_not] at hc)))))
    (simp only [bodyX]; refine ⟨_, by simp only [aresults, aresult, XS.as, Try.results9, aload, List.getD_cons_succ, List.getD_cons_zero, List.getElem?_cons_succ, List.getElem?_cons_zero, Option.bind_some]; rfl, ?_⟩)
    exact ⟨_, Snap.pair (.iv _ _ (.nil _ _)) (.same _ (.iv _)), ⟨_, _, hc, .inl ⟨h0, rfl⟩⟩, trivial⟩
end Go.Proofs.Ytmjkhjebeebahaa
namespace Go.Proofs.Ytmjkhjebeebahaa
set_option linter.unusedVariables false
def oIx (xs : List Ev3) : Nat → Int → Option Int
  | 0 => fun _ => none
  | k + 1 => if (evAt xs k).w = 1 then updF (oIx xs k) (evAt xs k).p ((oCalls xs k).length : Int) else oIx xs k
theorem eWhere_is {xs : List Ev3} {p : Int} : ∀ {k}, 0 ≤ eWhere xs k p → (evAt xs (eWhere xs k p).toNat).p = p ∧ eNext xs (eWhere xs k p).toNat k = none
  | 0, h => by unfold eWhere at h; omega
  | k + 1, h => by
    unfold eWhere at h ⊢
    split
    · rename_i hp
      simp only [Int.toNat_natCast]
      exact ⟨hp, eNext_low (Nat.le_refl _)⟩
    · rename_i hp
      rw [if_neg hp] at h
      obtain ⟨h1, h2⟩ := eWhere_is h
      refine ⟨h1, ?_⟩
      unfold eNext
      rw [h2]
      simp only
      rw [if_neg (fun e => hp (e.2.trans h1))]
theorem eWhere_of {xs : List Ev3} {i : Nat} : ∀ {k}, i < k → eNext xs i k = none → eWhere xs k (evAt xs i).p = i
  | 0, h, _ => by omega
  | k + 1, h, hn => by
    unfold eNext at hn
    cases hk : eNext xs i k with
    | some j => rw [hk] at hn; cases hn
    | none =>
      rw [hk] at hn
      simp only at hn
      unfold eWhere
      by_cases hik : i = k
      · subst hik; rw [if_pos rfl]
      · rw [if_neg (fun e => by rw [if_pos ⟨by omega, e⟩] at hn; cases hn)]
        exact eWhere_of (by omega) hk
theorem oIx_at {xs : List Ev3} {p : Int} : ∀ {k}, eLast xs k p = 1 → oIx xs k p = some ((oCalls xs (eWhere xs k p).toNat).length : Int)
  | 0, h => by cases h
  | k + 1, h => by
    unfold eLast at h
    unfold oIx eWhere
    by_cases hp : (evAt xs k).p = p
    · rw [if_pos hp] at h
      rw [if_pos h, if_pos hp]
      unfold updF
      rw [if_pos hp.symm]; simp
    · rw [if_neg hp] at h
      have ih := oIx_at h
      rw [if_neg hp]
      split
      · unfold updF; rw [if_neg (Ne.symm hp)]; exact ih
      · exact ih
theorem oCalls_at {xs : List Ev3} {i : Nat} (hw : (evAt xs i).w = 1) : ∀ {k}, i < k → (oCalls xs k)[(oCalls xs i).length]? = some i
  | 0, h => by omega
  | k + 1, h => by
    rw [oCalls_succ]
    by_cases hik : i = k
    · subst hik; rw [if_pos hw]; simp
    · have ih := oCalls_at hw (k := k) (by omega)
      split
      · rw [List.getElem?_append_left (List.getElem?_eq_some_iff.1 ih).1]; exact ih
      · exact ih
theorem oCalls_mem {xs : List Ev3} {k i : Nat} (h : i ∈ oCalls xs k) : i < k ∧ (evAt xs i).w = 1 := by
  unfold oCalls at h
  simpa using h
theorem oCalls_inj {xs : List Ev3} {k q r i : Nat} (h1 : (oCalls xs k)[q]? = some i) (h2 : (oCalls xs k)[r]? = some i) : q = r := by
  have hn : (oCalls xs k).Nodup := List.Nodup.sublist List.filter_sublist List.nodup_range
  have hq := (List.getElem?_eq_some_iff.1 h1).1
  exact (List.getElem?_inj hq hn).1 (h1.trans h2.symm)
def cOf (xs : List Ev3) (k : Nat) : List Op5 := (oCalls xs k).map (opOf xs k)
/-- A call more. -/
theorem cOf_call {xs : List Ev3} {k : Nat} (hw : (evAt xs k).w = 1) (hl : eLast xs k (evAt xs k).p ≠ 1) : cOf xs (k + 1) = cOf xs k ++ [⟨(evAt xs k).p, (evAt xs k).n, k, -1, -1⟩] := by
  unfold cOf
  rw [oCalls_succ, if_pos hw, List.map_append]
  congr 1
  · refine List.map_congr_left fun i hi => ?_
    obtain ⟨h1, h2⟩ := oCalls_mem hi
    rw [opOf_next, if_neg]
    rintro ⟨h3, _, h4⟩
    have h5 := eWhere_of h1 h3
    rw [← h4] at h5
    have := eWhere_some (xs := xs) (k := k) (p := (evAt xs k).p) (by omega)
    rw [h5] at this
    simp at this
    exact hl (this.trans h2)
  · simp only [List.map_cons, List.map_nil]
    congr 1
    unfold opOf
    rw [eNext_low (by omega)]
/-- An end. -/
theorem cOf_ret {xs : List Ev3} {k q : Nat} (hw : (evAt xs k).w = 2) (hl : eLast xs k (evAt xs k).p = 1) (hq : q = (oCalls xs (eWhere xs k (evAt xs k).p).toNat).length) :
    ∃ o, (cOf xs k)[q]? = some o ∧ q < (oCalls xs k).length ∧ cOf xs (k + 1) = (cOf xs k).set q ⟨o.p, o.k, o.s, k, (evAt xs k).n⟩ := by
  have h0 : 0 ≤ eWhere xs k (evAt xs k).p := by
    rcases Int.lt_or_le (eWhere xs k (evAt xs k).p) 0 with h | h
    · have := eWhere_none h; omega
    · exact h
  have hlt := eWhere_lt xs (evAt xs k).p k
  obtain ⟨h1, h2⟩ := eWhere_is h0
  have h3 := eWhere_some h0
  rw [hl] at h3
  generalize hi : (eWhere xs k (evAt xs k).p).toNat = i at *
  have hik : i < k := by omega
  have hat := oCalls_at h3.symm hik
  rw [← hq] at hat
  refine ⟨opOf xs k i, by unfold cOf; rw [List.getElem?_map, hat]; rfl, (List.getElem?_eq_some_iff.1 hat).1, ?_⟩
  unfold cOf
  rw [oCalls_succ, if_neg (by omega)]
  refine List.ext_getElem? fun r => ?_
  rw [List.getElem?_map]
  by_cases hr : q = r
  · subst hr
    rw [List.getElem?_set_self (by simpa using (List.getElem?_eq_some_iff.1 hat).1), hat, Option.map_some]
    obtain ⟨p1, p2, p3⟩ := opOf_psk xs k i
    rw [opOf_next, if_pos ⟨h2, hik, h1.symm⟩, p1, p2, p3]
  · rw [List.getElem?_set_ne hr, List.getElem?_map]
    cases hj : (oCalls xs k)[r]? with
    | none => rfl
    | some j =>
      simp only [Option.map_some, Option.some.injEq]
      rw [opOf_next, if_neg]
      rintro ⟨h4, h5, h6⟩
      have h7 := eWhere_of h5 h4
      rw [← h6] at h7
      have : j = i := by omega
      subst this
      exact hr (oCalls_inj hat hj)
theorem flatO_set : ∀ (L : List Op5) (q : Nat) (o : Op5) (a b : Int), L[q]? = some o → ((flatO L).set (q * 5 + 3) a).set (q * 5 + 4) b = flatO (L.set q ⟨o.p, o.k, o.s, a, b⟩)
  | [], q, o, a, b, h => by simp at h
  | x :: L, 0, o, a, b, h => by
    simp at h; subst h
    simp [flatO, oFl]
  | x :: L, q + 1, o, a, b, h => by
    have ih := flatO_set L q o a b (by simpa using h)
    have e : flatO (x :: L) = x.p :: x.k :: x.s :: x.e :: x.r :: flatO L := rfl
    rw [e, show (q + 1) * 5 + 3 = (q * 5 + 3) + 1 + 1 + 1 + 1 + 1 by omega, show (q + 1) * 5 + 4 = (q * 5 + 4) + 1 + 1 + 1 + 1 + 1 by omega]
    simp only [List.set_cons_succ]
    rw [ih]; rfl
end Go.Proofs.Ytmjkhjebeebahaa
namespace Go.Proofs.Ytmjkhjebeebahaa
open Go.RowKit
set_option linter.unusedVariables false
set_option linter.unusedSimpArgs false
section
variable {P : Program} {tt : TT} {m : Nat} {Q : Exit → XS → Prop} {fr : List AV} {H : AHeap} {M : MS} {l : List Oper} {o : Oper} {n0 : Nat} {us : List Nat} {H0 Hc : AHeap} {K : List AV → AHeap → Prop} {al : List Kd}
theorem ADR_free0 (hT : TyOK P tt) (hr : roOp o.op = true) (hw : wantedS fr o = some true) (h : match aop tt ⟨fr, []⟩ o with | some (x, _) => ADR P n0 us H0 K Hc (l, al, putL fr o.dst x) | none => False) : ADR P n0 us H0 K Hc (o :: l, .free :: al, fr) := fun n hn => by
  cases hx : aop tt ⟨fr, []⟩ o with
  | none => rw [hx] at h; exact h.elim
  | some p =>
    obtain ⟨x, H'⟩ := p
    rw [hx] at h
    have := aop_ro hr hx
    subst this
    exact ⟨x, Hc, none, .free x (wanted_iff hn hw) fun H => does_aop hT (aop_mono (H0 := []) ⟨Nat.zero_le _, fun o x e => by simp at e⟩ hr hx), h n (by show (putL _ _ _).length ≤ n; rw [putL_len]; exact hn)⟩
def kdOf2 (c : Bool) (op : Op) : Kd := match op with
  | .load _ _ => .free
  | op => kdOf c op
def alD2 (ops : List Oper) : List Kd := ops.map fun o => kdOf2 (ops.any fun o => isApp o.op) o.op
theorem AX_drawB (hT : TyOK P tt) (hmx : P.follows .mixedOrders = true) {id : Nat} {ops : List Oper} (hord : ordOK ops.toArray ops.length (alD2 ops) = true)
    (h : ∀ (K : List AV → AHeap → Prop), (∀ F H', Q .normal ⟨F, H', M⟩ → K F H') → ADR P H.length [] H K H (ops.map (strip (dsts ops)), alD2 ops, fr)) : AX P m (.region id ops.toArray true) Q ⟨fr, H, M⟩ :=
  AX_drawS hT hmx (alD2 ops) ops.length 0 hord fun K hK => by
    rw [List.take_length]
    exact h K fun F H' hq => hK F H' (by rw [List.drop_length]; exact XRes_nil hq)
end
end Go.Proofs.Ytmjkhjebeebahaa
