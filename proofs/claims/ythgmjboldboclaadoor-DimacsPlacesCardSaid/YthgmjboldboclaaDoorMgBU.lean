import Derived.Test.YthgmjboldboclaaDoorMgBF
import Derived.Test.YthgmjboldboclaaDoorMgBK
import Derived.Test.YthgmjboldboclaaDoorMgBI
import Derived.Test.YthgmjboldboclaaDoorMgAT
namespace Go.Proofs.YthgmjboldboclaaDoor
open Go.RowKit
set_option linter.unusedVariables false
set_option linter.unusedSimpArgs false
set_option maxRecDepth 100000 in
set_option maxHeartbeats 1000000 in
theorem pf_has (xs : List Int) (v : Int) (hx : xs.length ≤ 1000000) : PF Tryd.prog 25 [.iv (iInts xs), lt (.int .i64 v)] fun r H' => r = lt (.bool (decide (v ∈ xs))) ∧ H' = [] := by
  refine SF.forgetAll ?_
  (refine SF_of_bodyX (aload tt) (aload_ok tyOK) Tryd.func25 rfl (by kernel_rfl) ?_; simp only [Tryd.ntmps25, List.length_cons, List.length_nil, Nat.reduceAdd, Nat.reduceSub, List.replicate_succ, List.replicate_zero, List.cons_append, List.nil_append])
  unfold iInts
  (repeat (first | (first | (with_reducible first | refine AX_block ?_ | refine AX_skip ?_ | refine AX_exit ?_ | refine AX_ret ?_ | refine AX_ift ?_ | refine AX_iff ?_ | refine AX_seq_k (fun K hK => ?_) | refine ContX.use (by assumption) ?_) | simp only [thenX, inBlockX, if_true, if_false, reduceCtorEq]) | (first | ((first | (with_reducible refine XRes_op tyOK ?_ ?_) | ((with_reducible first | refine ADF_op tyOK ?_ ?_ ?_ | refine ADX_op tyOK ?_ ?_ ?_); (focus rfl)) | (with_reducible refine ADR_alloc1 tyOK ?_ ?_) | ((with_reducible refine ADR_free1 tyOK ?_ ?_ ?_); (focus rfl)) | ((with_reducible refine ADR_free0 tyOK ?_ ?_ ?_); (focus rfl)) | ((with_reducible refine ADR_read1 tyOK ?_ ?_ ?_); (focus rfl)) | (with_reducible refine ADR_chg1 tyOK ?_ ?_)); (focus (first | (with_reducible rfl) | ((simp (disch := omega) only [go_sem]); done))); simp (disch := omega) only [go_sem , iFlat, iInts]; (first | (with_reducible refine XRes_id ?_) | (with_reducible refine ADF_id ?_) | (with_reducible refine ADR_id1 ?_) | (with_reducible refine ADX_id ?_))) | ((first | (with_reducible refine XRes_skip ?_ ?_) | (with_reducible refine ADF_skip (b := true) ?_ ?_) | (with_reducible refine ADX_skip ?_ ?_) | ((with_reducible refine ADR_skip1 ?_ ?_ ?_); (focus rfl))); (focus (first | rfl | ((simp (disch := omega) only [go_sem]); done))); (simp only [putL, List.set_cons_succ, List.set_cons_zero]))) | ((first | (with_reducible refine XRes_nil ?_) | (with_reducible refine ADF_nil ?_) | (with_reducible refine ADR_nil ?_) | (with_reducible refine ADX_nil ?_)); (first | refine hK _ ?_ | refine hK _ _ ?_); clear hK K) | ((first | (with_reducible refine AX_reg0 fun K hK => ?_) | (refine AX_drawG1 tyOK (by kernel_rfl) (by rfl) (by kernel_rfl) fun K hK => ?_) | (refine AX_drawT tyOK (by kernel_rfl) (by decide +kernel) fun K hK => ?_) | (refine AX_drawM1 (by kernel_rfl) (by rfl) (by decide +kernel) fun K hK => ?_) | (refine AX_drawA tyOK (by kernel_rfl) (by decide +kernel) fun K hK => ?_)); (first | simp only [go_sem, preN, effOp, runF, alM, mapOp, alD2, kdOf2, Bool.not_false, Bool.not_true, reduceCtorEq] | simp only [go_sem, preN, effOp, runF, alM, mapOp, Bool.not_false, Bool.not_true, reduceCtorEq] | simp only [go_sem, preN, effOp, runF, alD2, kdOf2, Bool.not_false, Bool.not_true, reduceCtorEq] | simp only [go_sem, alD2, kdOf2, Bool.not_false, Bool.not_true, reduceCtorEq] | simp only [go_sem, preN, effOp, runF, Bool.not_false, Bool.not_true, reduceCtorEq] | simp only [go_sem])) | fail))
  (refine AWH (σ := Nat) [6, 7, 8, 9, 12, 13, 14, 15, 16, 17, 4, 10, 11] (fun k => [(5, lint k)]) (fun k => []) (fun k => []) (fun k => k ≤ xs.length ∧ ∀ j, j < k → xs.getD j 0 ≠ v) (fun k => xs.length - k) 0 (by first | exact ⟨Nat.zero_le _, fun j h => absurd h (by omega)⟩) ?_; rintro k d fr hfr ⟨hk, hj⟩; simp only [updS, deadS, List.set_cons_succ, List.set_cons_zero, lint] at hfr; subst hfr; (try dsimp only))
  (repeat' (first | (first | (with_reducible first | refine AX_block ?_ | refine AX_skip ?_ | refine AX_exit ?_ | refine AX_ret ?_ | refine AX_ift ?_ | refine AX_iff ?_ | refine AX_seq_k (fun K hK => ?_) | refine ContX.use (by assumption) ?_) | simp only [thenX, inBlockX, if_true, if_false, reduceCtorEq]) | (first | ((first | (with_reducible refine XRes_op tyOK ?_ ?_) | ((with_reducible first | refine ADF_op tyOK ?_ ?_ ?_ | refine ADX_op tyOK ?_ ?_ ?_); (focus rfl)) | (with_reducible refine ADR_alloc1 tyOK ?_ ?_) | ((with_reducible refine ADR_free1 tyOK ?_ ?_ ?_); (focus rfl)) | ((with_reducible refine ADR_free0 tyOK ?_ ?_ ?_); (focus rfl)) | ((with_reducible refine ADR_read1 tyOK ?_ ?_ ?_); (focus rfl)) | (with_reducible refine ADR_chg1 tyOK ?_ ?_)); (focus (first | (with_reducible rfl) | ((simp (disch := omega) only [go_sem]); done))); simp (disch := omega) only [go_sem , iFlat, iInts]; (first | (with_reducible refine XRes_id ?_) | (with_reducible refine ADF_id ?_) | (with_reducible refine ADR_id1 ?_) | (with_reducible refine ADX_id ?_))) | ((first | (with_reducible refine XRes_skip ?_ ?_) | (with_reducible refine ADF_skip (b := true) ?_ ?_) | (with_reducible refine ADX_skip ?_ ?_) | ((with_reducible refine ADR_skip1 ?_ ?_ ?_); (focus rfl))); (focus (first | rfl | ((simp (disch := omega) only [go_sem]); done))); (simp only [putL, List.set_cons_succ, List.set_cons_zero]))) | ((first | (with_reducible refine XRes_nil ?_) | (with_reducible refine ADF_nil ?_) | (with_reducible refine ADR_nil ?_) | (with_reducible refine ADX_nil ?_)); (first | refine hK _ ?_ | refine hK _ _ ?_); clear hK K) | ((first | (with_reducible refine AX_reg0 fun K hK => ?_) | (refine AX_drawG1 tyOK (by kernel_rfl) (by rfl) (by kernel_rfl) fun K hK => ?_) | (refine AX_drawT tyOK (by kernel_rfl) (by decide +kernel) fun K hK => ?_) | (refine AX_drawM1 (by kernel_rfl) (by rfl) (by decide +kernel) fun K hK => ?_) | (refine AX_drawA tyOK (by kernel_rfl) (by decide +kernel) fun K hK => ?_)); (first | simp only [go_sem, preN, effOp, runF, alM, mapOp, alD2, kdOf2, Bool.not_false, Bool.not_true, reduceCtorEq] | simp only [go_sem, preN, effOp, runF, alM, mapOp, Bool.not_false, Bool.not_true, reduceCtorEq] | simp only [go_sem, preN, effOp, runF, alD2, kdOf2, Bool.not_false, Bool.not_true, reduceCtorEq] | simp only [go_sem, alD2, kdOf2, Bool.not_false, Bool.not_true, reduceCtorEq] | simp only [go_sem, preN, effOp, runF, Bool.not_false, Bool.not_true, reduceCtorEq] | simp only [go_sem])) | fail | ((first | (refine XRes_splitG (by rfl) (fun hc => ?_) (fun hc => ?_)) | (refine ADF_splitG (by rfl) (fun hc => ?_) (fun hc => ?_))) <;> (try simp only [eqRes, List.cons_beq_cons, Bool.and_eq_true, Bool.not_eq_true, Bool.and_eq_false_iff, decide_eq_true_eq, decide_eq_false_iff_not, bne_iff_ne, beq_iff_eq, bne_eq_false_iff_eq, beq_eq_false_iff_ne, Bool.not_eq_true', Bool.not_eq_false', ne_eq, Int.not_lt, Int.not_le, Decidable.not_not] at hc) <;> simp only [List.set_cons_succ, List.set_cons_zero]) | (first | ((with_reducible refine AX_if_t ?_ ?_); focus (simp (disch := omega) only [go_sem , iFlat, iInts]; done)) | ((with_reducible refine AX_if_f ?_ ?_); focus (simp (disch := omega) only [go_sem , iFlat, iInts]; done)) | (refine AX_cond _ (by rfl) (fun hc => ?_) (fun hc => ?_) <;> (try simp only [eqRes, List.cons_beq_cons, Bool.and_eq_true, Bool.not_eq_true, Bool.and_eq_false_iff, decide_eq_true_eq, decide_eq_false_iff_not, bne_iff_ne, beq_iff_eq, bne_eq_false_iff_eq, beq_eq_false_iff_ne, Bool.not_eq_true', Bool.not_eq_false', ne_eq, Int.not_lt, Int.not_le, Decidable.not_not] at hc)))))
  · (simp only [bodyX]; refine ⟨_, by simp only [aresults, aresult, XS.as, Tryd.results25, aload, go_sem, Option.bind_some]; rfl, ?_⟩)
    have hm : v ∈ xs := by
      have hlt : k < xs.length := by omega
      rw [List.getD_eq_getElem?_getD, List.getElem?_eq_getElem hlt] at hc
      have e : xs[k] = v := hc
      rw [← e]; exact List.getElem_mem hlt
    exact ⟨.iv _, by rw [decide_eq_true hm], trivial⟩
  · refine WEND (k + 1) ⟨by omega, fun j hj2 => ?_⟩ (by (first | omega | (dsimp only; omega) | (simp only; omega)))
    rcases Nat.lt_or_ge j k with h | h
    · exact hj j h
    · rw [show j = k by omega]; exact hc
  · (simp only [bodyX]; refine ⟨_, by simp only [aresults, aresult, XS.as, Tryd.results25, aload, go_sem, Option.bind_some]; rfl, ?_⟩)
    have hm : ¬ v ∈ xs := fun h => by
      obtain ⟨j, hj2, e⟩ := List.mem_iff_getElem.1 h
      refine hj j (by omega) ?_
      rw [List.getD_eq_getElem?_getD, List.getElem?_eq_getElem hj2]; exact e
    exact ⟨.iv _, by rw [decide_eq_false hm], trivial⟩
end Go.Proofs.YthgmjboldboclaaDoor
namespace Go.Proofs.YthgmjboldboclaaDoor
open Go.RowKit Go.Lib
set_option linter.unusedVariables false
set_option linter.unusedSimpArgs false
theorem wr_step (x d : Int) : IntKind.i64.wrap (IntKind.i64.wrap (10 * IntKind.i64.wrap x) + d) = IntKind.i64.wrap (10 * x + d) := by
  simp only [IntKind.wrap_i64]; omega
theorem drop_getD (l : List UInt8) (f k : Nat) : (l.drop f).getD k 0 = l.getD (f + k) 0 := by simp [List.getD]
theorem take_snocU {m : List UInt8} {k : Nat} (h : k < m.length) : m.take (k + 1) = m.take k ++ [m.getD k 0] := by
  rw [List.take_succ_eq_append_getElem h]; simp [List.getD, h]
def nk (f : Nat) (m : List UInt8) (k : Nat) : Int := if f = 1 then -(dv 0 (m.take k) : Int) else dv 0 (m.take k)
theorem nk_step {f : Nat} {m : List UInt8} {k : Nat} (h : k < m.length) (hd : m.all isDg = true) : nk f m (k + 1) = 10 * nk f m k + (if f = 1 then -(((m.getD k 0).toNat : Int) - 48) else ((m.getD k 0).toNat : Int) - 48) := by
  have hc : 48 ≤ (m.getD k 0).toNat := by
    rw [List.all_eq_true] at hd
    have := hd m[k] (List.getElem_mem h)
    rw [show m.getD k 0 = m[k] by simp [List.getD, h]]
    exact (of_decide_eq_true this).1
  unfold nk
  rw [take_snocU h, dv_snoc]
  split <;> omega
theorem W207aa {A B : Prop} (h9 : B) (w : B → A := by (intro h9; (repeat intro K hK); refine ⟨?_⟩; (repeat (first | (first | (with_reducible first | refine AX_block ?_ | refine AX_skip ?_ | refine AX_exit ?_ | refine AX_ret ?_ | refine AX_ift ?_ | refine AX_iff ?_ | refine AX_seq_k (fun K hK => ?_) | refine ContX.use (by assumption) ?_) | simp only [thenX, inBlockX, if_true, if_false, reduceCtorEq]) | (first | ((with_reducible refine XOP tyOK ?_); simp (disch := omega) only [go_sem , hs1, hs2, hs3, hs4, hs5, ba_toList, ba_size, byteAt_ba, Int.toNat_zero, Int.toNat_one, Int.toNat_natCast]; (with_reducible refine XRes_id ?_)) | (with_reducible refine XSK ?_)) | ((with_reducible refine XRes_nil ?_); refine hK _ ?_; clear hK K) | ((with_reducible refine AX_reg0 fun K hK => ?_); simp only [go_sem]) | (first | (first | refine XTL (by rfl) hC ?_)))); refine Wk.o ?_; (repeat revert hK K); exact h9)) : A := w h9
set_option maxRecDepth 100000 in
set_option maxHeartbeats 8000000 in
theorem pf_rNumber (l : List UInt8) (lo hi : Int) (hl : l.length ≤ 1000000) : PF Tryd.prog 24 [lt (.string (ba l)), lt (.int .i64 lo), lt (.int .i64 hi)] fun r H' => r = .tup [lt (.int .i64 (numR l lo hi).1), lt (.int .i64 (numR l lo hi).2)] ∧ H' = [] := by
  refine SF.forgetAll ?_
  have hs1 := trivial; have hs2 := trivial; have hs3 := trivial; have hs4 := trivial; have hs5 := trivial; have hC := trivial
  obtain ⟨e1, e2, e3⟩ := frm_mag l
  have hN := frm_num l
  have hgd : ∀ k, (magOf l).getD k 0 = l.getD (frm l + k) 0 := fun k => by rw [e1, drop_getD]
  have hml : (magOf l).length = l.length - frm l := by rw [e1, List.length_drop]
  have hfn : numOk l = false → numR l lo hi = (0, 5) := fun h => by unfold numR; rw [if_pos h]
  by_cases hl0 : l.length = 0
  · have hnil : l = [] := List.length_eq_zero_iff.1 hl0
    rw [hfn (by rw [hnil]; rfl)]
    (refine SF_of_bodyX (aload tt) (aload_ok tyOK) Tryd.func24 rfl (by kernel_rfl) ?_; simp only [Tryd.ntmps24, List.length_cons, List.length_nil, Nat.reduceAdd, Nat.reduceSub, List.replicate_succ, List.replicate_zero, List.cons_append, List.nil_append])
    (refine Wk.o ?_; (repeat revert hK K); refine W207aa ?_; (repeat intro K hK); refine ⟨?_⟩)
    (simp only [bodyX]; refine ⟨_, by simp only [aresults, aresult, XS.as, Tryd.results24, aload, go_sem, Option.bind_some]; rfl, ?_⟩)
    exact ⟨ids_idB rfl, rfl, trivial⟩
  · by_cases h45 : (l.getD 0 0).toNat = 45
    · have hf1 : frm l = 1 := by
        cases l with
        | nil => exact absurd rfl hl0
        | cons c r =>
          have hc : c = 45 := UInt8.toNat_inj.1 (by rw [show c.toNat = 45 from h45]; rfl)
          rw [hc]; rfl
      rw [hf1] at hgd hml e1 hN
      by_cases hl1 : l.length = 1
      · have hm0 : magOf l = [] := List.length_eq_zero_iff.1 (by omega)
        have hno : numOk l = false := by unfold numOk; rw [hm0]; rfl
        (refine SF_of_bodyX (aload tt) (aload_ok tyOK) Tryd.func24 rfl (by kernel_rfl) ?_; simp only [Tryd.ntmps24, List.length_cons, List.length_nil, Nat.reduceAdd, Nat.reduceSub, List.replicate_succ, List.replicate_zero, List.cons_append, List.nil_append])
        (refine Wk.o ?_; (repeat revert hK K); refine W207aa ?_; (repeat intro K hK); refine ⟨?_⟩)
        (simp only [bodyX]; refine ⟨_, by simp only [aresults, aresult, XS.as, Tryd.results24, aload, go_sem, Option.bind_some]; rfl, ?_⟩)
        exact ⟨ids_idB rfl, by rw [hfn hno], trivial⟩
      · have hm0 : magOf l ≠ [] := fun e => by rw [e] at hml; simp at hml; omega
        have hg0 : (magOf l).getD 0 0 = l.getD 1 0 := hgd 0
        by_cases h48 : (l.getD 1 0).toNat = 48
        · have h48' : (magOf l).getD 0 0 = 48 := by rw [hg0]; exact UInt8.toNat_inj.1 (by rw [h48]; rfl)
          have hno := form_no h48' (by omega)
          (refine SF_of_bodyX (aload tt) (aload_ok tyOK) Tryd.func24 rfl (by kernel_rfl) ?_; simp only [Tryd.ntmps24, List.length_cons, List.length_nil, Nat.reduceAdd, Nat.reduceSub, List.replicate_succ, List.replicate_zero, List.cons_append, List.nil_append])
          (refine Wk.o ?_; (repeat revert hK K); refine W207aa ?_; (repeat intro K hK); refine ⟨?_⟩)
          (simp only [bodyX]; refine ⟨_, by simp only [aresults, aresult, XS.as, Tryd.results24, aload, go_sem, Option.bind_some]; rfl, ?_⟩)
          exact ⟨ids_idB rfl, by rw [hfn hno], trivial⟩
        · obtain ⟨hok, hnz⟩ := form_yes hm0 (fun h => h48 (by rw [hg0] at h; rw [h.1]; rfl))
          (refine SF_of_bodyX (aload tt) (aload_ok tyOK) Tryd.func24 rfl (by kernel_rfl) ?_; simp only [Tryd.ntmps24, List.length_cons, List.length_nil, Nat.reduceAdd, Nat.reduceSub, List.replicate_succ, List.replicate_zero, List.cons_append, List.nil_append])
          (refine Wk.o ?_; (repeat revert hK K); refine W207aa ?_; (repeat intro K hK); refine ⟨?_⟩)
          (refine AWH (σ := Nat) [37, 38, 39, 40, 43, 44, 45, 46, 47, 48, 49, 50, 51, 52, 6, 7, 41, 42] (fun k => [(9, lint k)]) (fun k => []) (fun k => []) (fun k => 1 ≤ k ∧ k ≤ l.length ∧ ((magOf l).take (k - 1)).all isDg = true) (fun k => l.length - k) 1 (by first | exact ⟨Nat.le_refl _, by omega, rfl⟩) ?_; rintro k d fr hfr ⟨hk0, hk, hj⟩; simp only [updS, deadS, List.set_cons_succ, List.set_cons_zero, lint] at hfr; subst hfr; (try dsimp only))
          by_cases hlt : k < l.length
          · have hkk : (magOf l).getD (k - 1) 0 = l.getD k 0 := by rw [hgd, show 1 + (k - 1) = k by omega]
            have hkl : k - 1 < (magOf l).length := by omega
            by_cases h6 : (l.getD k 0).toNat < 48
            · (refine Wk.o ?_; (repeat revert hK K); refine W207aa ?_; (repeat intro K hK); refine ⟨?_⟩)
              (simp only [bodyX]; refine ⟨_, by simp only [aresults, aresult, XS.as, Tryd.results24, aload, go_sem, Option.bind_some]; rfl, ?_⟩)
              exact ⟨ids_idB rfl, by rw [hfn (by rw [hok]; exact dg_no hkl (by rw [hkk]; omega))], trivial⟩
            · by_cases h7 : 57 < (l.getD k 0).toNat
              · (refine Wk.o ?_; (repeat revert hK K); refine W207aa ?_; (repeat intro K hK); refine ⟨?_⟩)
                (simp only [bodyX]; refine ⟨_, by simp only [aresults, aresult, XS.as, Tryd.results24, aload, go_sem, Option.bind_some]; rfl, ?_⟩)
                exact ⟨ids_idB rfl, by rw [hfn (by rw [hok]; exact dg_no hkl (by rw [hkk]; omega))], trivial⟩
              · have hI2 : 1 ≤ k + 1 ∧ k + 1 ≤ l.length ∧ ((magOf l).take (k + 1 - 1)).all isDg = true := ⟨by omega, by omega, by rw [show k + 1 - 1 = k - 1 + 1 by omega]; exact dg_take hkl hj (by rw [hkk]; omega) (by rw [hkk]; omega)⟩
                (refine Wk.o ?_; (repeat revert hK K); refine W207aa ?_; (repeat intro K hK); refine ⟨?_⟩)
                exact WEND (k + 1) hI2 (by (first | omega | (dsimp only; omega) | (simp only; omega)))
          · have hkm : k - 1 = (magOf l).length := by omega
            have hall : (magOf l).all isDg = true := by rw [hkm, List.take_length] at hj; exact hj
            have hok2 : numOk l = true := by rw [hok, hall]
            have hR : numR l lo hi = if -9223372036854775808 ≤ numV l ∧ numV l ≤ 9223372036854775807 ∧ lo ≤ numV l ∧ numV l ≤ hi then (numV l, 0) else (0, 7) := by unfold numR; rw [if_neg (by rw [hok2]; decide)]
            by_cases hb : 19 < l.length - 1
            · have hbig := dv_big hall hnz (by omega)
              have hR2 : numR l lo hi = (0, 7) := by rw [hR, if_neg]; intro h; rw [hN] at h; split at h <;> omega
              (refine Wk.o ?_; (repeat revert hK K); refine W207aa ?_; (repeat intro K hK); refine ⟨?_⟩)
              (simp only [bodyX]; refine ⟨_, by simp only [aresults, aresult, XS.as, Tryd.results24, aload, go_sem, Option.bind_some]; rfl, ?_⟩)
              exact ⟨ids_idB rfl, by rw [hR2], trivial⟩
            · (refine Wk.o ?_; (repeat revert hK K); refine W207aa ?_; (repeat intro K hK); refine ⟨?_⟩)
              (refine AWH (σ := Nat) [59, 60, 61, 62, 65, 66, 67, 68, 69, 12, 70, 71, 72, 73, 74, 75, 76, 77, 63, 64] (fun k => [(11, lint k), (10, .iv (.lit (.int .i64 (IntKind.i64.wrap (nk 1 (magOf l) (k - 1))))))]) (fun k => []) (fun k => []) (fun k => 1 ≤ k ∧ k ≤ l.length) (fun k => l.length - k) 1 (by first | exact ⟨Nat.le_refl _, by omega⟩) ?_; rintro k d fr hfr ⟨hk0, hk⟩; simp only [updS, deadS, List.set_cons_succ, List.set_cons_zero, lint] at hfr; subst hfr; (try dsimp only))
              by_cases hlt : k < l.length
              · have hkk : (magOf l).getD (k - 1) 0 = l.getD k 0 := by rw [hgd, show 1 + (k - 1) = k by omega]
                have hst := nk_step (f := 1) (show k - 1 < (magOf l).length by omega) hall
                rw [show k - 1 + 1 = k + 1 - 1 by omega] at hst
                rw [hkk, if_pos rfl] at hst
                have hcb : (l.getD k 0).toNat < 256 := UInt8.toNat_lt _
                have hs1 := wr_step (nk 1 (magOf l) (k - 1)) (-(((l.getD k 0).toNat : Int) - 48))
                rw [← hst] at hs1
                have hs2 : IntKind.i64.wrap ((l.getD k 0).toNat : Int) = ((l.getD k 0).toNat : Int) := by rw [IntKind.wrap_i64]; omega
                have hs3 : IntKind.i64.wrap (((l.getD k 0).toNat : Int) - 48) = ((l.getD k 0).toNat : Int) - 48 := by rw [IntKind.wrap_i64]; omega
                have hs4 : IntKind.i64.wrap (-(((l.getD k 0).toNat : Int) - 48)) = -(((l.getD k 0).toNat : Int) - 48) := by rw [IntKind.wrap_i64]; omega
                have hI2 : 1 ≤ k + 1 ∧ k + 1 ≤ l.length := ⟨by omega, by omega⟩
                (refine Wk.o ?_; (repeat revert hK K); refine W207aa ?_; (repeat intro K hK); refine ⟨?_⟩)
                exact whx_end (k + 1) hI2 (by (first | omega | (dsimp only; omega) | (simp only; omega))) rfl rfl (fun d => by first | ((simp (disch := omega) only [go_sem, lint , hs1, hs2, hs3, hs4, hs5, ba_toList, ba_size, byteAt_ba, Int.toNat_zero, Int.toNat_one, Int.toNat_natCast]); done) | ((simp (disch := omega) only [go_sem, lint , hs1, hs2, hs3, hs4, hs5, ba_toList, ba_size, byteAt_ba, Int.toNat_zero, Int.toNat_one, Int.toNat_natCast]); rfl))
              · have hkm : k - 1 = (magOf l).length := by omega
                have hnk : nk 1 (magOf l) (k - 1) = numV l := by
                  rw [hN, if_pos rfl]
                  unfold nk
                  rw [if_pos rfl, hkm, List.take_length]
                obtain ⟨x, hxe⟩ : ∃ x, x = IntKind.i64.wrap (nk 1 (magOf l) (k - 1)) := ⟨_, rfl⟩
                have hxb : -9223372036854775808 ≤ x ∧ x ≤ 9223372036854775807 := by rw [hxe, IntKind.wrap_i64]; omega
                have hxi : (-9223372036854775808 ≤ numV l ∧ numV l ≤ 9223372036854775807) ↔ x = numV l := by
                  rw [hxe, hnk, IntKind.wrap_i64]; omega
                rw [← hxe]
                have hC := pf_rDigits x hxb.1 hxb.2
                by_cases hin : x = numV l
                · have hr := hxi.2 hin
                  have hs1 : (itoa x == l) = true := by rw [hin, num_itoa hok2]; simp
                  by_cases h8 : x < lo
                  · have hR2 : numR l lo hi = (0, 7) := by rw [hR, if_neg]; intro h; omega
                    (refine Wk.o ?_; (repeat revert hK K); refine W207aa ?_; (repeat intro K hK); refine ⟨?_⟩)
                    (simp only [bodyX]; refine ⟨_, by simp only [aresults, aresult, XS.as, Tryd.results24, aload, go_sem, Option.bind_some]; rfl, ?_⟩)
                    exact ⟨ids_idB rfl, by rw [hR2], trivial⟩
                  · by_cases h9 : hi < x
                    · have hR2 : numR l lo hi = (0, 7) := by rw [hR, if_neg]; intro h; omega
                      (refine Wk.o ?_; (repeat revert hK K); refine W207aa ?_; (repeat intro K hK); refine ⟨?_⟩)
                      (simp only [bodyX]; refine ⟨_, by simp only [aresults, aresult, XS.as, Tryd.results24, aload, go_sem, Option.bind_some]; rfl, ?_⟩)
                      exact ⟨ids_idB rfl, by rw [hR2], trivial⟩
                    · have hR2 : numR l lo hi = (x, 0) := by rw [hR, if_pos (by omega), hin]
                      (refine Wk.o ?_; (repeat revert hK K); refine W207aa ?_; (repeat intro K hK); refine ⟨?_⟩)
                      (simp only [bodyX]; refine ⟨_, by simp only [aresults, aresult, XS.as, Tryd.results24, aload, go_sem, Option.bind_some]; rfl, ?_⟩)
                      exact ⟨ids_idB rfl, by rw [hR2], trivial⟩
                · have hs1 : (itoa x == l) = false := by simpa using itoa_ne hin
                  have hR2 : numR l lo hi = (0, 7) := by rw [hR, if_neg]; intro h; exact hin (hxi.1 ⟨h.1, h.2.1⟩)
                  (refine Wk.o ?_; (repeat revert hK K); refine W207aa ?_; (repeat intro K hK); refine ⟨?_⟩)
                  (simp only [bodyX]; refine ⟨_, by simp only [aresults, aresult, XS.as, Tryd.results24, aload, go_sem, Option.bind_some]; rfl, ?_⟩)
                  exact ⟨ids_idB rfl, by rw [hR2], trivial⟩
    · have hf0 : frm l = 0 := by
        cases l with
        | nil => exact absurd rfl hl0
        | cons c r => exact frm_plain fun e => h45 (by rw [e]; rfl)
      rw [hf0] at hgd hml e1 hN
      have hm0 : magOf l ≠ [] := fun e => by rw [e] at hml; simp at hml; omega
      have hg0 := hgd 0
      by_cases h48 : (l.getD 0 0).toNat = 48
      · have h48' : (magOf l).getD 0 0 = 48 := by rw [hg0]; exact UInt8.toNat_inj.1 (by rw [h48]; rfl)
        by_cases h1 : 1 < l.length
        · rw [hfn (form_no h48' h1)]
          (refine SF_of_bodyX (aload tt) (aload_ok tyOK) Tryd.func24 rfl (by kernel_rfl) ?_; simp only [Tryd.ntmps24, List.length_cons, List.length_nil, Nat.reduceAdd, Nat.reduceSub, List.replicate_succ, List.replicate_zero, List.cons_append, List.nil_append])
          (refine Wk.o ?_; (repeat revert hK K); refine W207aa ?_; (repeat intro K hK); refine ⟨?_⟩)
          (simp only [bodyX]; refine ⟨_, by simp only [aresults, aresult, XS.as, Tryd.results24, aload, go_sem, Option.bind_some]; rfl, ?_⟩)
          exact ⟨ids_idB rfl, rfl, trivial⟩
        · obtain ⟨hok, hnz⟩ := form_yes hm0 (fun h => h1 h.2)
          (refine SF_of_bodyX (aload tt) (aload_ok tyOK) Tryd.func24 rfl (by kernel_rfl) ?_; simp only [Tryd.ntmps24, List.length_cons, List.length_nil, Nat.reduceAdd, Nat.reduceSub, List.replicate_succ, List.replicate_zero, List.cons_append, List.nil_append])
          (refine Wk.o ?_; (repeat revert hK K); refine W207aa ?_; (repeat intro K hK); refine ⟨?_⟩)
          (refine AWH (σ := Nat) [37, 38, 39, 40, 43, 44, 45, 46, 47, 48, 49, 50, 51, 52, 6, 7, 41, 42] (fun k => [(9, lint k)]) (fun k => []) (fun k => []) (fun k => 0 ≤ k ∧ k ≤ l.length ∧ ((magOf l).take (k - 0)).all isDg = true) (fun k => l.length - k) 0 (by first | exact ⟨Nat.le_refl _, by omega, rfl⟩) ?_; rintro k d fr hfr ⟨hk0, hk, hj⟩; simp only [updS, deadS, List.set_cons_succ, List.set_cons_zero, lint] at hfr; subst hfr; (try dsimp only))
          by_cases hlt : k < l.length
          · have hkk : (magOf l).getD (k - 0) 0 = l.getD k 0 := by rw [hgd, show 0 + (k - 0) = k by omega]
            have hkl : k - 0 < (magOf l).length := by omega
            by_cases h6 : (l.getD k 0).toNat < 48
            · (refine Wk.o ?_; (repeat revert hK K); refine W207aa ?_; (repeat intro K hK); refine ⟨?_⟩)
              (simp only [bodyX]; refine ⟨_, by simp only [aresults, aresult, XS.as, Tryd.results24, aload, go_sem, Option.bind_some]; rfl, ?_⟩)
              exact ⟨ids_idB rfl, by rw [hfn (by rw [hok]; exact dg_no hkl (by rw [hkk]; omega))], trivial⟩
            · by_cases h7 : 57 < (l.getD k 0).toNat
              · (refine Wk.o ?_; (repeat revert hK K); refine W207aa ?_; (repeat intro K hK); refine ⟨?_⟩)
                (simp only [bodyX]; refine ⟨_, by simp only [aresults, aresult, XS.as, Tryd.results24, aload, go_sem, Option.bind_some]; rfl, ?_⟩)
                exact ⟨ids_idB rfl, by rw [hfn (by rw [hok]; exact dg_no hkl (by rw [hkk]; omega))], trivial⟩
              · have hI2 : 0 ≤ k + 1 ∧ k + 1 ≤ l.length ∧ ((magOf l).take (k + 1 - 0)).all isDg = true := ⟨by omega, by omega, by rw [show k + 1 - 0 = k - 0 + 1 by omega]; exact dg_take hkl hj (by rw [hkk]; omega) (by rw [hkk]; omega)⟩
                (refine Wk.o ?_; (repeat revert hK K); refine W207aa ?_; (repeat intro K hK); refine ⟨?_⟩)
                exact WEND (k + 1) hI2 (by (first | omega | (dsimp only; omega) | (simp only; omega)))
          · obtain rfl : k = l.length := by omega
            have hall : (magOf l).all isDg = true := by rw [List.take_of_length_le (by omega)] at hj; exact hj
            have hok2 : numOk l = true := by rw [hok, hall]
            have hR : numR l lo hi = if -9223372036854775808 ≤ numV l ∧ numV l ≤ 9223372036854775807 ∧ lo ≤ numV l ∧ numV l ≤ hi then (numV l, 0) else (0, 7) := by unfold numR; rw [if_neg (by rw [hok2]; decide)]
            by_cases hb : 19 < l.length - 0
            · first
              | (exfalso; omega)
              | (have hbig := dv_big hall hnz (by omega)
                 have hR2 : numR l lo hi = (0, 7) := by rw [hR, if_neg]; intro h; rw [hN] at h; split at h <;> omega
                 (refine Wk.o ?_; (repeat revert hK K); refine W207aa ?_; (repeat intro K hK); refine ⟨?_⟩)
                 (simp only [bodyX]; refine ⟨_, by simp only [aresults, aresult, XS.as, Tryd.results24, aload, go_sem, Option.bind_some]; rfl, ?_⟩)
                 exact ⟨ids_idB rfl, by rw [hR2], trivial⟩)
            · (refine Wk.o ?_; (repeat revert hK K); refine W207aa ?_; (repeat intro K hK); refine ⟨?_⟩)
              (refine AWH (σ := Nat) [59, 60, 61, 62, 65, 66, 67, 68, 69, 12, 70, 71, 72, 73, 74, 75, 76, 77, 63, 64] (fun k => [(11, lint k), (10, .iv (.lit (.int .i64 (IntKind.i64.wrap (nk 0 (magOf l) k)))))]) (fun k => []) (fun k => []) (fun k => k ≤ l.length) (fun k => l.length - k) 0 (by first | exact Nat.zero_le _) ?_; rintro k d fr hfr hk; simp only [updS, deadS, List.set_cons_succ, List.set_cons_zero, lint] at hfr; subst hfr; (try dsimp only))
              by_cases hlt : k < l.length
              · have hkk : (magOf l).getD k 0 = l.getD k 0 := by rw [hgd, Nat.zero_add]
                have hst := nk_step (f := 0) (show k < (magOf l).length by omega) hall
                rw [hkk, if_neg (by omega)] at hst
                have hcb : (l.getD k 0).toNat < 256 := UInt8.toNat_lt _
                have hs1 := wr_step (nk 0 (magOf l) k) (((l.getD k 0).toNat : Int) - 48)
                rw [← hst] at hs1
                have hs2 : IntKind.i64.wrap ((l.getD k 0).toNat : Int) = ((l.getD k 0).toNat : Int) := by rw [IntKind.wrap_i64]; omega
                have hs3 : IntKind.i64.wrap (((l.getD k 0).toNat : Int) - 48) = ((l.getD k 0).toNat : Int) - 48 := by rw [IntKind.wrap_i64]; omega
                have hI2 : k + 1 ≤ l.length := by omega
                (refine Wk.o ?_; (repeat revert hK K); refine W207aa ?_; (repeat intro K hK); refine ⟨?_⟩)
                exact whx_end (k + 1) hI2 (by (first | omega | (dsimp only; omega) | (simp only; omega))) rfl rfl (fun d => by first | ((simp (disch := omega) only [go_sem, lint , hs1, hs2, hs3, hs4, hs5, ba_toList, ba_size, byteAt_ba, Int.toNat_zero, Int.toNat_one, Int.toNat_natCast]); done) | ((simp (disch := omega) only [go_sem, lint , hs1, hs2, hs3, hs4, hs5, ba_toList, ba_size, byteAt_ba, Int.toNat_zero, Int.toNat_one, Int.toNat_natCast]); rfl))
              · obtain rfl : k = l.length := by omega
                have hnk : nk 0 (magOf l) l.length = numV l := by
                  rw [hN, if_neg (by omega)]
                  unfold nk
                  rw [if_neg (by omega), List.take_of_length_le (by omega)]
                obtain ⟨x, hxe⟩ : ∃ x, x = IntKind.i64.wrap (nk 0 (magOf l) l.length) := ⟨_, rfl⟩
                have hxb : -9223372036854775808 ≤ x ∧ x ≤ 9223372036854775807 := by rw [hxe, IntKind.wrap_i64]; omega
                have hxi : (-9223372036854775808 ≤ numV l ∧ numV l ≤ 9223372036854775807) ↔ x = numV l := by
                  rw [hxe, hnk, IntKind.wrap_i64]; omega
                rw [← hxe]
                have hC := pf_rDigits x hxb.1 hxb.2
                by_cases hin : x = numV l
                · have hr := hxi.2 hin
                  have hs1 : (itoa x == l) = true := by rw [hin, num_itoa hok2]; simp
                  by_cases h8 : x < lo
                  · have hR2 : numR l lo hi = (0, 7) := by rw [hR, if_neg]; intro h; omega
                    (refine Wk.o ?_; (repeat revert hK K); refine W207aa ?_; (repeat intro K hK); refine ⟨?_⟩)
                    (simp only [bodyX]; refine ⟨_, by simp only [aresults, aresult, XS.as, Tryd.results24, aload, go_sem, Option.bind_some]; rfl, ?_⟩)
                    exact ⟨ids_idB rfl, by rw [hR2], trivial⟩
                  · by_cases h9 : hi < x
                    · have hR2 : numR l lo hi = (0, 7) := by rw [hR, if_neg]; intro h; omega
                      (refine Wk.o ?_; (repeat revert hK K); refine W207aa ?_; (repeat intro K hK); refine ⟨?_⟩)
                      (simp only [bodyX]; refine ⟨_, by simp only [aresults, aresult, XS.as, Tryd.results24, aload, go_sem, Option.bind_some]; rfl, ?_⟩)
                      exact ⟨ids_idB rfl, by rw [hR2], trivial⟩
                    · have hR2 : numR l lo hi = (x, 0) := by rw [hR, if_pos (by omega), hin]
                      (refine Wk.o ?_; (repeat revert hK K); refine W207aa ?_; (repeat intro K hK); refine ⟨?_⟩)
                      (simp only [bodyX]; refine ⟨_, by simp only [aresults, aresult, XS.as, Tryd.results24, aload, go_sem, Option.bind_some]; rfl, ?_⟩)
                      exact ⟨ids_idB rfl, by rw [hR2], trivial⟩
                · have hs1 : (itoa x == l) = false := by simpa using itoa_ne hin
                  have hR2 : numR l lo hi = (0, 7) := by rw [hR, if_neg]; intro h; exact hin (hxi.1 ⟨h.1, h.2.1⟩)
                  (refine Wk.o ?_; (repeat revert hK K); refine W207aa ?_; (repeat intro K hK); refine ⟨?_⟩)
                  (simp only [bodyX]; refine ⟨_, by simp only [aresults, aresult, XS.as, Tryd.results24, aload, go_sem, Option.bind_some]; rfl, ?_⟩)
                  exact ⟨ids_idB rfl, by rw [hR2], trivial⟩
      · obtain ⟨hok, hnz⟩ := form_yes hm0 (fun h => h48 (by rw [hg0] at h; rw [h.1]; rfl))
        (refine SF_of_bodyX (aload tt) (aload_ok tyOK) Tryd.func24 rfl (by kernel_rfl) ?_; simp only [Tryd.ntmps24, List.length_cons, List.length_nil, Nat.reduceAdd, Nat.reduceSub, List.replicate_succ, List.replicate_zero, List.cons_append, List.nil_append])
        (refine Wk.o ?_; (repeat revert hK K); refine W207aa ?_; (repeat intro K hK); refine ⟨?_⟩)
        (refine AWH (σ := Nat) [37, 38, 39, 40, 43, 44, 45, 46, 47, 48, 49, 50, 51, 52, 6, 7, 41, 42] (fun k => [(9, lint k)]) (fun k => []) (fun k => []) (fun k => 0 ≤ k ∧ k ≤ l.length ∧ ((magOf l).take (k - 0)).all isDg = true) (fun k => l.length - k) 0 (by first | exact ⟨Nat.le_refl _, by omega, rfl⟩) ?_; rintro k d fr hfr ⟨hk0, hk, hj⟩; simp only [updS, deadS, List.set_cons_succ, List.set_cons_zero, lint] at hfr; subst hfr; (try dsimp only))
        by_cases hlt : k < l.length
        · have hkk : (magOf l).getD (k - 0) 0 = l.getD k 0 := by rw [hgd, show 0 + (k - 0) = k by omega]
          have hkl : k - 0 < (magOf l).length := by omega
          by_cases h6 : (l.getD k 0).toNat < 48
          · (refine Wk.o ?_; (repeat revert hK K); refine W207aa ?_; (repeat intro K hK); refine ⟨?_⟩)
            (simp only [bodyX]; refine ⟨_, by simp only [aresults, aresult, XS.as, Tryd.results24, aload, go_sem, Option.bind_some]; rfl, ?_⟩)
            exact ⟨ids_idB rfl, by rw [hfn (by rw [hok]; exact dg_no hkl (by rw [hkk]; omega))], trivial⟩
          · by_cases h7 : 57 < (l.getD k 0).toNat
            · (refine Wk.o ?_; (repeat revert hK K); refine W207aa ?_; (repeat intro K hK); refine ⟨?_⟩)
              (simp only [bodyX]; refine ⟨_, by simp only [aresults, aresult, XS.as, Tryd.results24, aload, go_sem, Option.bind_some]; rfl, ?_⟩)
              exact ⟨ids_idB rfl, by rw [hfn (by rw [hok]; exact dg_no hkl (by rw [hkk]; omega))], trivial⟩
            · have hI2 : 0 ≤ k + 1 ∧ k + 1 ≤ l.length ∧ ((magOf l).take (k + 1 - 0)).all isDg = true := ⟨by omega, by omega, by rw [show k + 1 - 0 = k - 0 + 1 by omega]; exact dg_take hkl hj (by rw [hkk]; omega) (by rw [hkk]; omega)⟩
              (refine Wk.o ?_; (repeat revert hK K); refine W207aa ?_; (repeat intro K hK); refine ⟨?_⟩)
              exact WEND (k + 1) hI2 (by (first | omega | (dsimp only; omega) | (simp only; omega)))
        · obtain rfl : k = l.length := by omega
          have hall : (magOf l).all isDg = true := by rw [List.take_of_length_le (by omega)] at hj; exact hj
          have hok2 : numOk l = true := by rw [hok, hall]
          have hR : numR l lo hi = if -9223372036854775808 ≤ numV l ∧ numV l ≤ 9223372036854775807 ∧ lo ≤ numV l ∧ numV l ≤ hi then (numV l, 0) else (0, 7) := by unfold numR; rw [if_neg (by rw [hok2]; decide)]
          by_cases hb : 19 < l.length - 0
          · first
            | (exfalso; omega)
            | (have hbig := dv_big hall hnz (by omega)
               have hR2 : numR l lo hi = (0, 7) := by rw [hR, if_neg]; intro h; rw [hN] at h; split at h <;> omega
               (refine Wk.o ?_; (repeat revert hK K); refine W207aa ?_; (repeat intro K hK); refine ⟨?_⟩)
               (simp only [bodyX]; refine ⟨_, by simp only [aresults, aresult, XS.as, Tryd.results24, aload, go_sem, Option.bind_some]; rfl, ?_⟩)
               exact ⟨ids_idB rfl, by rw [hR2], trivial⟩)
          · (refine Wk.o ?_; (repeat revert hK K); refine W207aa ?_; (repeat intro K hK); refine ⟨?_⟩)
            (refine AWH (σ := Nat) [59, 60, 61, 62, 65, 66, 67, 68, 69, 12, 70, 71, 72, 73, 74, 75, 76, 77, 63, 64] (fun k => [(11, lint k), (10, .iv (.lit (.int .i64 (IntKind.i64.wrap (nk 0 (magOf l) k)))))]) (fun k => []) (fun k => []) (fun k => k ≤ l.length) (fun k => l.length - k) 0 (by first | exact Nat.zero_le _) ?_; rintro k d fr hfr hk; simp only [updS, deadS, List.set_cons_succ, List.set_cons_zero, lint] at hfr; subst hfr; (try dsimp only))
            by_cases hlt : k < l.length
            · have hkk : (magOf l).getD k 0 = l.getD k 0 := by rw [hgd, Nat.zero_add]
              have hst := nk_step (f := 0) (show k < (magOf l).length by omega) hall
              rw [hkk, if_neg (by omega)] at hst
              have hcb : (l.getD k 0).toNat < 256 := UInt8.toNat_lt _
              have hs1 := wr_step (nk 0 (magOf l) k) (((l.getD k 0).toNat : Int) - 48)
              rw [← hst] at hs1
              have hs2 : IntKind.i64.wrap ((l.getD k 0).toNat : Int) = ((l.getD k 0).toNat : Int) := by rw [IntKind.wrap_i64]; omega
              have hs3 : IntKind.i64.wrap (((l.getD k 0).toNat : Int) - 48) = ((l.getD k 0).toNat : Int) - 48 := by rw [IntKind.wrap_i64]; omega
              have hI2 : k + 1 ≤ l.length := by omega
              (refine Wk.o ?_; (repeat revert hK K); refine W207aa ?_; (repeat intro K hK); refine ⟨?_⟩)
              exact whx_end (k + 1) hI2 (by (first | omega | (dsimp only; omega) | (simp only; omega))) rfl rfl (fun d => by first | ((simp (disch := omega) only [go_sem, lint , hs1, hs2, hs3, hs4, hs5, ba_toList, ba_size, byteAt_ba, Int.toNat_zero, Int.toNat_one, Int.toNat_natCast]); done) | ((simp (disch := omega) only [go_sem, lint , hs1, hs2, hs3, hs4, hs5, ba_toList, ba_size, byteAt_ba, Int.toNat_zero, Int.toNat_one, Int.toNat_natCast]); rfl))
            · obtain rfl : k = l.length := by omega
              have hnk : nk 0 (magOf l) l.length = numV l := by
                rw [hN, if_neg (by omega)]
                unfold nk
                rw [if_neg (by omega), List.take_of_length_le (by omega)]
              obtain ⟨x, hxe⟩ : ∃ x, x = IntKind.i64.wrap (nk 0 (magOf l) l.length) := ⟨_, rfl⟩
              have hxb : -9223372036854775808 ≤ x ∧ x ≤ 9223372036854775807 := by rw [hxe, IntKind.wrap_i64]; omega
              have hxi : (-9223372036854775808 ≤ numV l ∧ numV l ≤ 9223372036854775807) ↔ x = numV l := by
                rw [hxe, hnk, IntKind.wrap_i64]; omega
              rw [← hxe]
              have hC := pf_rDigits x hxb.1 hxb.2
              by_cases hin : x = numV l
              · have hr := hxi.2 hin
                have hs1 : (itoa x == l) = true := by rw [hin, num_itoa hok2]; simp
                by_cases h8 : x < lo
                · have hR2 : numR l lo hi = (0, 7) := by rw [hR, if_neg]; intro h; omega
                  (refine Wk.o ?_; (repeat revert hK K); refine W207aa ?_; (repeat intro K hK); refine ⟨?_⟩)
                  (simp only [bodyX]; refine ⟨_, by simp only [aresults, aresult, XS.as, Tryd.results24, aload, go_sem, Option.bind_some]; rfl, ?_⟩)
                  exact ⟨ids_idB rfl, by rw [hR2], trivial⟩
                · by_cases h9 : hi < x
                  · have hR2 : numR l lo hi = (0, 7) := by rw [hR, if_neg]; intro h; omega
                    (refine Wk.o ?_; (repeat revert hK K); refine W207aa ?_; (repeat intro K hK); refine ⟨?_⟩)
                    (simp only [bodyX]; refine ⟨_, by simp only [aresults, aresult, XS.as, Tryd.results24, aload, go_sem, Option.bind_some]; rfl, ?_⟩)
                    exact ⟨ids_idB rfl, by rw [hR2], trivial⟩
                  · have hR2 : numR l lo hi = (x, 0) := by rw [hR, if_pos (by omega), hin]
                    (refine Wk.o ?_; (repeat revert hK K); refine W207aa ?_; (repeat intro K hK); refine ⟨?_⟩)
                    (simp only [bodyX]; refine ⟨_, by simp only [aresults, aresult, XS.as, Tryd.results24, aload, go_sem, Option.bind_some]; rfl, ?_⟩)
                    exact ⟨ids_idB rfl, by rw [hR2], trivial⟩
              · have hs1 : (itoa x == l) = false := by simpa using itoa_ne hin
                have hR2 : numR l lo hi = (0, 7) := by rw [hR, if_neg]; intro h; exact hin (hxi.1 ⟨h.1, h.2.1⟩)
                (refine Wk.o ?_; (repeat revert hK K); refine W207aa ?_; (repeat intro K hK); refine ⟨?_⟩)
                (simp only [bodyX]; refine ⟨_, by simp only [aresults, aresult, XS.as, Tryd.results24, aload, go_sem, Option.bind_some]; rfl, ?_⟩)
                exact ⟨ids_idB rfl, by rw [hR2], trivial⟩
end Go.Proofs.YthgmjboldboclaaDoor
