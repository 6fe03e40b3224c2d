import Derived.Test.YthgmjboldboclaaDoorMgBF
import Derived.Test.YthgmjboldboclaaDoorMgBK
import Derived.Test.YthgmjboldboclaaDoorMgBI
import Derived.Test.YthgmjboldboclaaDoorMgAT
import Derived.Test.YthgmjboldboclaaDoorMgBT
import Derived.Test.YthgmjboldboclaaDoorMgBL
namespace Go.Proofs.YthgmjboldboclaaDoor
open Go.RowKit
set_option linter.unusedVariables false
set_option linter.unusedSimpArgs false
set_option maxRecDepth 100000 in
set_option maxHeartbeats 1000000 in
theorem pf_has (xs : List Int) (v : Int) (hx : xs.length ≤ 1000000) : PF Tryd.prog 25 [.iv (iInts xs), lt (.int .i64 v)] fun r H' => r = lt (.bool (decide (v ∈ xs))) ∧ H' = [] := by
  refine SF.forgetAll ?_
  (refine SF_of_bodyX (aload tt) (aload_ok tyOK) Tryd.func25 rfl (by kernel_rfl) ?_; simp only [Tryd.ntmps25, List.length_cons, List.length_nil, Nat.reduceAdd, Nat.reduceSub, List.replicate_succ, List.replicate_zero, List.cons_append, List.nil_append])
  unfold iInts
  (repeat (first | (first | (with_reducible first | refine AX_block ?_ | refine AX_skip ?_ | refine AX_exit ?_ | refine AX_ret ?_ | refine AX_ift ?_ | refine AX_iff ?_ | refine AX_seq_k (fun K hK => ?_) | refine ContX.use (by assumption) ?_) | simp only [thenX, inBlockX, if_true, if_false, reduceCtorEq]) | (first | ((first | (with_reducible refine XRes_op tyOK ?_ ?_) | ((with_reducible first | refine ADF_op tyOK ?_ ?_ ?_ | refine ADX_op tyOK ?_ ?_ ?_); (focus rfl)) | (with_reducible refine ADR_alloc1 tyOK ?_ ?_) | ((with_reducible refine ADR_free1 tyOK ?_ ?_ ?_); (focus rfl)) | ((with_reducible refine ADR_free0 tyOK ?_ ?_ ?_); (focus rfl)) | ((with_reducible refine ADR_read1 tyOK ?_ ?_ ?_); (focus rfl)) | (with_reducible refine ADR_chg1 tyOK ?_ ?_)); (focus (first | (with_reducible rfl) | ((simp (disch := omega) only [go_sem]); done))); simp (disch := omega) only [go_sem , iFlat, iInts]; (first | (with_reducible refine XRes_id ?_) | (with_reducible refine ADF_id ?_) | (with_reducible refine ADR_id1 ?_) | (with_reducible refine ADX_id ?_))) | ((first | (with_reducible refine XRes_skip ?_ ?_) | (with_reducible refine ADF_skip (b := true) ?_ ?_) | (with_reducible refine ADX_skip ?_ ?_) | ((with_reducible refine ADR_skip1 ?_ ?_ ?_); (focus rfl))); (focus (first | rfl | ((simp (disch := omega) only [go_sem]); done))); (simp only [putL, List.set_cons_succ, List.set_cons_zero]))) | ((first | (with_reducible refine XRes_nil ?_) | (with_reducible refine ADF_nil ?_) | (with_reducible refine ADR_nil ?_) | (with_reducible refine ADX_nil ?_)); (first | refine hK _ ?_ | refine hK _ _ ?_); clear hK K) | ((first | (with_reducible refine AX_reg0 fun K hK => ?_) | (refine AX_drawG1 tyOK (by kernel_rfl) (by rfl) (by kernel_rfl) fun K hK => ?_) | (refine AX_drawT tyOK (by kernel_rfl) (by decide +kernel) fun K hK => ?_) | (refine AX_drawM1 (by kernel_rfl) (by rfl) (by decide +kernel) fun K hK => ?_) | (refine AX_drawA tyOK (by kernel_rfl) (by decide +kernel) fun K hK => ?_)); (first | simp only [go_sem, preN, effOp, runF, alM, mapOp, alD2, kdOf2, Bool.not_false, Bool.not_true, reduceCtorEq] | simp only [go_sem, preN, effOp, runF, alM, mapOp, Bool.not_false, Bool.not_true, reduceCtorEq] | simp only [go_sem, preN, effOp, runF, alD2, kdOf2, Bool.not_false, Bool.not_true, reduceCtorEq] | simp only [go_sem, alD2, kdOf2, Bool.not_false, Bool.not_true, reduceCtorEq] | simp only [go_sem, preN, effOp, runF, Bool.not_false, Bool.not_true, reduceCtorEq] | simp only [go_sem])) | fail))
  (refine AWH (σ := Nat) [6, 7, 8, 9, 12, 13, 14, 15, 16, 17, 4, 10, 11] (fun k => [(5, lint k)]) (fun k => []) (fun k => []) (fun k => k ≤ xs.length ∧ ∀ j, j < k → xs.getD j 0 ≠ v) (fun k => xs.length - k) 0 (by first | exact ⟨Nat.zero_le _, fun j h => absurd h (by omega)⟩) ?_; rintro k d fr hfr ⟨hk, hj⟩; simp only [updS, deadS, List.set_cons_succ, List.set_cons_zero, lint] at hfr; subst hfr; (try dsimp only))
  (repeat' (first | (first | (with_reducible first | refine AX_block ?_ | refine AX_skip ?_ | refine AX_exit ?_ | refine AX_ret ?_ | refine AX_ift ?_ | refine AX_iff ?_ | refine AX_seq_k (fun K hK => ?_) | refine ContX.use (by assumption) ?_) | simp only [thenX, inBlockX, if_true, if_false, reduceCtorEq]) | (first | ((first | (with_reducible refine XRes_op tyOK ?_ ?_) | ((with_reducible first | refine ADF_op tyOK ?_ ?_ ?_ | refine ADX_op tyOK ?_ ?_ ?_); (focus rfl)) | (with_reducible refine ADR_alloc1 tyOK ?_ ?_) | ((with_reducible refine ADR_free1 tyOK ?_ ?_ ?_); (focus rfl)) | ((with_reducible refine ADR_free0 tyOK ?_ ?_ ?_); (focus rfl)) | ((with_reducible refine ADR_read1 tyOK ?_ ?_ ?_); (focus rfl)) | (with_reducible refine ADR_chg1 tyOK ?_ ?_)); (focus (first | (with_reducible rfl) | ((simp (disch := omega) only [go_sem]); done))); simp (disch := omega) only [go_sem , iFlat, iInts]; (first | (with_reducible refine XRes_id ?_) | (with_reducible refine ADF_id ?_) | (with_reducible refine ADR_id1 ?_) | (with_reducible refine ADX_id ?_))) | ((first | (with_reducible refine XRes_skip ?_ ?_) | (with_reducible refine ADF_skip (b := true) ?_ ?_) | (with_reducible refine ADX_skip ?_ ?_) | ((with_reducible refine ADR_skip1 ?_ ?_ ?_); (focus rfl))); (focus (first | rfl | ((simp (disch := omega) only [go_sem]); done))); (simp only [putL, List.set_cons_succ, List.set_cons_zero]))) | ((first | (with_reducible refine XRes_nil ?_) | (with_reducible refine ADF_nil ?_) | (with_reducible refine ADR_nil ?_) | (with_reducible refine ADX_nil ?_)); (first | refine hK _ ?_ | refine hK _ _ ?_); clear hK K) | ((first | (with_reducible refine AX_reg0 fun K hK => ?_) | (refine AX_drawG1 tyOK (by kernel_rfl) (by rfl) (by kernel_rfl) fun K hK => ?_) | (refine AX_drawT tyOK (by kernel_rfl) (by decide +kernel) fun K hK => ?_) | (refine AX_drawM1 (by kernel_rfl) (by rfl) (by decide +kernel) fun K hK => ?_) | (refine AX_drawA tyOK (by kernel_rfl) (by decide +kernel) fun K hK => ?_)); (first | simp only [go_sem, preN, effOp, runF, alM, mapOp, alD2, kdOf2, Bool.not_false, Bool.not_true, reduceCtorEq] | simp only [go_sem, preN, effOp, runF, alM, mapOp, Bool.not_false, Bool.not_true, reduceCtorEq] | simp only [go_sem, preN, effOp, runF, alD2, kdOf2, Bool.not_false, Bool.not_true, reduceCtorEq] | simp only [go_sem, alD2, kdOf2, Bool.not_false, Bool.not_true, reduceCtorEq] | simp only [go_sem, preN, effOp, runF, Bool.not_false, Bool.not_true, reduceCtorEq] | simp only [go_sem])) | fail | ((first | (refine XRes_splitG (by rfl) (fun hc => ?_) (fun hc => ?_)) | (refine ADF_splitG (by rfl) (fun hc => ?_) (fun hc => ?_))) <;> (try simp only [eqRes, List.cons_beq_cons, Bool.and_eq_true, Bool.not_eq_true, Bool.and_eq_false_iff, decide_eq_true_eq, decide_eq_false_iff_not, bne_iff_ne, beq_iff_eq, bne_eq_false_iff_eq, beq_eq_false_iff_ne, Bool.not_eq_true', Bool.not_eq_false', ne_eq, Int.not_lt, Int.not_le, Decidable.not_not] at hc) <;> simp only [List.set_cons_succ, List.set_cons_zero]) | (first | ((with_reducible refine AX_if_t ?_ ?_); focus (simp (disch := omega) only [go_sem , iFlat, iInts]; done)) | ((with_reducible refine AX_if_f ?_ ?_); focus (simp (disch := omega) only [go_sem , iFlat, iInts]; done)) | (refine AX_cond _ (by rfl) (fun hc => ?_) (fun hc => ?_) <;> (try simp only [eqRes, List.cons_beq_cons, Bool.and_eq_true, Bool.not_eq_true, Bool.and_eq_false_iff, decide_eq_true_eq, decide_eq_false_iff_not, bne_iff_ne, beq_iff_eq, bne_eq_false_iff_eq, beq_eq_false_iff_ne, Bool.not_eq_true', Bool.not_eq_false', ne_eq, Int.not_lt, Int.not_le, Decidable.not_not] at hc)))))
  · (simp only [bodyX]; refine ⟨_, by simp only [aresults, aresult, XS.as, Tryd.results25, aload, go_sem, Option.bind_some]; rfl, ?_⟩)
    have hm : v ∈ xs := by
      have hlt : k < xs.length := by omega
      rw [List.getD_eq_getElem?_getD, List.getElem?_eq_getElem hlt] at hc
      have e : xs[k] = v := hc
      rw [← e]; exact List.getElem_mem hlt
    exact ⟨.iv _, by rw [decide_eq_true hm], trivial⟩
  · refine WEND (k + 1) ⟨by omega, fun j hj2 => ?_⟩ (by (first | omega | (dsimp only; omega) | (simp only; omega)))
    rcases Nat.lt_or_ge j k with h | h
    · exact hj j h
    · rw [show j = k by omega]; exact hc
  · (simp only [bodyX]; refine ⟨_, by simp only [aresults, aresult, XS.as, Tryd.results25, aload, go_sem, Option.bind_some]; rfl, ?_⟩)
    have hm : ¬ v ∈ xs := fun h => by
      obtain ⟨j, hj2, e⟩ := List.mem_iff_getElem.1 h
      refine hj j (by omega) ?_
      rw [List.getD_eq_getElem?_getD, List.getElem?_eq_getElem hj2]; exact e
    exact ⟨.iv _, by rw [decide_eq_false hm], trivial⟩
end Go.Proofs.YthgmjboldboclaaDoor
namespace Go.Proofs.YthgmjboldboclaaDoor
open Go.RowKit Go.Lib
set_option linter.unusedVariables false
set_option linter.unusedSimpArgs false
theorem wr_step (x d : Int) : IntKind.i64.wrap (IntKind.i64.wrap (10 * IntKind.i64.wrap x) + d) = IntKind.i64.wrap (10 * x + d) := by
  simp only [IntKind.wrap_i64]; omega
theorem drop_getD (l : List UInt8) (f k : Nat) : (l.drop f).getD k 0 = l.getD (f + k) 0 := by simp [List.getD]
theorem take_snocU {m : List UInt8} {k : Nat} (h : k < m.length) : m.take (k + 1) = m.take k ++ [m.getD k 0] := by
  rw [List.take_succ_eq_append_getElem h]; simp [List.getD, h]
def nk (f : Nat) (m : List UInt8) (k : Nat) : Int := if f = 1 then -(dv 0 (m.take k) : Int) else dv 0 (m.take k)
theorem nk_step {f : Nat} {m : List UInt8} {k : Nat} (h : k < m.length) (hd : m.all isDg = true) : nk f m (k + 1) = 10 * nk f m k + (if f = 1 then -(((m.getD k 0).toNat : Int) - 48) else ((m.getD k 0).toNat : Int) - 48) := by
  have hc : 48 ≤ (m.getD k 0).toNat := by
    rw [List.all_eq_true] at hd
    have := hd m[k] (List.getElem_mem h)
    rw [show m.getD k 0 = m[k] by simp [List.getD, h]]
    exact (of_decide_eq_true this).1
  unfold nk
  rw [take_snocU h, dv_snoc]
  split <;> omega
theorem W207aa {A B : Prop} (h9 : B) (w : B → A := by (intro h9; (repeat intro K hK); refine ⟨?_⟩; (repeat (first | (first | (with_reducible first | refine AX_block ?_ | refine AX_skip ?_ | refine AX_exit ?_ | refine AX_ret ?_ | refine AX_ift ?_ | refine AX_iff ?_ | refine AX_seq_k (fun K hK => ?_) | refine ContX.use (by assumption) ?_) | simp only [thenX, inBlockX, if_true, if_false, reduceCtorEq]) | (first | ((with_reducible refine XOP tyOK ?_); simp (disch := omega) only [go_sem , hs1, hs2, hs3, hs4, hs5, ba_toList, ba_size, byteAt_ba, Int.toNat_zero, Int.toNat_one, Int.toNat_natCast]; (with_reducible refine XRes_id ?_)) | (with_reducible refine XSK ?_)) | ((with_reducible refine XRes_nil ?_); refine hK _ ?_; clear hK K) | ((with_reducible refine AX_reg0 fun K hK => ?_); simp only [go_sem]) | (first | (first | refine XTL (by rfl) hC ?_)))); refine Wk.o ?_; (repeat revert hK K); exact h9)) : A := w h9
set_option maxRecDepth 100000 in
set_option maxHeartbeats 8000000 in
theorem pf_rNumber (l : List UInt8) (lo hi : Int) (hl : l.length ≤ 1000000) : PF Tryd.prog 24 [lt (.string (ba l)), lt (.int .i64 lo), lt (.int .i64 hi)] fun r H' => r = .tup [lt (.int .i64 (numR l lo hi).1), lt (.int .i64 (numR l lo hi).2)] ∧ H' = [] := by
  refine SF.forgetAll ?_
  have hs1 := trivial; have hs2 := trivial; have hs3 := trivial; have hs4 := trivial; have hs5 := trivial; have hC := trivial
  obtain ⟨e1, e2, e3⟩ := frm_mag l
  have hN := frm_num l
  have hgd : ∀ k, (magOf l).getD k 0 = l.getD (frm l + k) 0 := fun k => by rw [e1, drop_getD]
  have hml : (magOf l).length = l.length - frm l := by rw [e1, List.length_drop]
  have hfn : numOk l = false → numR l lo hi = (0, 5) := fun h => by unfold numR; rw [if_pos h]
  by_cases hl0 : l.length = 0
  · have hnil : l = [] := List.length_eq_zero_iff.1 hl0
    rw [hfn (by rw [hnil]; rfl)]
    (refine SF_of_bodyX (aload tt) (aload_ok tyOK) Tryd.func24 rfl (by kernel_rfl) ?_; simp only [Tryd.ntmps24, List.length_cons, List.length_nil, Nat.reduceAdd, Nat.reduceSub, List.replicate_succ, List.replicate_zero, List.cons_append, List.nil_append])
    (refine Wk.o ?_; (repeat revert hK K); refine W207aa ?_; (repeat intro K hK); refine ⟨?_⟩)
    (simp only [bodyX]; refine ⟨_, by simp only [aresults, aresult, XS.as, Tryd.results24, aload, go_sem, Option.bind_some]; rfl, ?_⟩)
    exact ⟨ids_idB rfl, rfl, trivial⟩
  · by_cases h45 : (l.getD 0 0).toNat = 45
    · have hf1 : frm l = 1 := by
        cases l with
        | nil => exact absurd rfl hl0
        | cons c r =>
          have hc : c = 45 := UInt8.toNat_inj.1 (by rw [show c.toNat = 45 from h45]; rfl)
          rw [hc]; rfl
      rw [hf1] at hgd hml e1 hN
      by_cases hl1 : l.length = 1
      · have hm0 : magOf l = [] := List.length_eq_zero_iff.1 (by omega)
        have hno : numOk l = false := by unfold numOk; rw [hm0]; rfl
        (refine SF_of_bodyX (aload tt) (aload_ok tyOK) Tryd.func24 rfl (by kernel_rfl) ?_; simp only [Tryd.ntmps24, List.length_cons, List.length_nil, Nat.reduceAdd, Nat.reduceSub, List.replicate_succ, List.replicate_zero, List.cons_append, List.nil_append])
        (refine Wk.o ?_; (repeat revert hK K); refine W207aa ?_; (repeat intro K hK); refine ⟨?_⟩)
        (simp only [bodyX]; refine ⟨_, by simp only [aresults, aresult, XS.as, Tryd.results24, aload, go_sem, Option.bind_some]; rfl, ?_⟩)
        exact ⟨ids_idB rfl, by rw [hfn hno], trivial⟩
      · have hm0 : magOf l ≠ [] := fun e => by rw [e] at hml; simp at hml; omega
        have hg0 : (magOf l).getD 0 0 = l.getD 1 0 := hgd 0
        by_cases h48 : (l.getD 1 0).toNat = 48
        · have h48' : (magOf l).getD 0 0 = 48 := by rw [hg0]; exact UInt8.toNat_inj.1 (by rw [h48]; rfl)
          have hno := form_no h48' (by omega)
          (refine SF_of_bodyX (aload tt) (aload_ok tyOK) Tryd.func24 rfl (by kernel_rfl) ?_; simp only [Tryd.ntmps24, List.length_cons, List.length_nil, Nat.reduceAdd, Nat.reduceSub, List.replicate_succ, List.replicate_zero, List.cons_append, List.nil_append])
          (refine Wk.o ?_; (repeat revert hK K); refine W207aa ?_; (repeat intro K hK); refine ⟨?_⟩)
          (simp only [bodyX]; refine ⟨_, by simp only [aresults, aresult, XS.as, Tryd.results24, aload, go_sem, Option.bind_some]; rfl, ?_⟩)
          exact ⟨ids_idB rfl, by rw [hfn hno], trivial⟩
        · obtain ⟨hok, hnz⟩ := form_yes hm0 (fun h => h48 (by rw [hg0] at h; rw [h.1]; rfl))
          (refine SF_of_bodyX (aload tt) (aload_ok tyOK) Tryd.func24 rfl (by kernel_rfl) ?_; simp only [Tryd.ntmps24, List.length_cons, List.length_nil, Nat.reduceAdd, Nat.reduceSub, List.replicate_succ, List.replicate_zero, List.cons_append, List.nil_append])
          (refine Wk.o ?_; (repeat revert hK K); refine W207aa ?_; (repeat intro K hK); refine ⟨?_⟩)
          (refine AWH (σ := Nat) [37, 38, 39, 40, 43, 44, 45, 46, 47, 48, 49, 50, 51, 52, 6, 7, 41, 42] (fun k => [(9, lint k)]) (fun k => []) (fun k => []) (fun k => 1 ≤ k ∧ k ≤ l.length ∧ ((magOf l).take (k - 1)).all isDg = true) (fun k => l.length - k) 1 (by first | exact ⟨Nat.le_refl _, by omega, rfl⟩) ?_; rintro k d fr hfr ⟨hk0, hk, hj⟩; simp only [updS, deadS, List.set_cons_succ, List.set_cons_zero, lint] at hfr; subst hfr; (try dsimp only))
          by_cases hlt : k < l.length
          · have hkk : (magOf l).getD (k - 1) 0 = l.getD k 0 := by rw [hgd, show 1 + (k - 1) = k by omega]
            have hkl : k - 1 < (magOf l).length := by omega
            by_cases h6 : (l.getD k 0).toNat < 48
            · (refine Wk.o ?_; (repeat revert hK K); refine W207aa ?_; (repeat intro K hK); refine ⟨?_⟩)
              (simp only [bodyX]; refine ⟨_, by simp only [aresults, aresult, XS.as, Tryd.results24, aload, go_sem, Option.bind_some]; rfl, ?_⟩)
              exact ⟨ids_idB rfl, by rw [hfn (by rw [hok]; exact dg_no hkl (by rw [hkk]; omega))], trivial⟩
            · by_cases h7 : 57 < (l.getD k 0).toNat
              · (refine Wk.o ?_; (repeat revert hK K); refine W207aa ?_; (repeat intro K hK); refine ⟨?_⟩)
                (simp only [bodyX]; refine ⟨_, by simp only [aresults, aresult, XS.as, Tryd.results24, aload, go_sem, Option.bind_some]; rfl, ?_⟩)
                exact ⟨ids_idB rfl, by rw [hfn (by rw [hok]; exact dg_no hkl (by rw [hkk]; omega))], trivial⟩
              · have hI2 : 1 ≤ k + 1 ∧ k + 1 ≤ l.length ∧ ((magOf l).take (k + 1 - 1)).all isDg = true := ⟨by omega, by omega, by rw [show k + 1 - 1 = k - 1 + 1 by omega]; exact dg_take hkl hj (by rw [hkk]; omega) (by rw [hkk]; omega)⟩
                (refine Wk.o ?_; (repeat revert hK K); refine W207aa ?_; (repeat intro K hK); refine ⟨?_⟩)
                exact WEND (k + 1) hI2 (by (first | omega | (dsimp only; omega) | (simp only; omega)))
          · have hkm : k - 1 = (magOf l).length := by omega
            have hall : (magOf l).all isDg = true := by rw [hkm, List.take_length] at hj; exact hj
            have hok2 : numOk l = true := by rw [hok, hall]
            have hR : numR l lo hi = if -9223372036854775808 ≤ numV l ∧ numV l ≤ 9223372036854775807 ∧ lo ≤ numV l ∧ numV l ≤ hi then (numV l, 0) else (0, 7) := by unfold numR; rw [if_neg (by rw [hok2]; decide)]
            by_cases hb : 19 < l.length - 1
            · have hbig := dv_big hall hnz (by omega)
              have hR2 : numR l lo hi = (0, 7) := by rw [hR, if_neg]; intro h; rw [hN] at h; split at h <;> omega
              (refine Wk.o ?_; (repeat revert hK K); refine W207aa ?_; (repeat intro K hK); refine ⟨?_⟩)
              (simp only [bodyX]; refine ⟨_, by simp only [aresults, aresult, XS.as, Tryd.results24, aload, go_sem, Option.bind_some]; rfl, ?_⟩)
              exact ⟨ids_idB rfl, by rw [hR2], trivial⟩
            · (refine Wk.o ?_; (repeat revert hK K); refine W207aa ?_; (repeat intro K hK); refine ⟨?_⟩)
              (refine AWH (σ := Nat) [59, 60, 61, 62, 65, 66, 67, 68, 69, 12, 70, 71, 72, 73, 74, 75, 76, 77, 63, 64] (fun k => [(11, lint k), (10, .iv (.lit (.int .i64 (IntKind.i64.wrap (nk 1 (magOf l) (k - 1))))))]) (fun k => []) (fun k => []) (fun k => 1 ≤ k ∧ k ≤ l.length) (fun k => l.length - k) 1 (by first | exact ⟨Nat.le_refl _, by omega⟩) ?_; rintro k d fr hfr ⟨hk0, hk⟩; simp only [updS, deadS, List.set_cons_succ, List.set_cons_zero, lint] at hfr; subst hfr; (try dsimp only))
              by_cases hlt : k < l.length
              · have hkk : (magOf l).getD (k - 1) 0 = l.getD k 0 := by rw [hgd, show 1 + (k - 1) = k by omega]
                have hst := nk_step (f := 1) (show k - 1 < (magOf l).length by omega) hall
                rw [show k - 1 + 1 = k + 1 - 1 by omega] at hst
                rw [hkk, if_pos rfl] at hst
                have hcb : (l.getD k 0).toNat < 256 := UInt8.toNat_lt _
                have hs1 := wr_step (nk 1 (magOf l) (k - 1)) (-(((l.getD k 0).toNat : Int) - 48))
                rw [← hst] at hs1
                have hs2 : IntKind.i64.wrap ((l.getD k 0).toNat : Int) = ((l.getD k 0).toNat : Int) := by rw [IntKind.wrap_i64]; omega
                have hs3 : IntKind.i64.wrap (((l.getD k 0).toNat : Int) - 48) = ((l.getD k 0).toNat : Int) - 48 := by rw [IntKind.wrap_i64]; omega
                have hs4 : IntKind.i64.wrap (-(((l.getD k 0).toNat : Int) - 48)) = -(((l.getD k 0).toNat : Int) - 48) := by rw [IntKind.wrap_i64]; omega
                have hI2 : 1 ≤ k + 1 ∧ k + 1 ≤ l.length := ⟨by omega, by omega⟩
                (refine Wk.o ?_; (repeat revert hK K); refine W207aa ?_; (repeat intro K hK); refine ⟨?_⟩)
                exact whx_end (k + 1) hI2 (by (first | omega | (dsimp only; omega) | (simp only; omega))) rfl rfl (fun d => by first | ((simp (disch := omega) only [go_sem, lint , hs1, hs2, hs3, hs4, hs5, ba_toList, ba_size, byteAt_ba, Int.toNat_zero, Int.toNat_one, Int.toNat_natCast]); done) | ((simp (disch := omega) only [go_sem, lint , hs1, hs2, hs3, hs4, hs5, ba_toList, ba_size, byteAt_ba, Int.toNat_zero, Int.toNat_one, Int.toNat_natCast]); rfl))
              · have hkm : k - 1 = (magOf l).length := by omega
                have hnk : nk 1 (magOf l) (k - 1) = numV l := by
                  rw [hN, if_pos rfl]
                  unfold nk
                  rw [if_pos rfl, hkm, List.take_length]
                obtain ⟨x, hxe⟩ : ∃ x, x = IntKind.i64.wrap (nk 1 (magOf l) (k - 1)) := ⟨_, rfl⟩
                have hxb : -9223372036854775808 ≤ x ∧ x ≤ 9223372036854775807 := by rw [hxe, IntKind.wrap_i64]; omega
                have hxi : (-9223372036854775808 ≤ numV l ∧ numV l ≤ 9223372036854775807) ↔ x = numV l := by
                  rw [hxe, hnk, IntKind.wrap_i64]; omega
                rw [← hxe]
                have hC := pf_rDigits x hxb.1 hxb.2
                by_cases hin : x = numV l
                · have hr := hxi.2 hin
                  have hs1 : (itoa x == l) = true := by rw [hin, num_itoa hok2]; simp
                  by_cases h8 : x < lo
                  · have hR2 : numR l lo hi = (0, 7) := by rw [hR, if_neg]; intro h; omega
                    (refine Wk.o ?_; (repeat revert hK K); refine W207aa ?_; (repeat intro K hK); refine ⟨?_⟩)
                    (simp only [bodyX]; refine ⟨_, by simp only [aresults, aresult, XS.as, Tryd.results24, aload, go_sem, Option.bind_some]; rfl, ?_⟩)
                    exact ⟨ids_idB rfl, by rw [hR2], trivial⟩
                  · by_cases h9 : hi < x
                    · have hR2 : numR l lo hi = (0, 7) := by rw [hR, if_neg]; intro h; omega
                      (refine Wk.o ?_; (repeat revert hK K); refine W207aa ?_; (repeat intro K hK); refine ⟨?_⟩)
                      (simp only [bodyX]; refine ⟨_, by simp only [aresults, aresult, XS.as, Tryd.results24, aload, go_sem, Option.bind_some]; rfl, ?_⟩)
                      exact ⟨ids_idB rfl, by rw [hR2], trivial⟩
                    · have hR2 : numR l lo hi = (x, 0) := by rw [hR, if_pos (by omega), hin]
                      (refine Wk.o ?_; (repeat revert hK K); refine W207aa ?_; (repeat intro K hK); refine ⟨?_⟩)
                      (simp only [bodyX]; refine ⟨_, by simp only [aresults, aresult, XS.as, Tryd.results24, aload, go_sem, Option.bind_some]; rfl, ?_⟩)
                      exact ⟨ids_idB rfl, by rw [hR2], trivial⟩
                · have hs1 : (itoa x == l) = false := by simpa using itoa_ne hin
                  have hR2 : numR l lo hi = (0, 7) := by rw [hR, if_neg]; intro h; exact hin (hxi.1 ⟨h.1, h.2.1⟩)
                  (refine Wk.o ?_; (repeat revert hK K); refine W207aa ?_; (repeat intro K hK); refine ⟨?_⟩)
                  (simp only [bodyX]; refine ⟨_, by simp only [aresults, aresult, XS.as, Tryd.results24, aload, go_sem, Option.bind_some]; rfl, ?_⟩)
                  exact ⟨ids_idB rfl, by rw [hR2], trivial⟩
    · have hf0 : frm l = 0 := by
        cases l with
        | nil => exact absurd rfl hl0
        | cons c r => exact frm_plain fun e => h45 (by rw [e]; rfl)
      rw [hf0] at hgd hml e1 hN
      have hm0 : magOf l ≠ [] := fun e => by rw [e] at hml; simp at hml; omega
      have hg0 := hgd 0
      by_cases h48 : (l.getD 0 0).toNat = 48
      · have h48' : (magOf l).getD 0 0 = 48 := by rw [hg0]; exact UInt8.toNat_inj.1 (by rw [h48]; rfl)
        by_cases h1 : 1 < l.length
        · rw [hfn (form_no h48' h1)]
          (refine SF_of_bodyX (aload tt) (aload_ok tyOK) Tryd.func24 rfl (by kernel_rfl) ?_; simp only [Tryd.ntmps24, List.length_cons, List.length_nil, Nat.reduceAdd, Nat.reduceSub, List.replicate_succ, List.replicate_zero, List.cons_append, List.nil_append])
          (refine Wk.o ?_; (repeat revert hK K); refine W207aa ?_; (repeat intro K hK); refine ⟨?_⟩)
          (simp only [bodyX]; refine ⟨_, by simp only [aresults, aresult, XS.as, Tryd.results24, aload, go_sem, Option.bind_some]; rfl, ?_⟩)
          exact ⟨ids_idB rfl, rfl, trivial⟩
        · obtain ⟨hok, hnz⟩ := form_yes hm0 (fun h => h1 h.2)
          (refine SF_of_bodyX (aload tt) (aload_ok tyOK) Tryd.func24 rfl (by kernel_rfl) ?_; simp only [Tryd.ntmps24, List.length_cons, List.length_nil, Nat.reduceAdd, Nat.reduceSub, List.replicate_succ, List.replicate_zero, List.cons_append, List.nil_append])
          (refine Wk.o ?_; (repeat revert hK K); refine W207aa ?_; (repeat intro K hK); refine ⟨?_⟩)
          (refine AWH (σ := Nat) [37, 38, 39, 40, 43, 44, 45, 46, 47, 48, 49, 50, 51, 52, 6, 7, 41, 42] (fun k => [(9, lint k)]) (fun k => []) (fun k => []) (fun k => 0 ≤ k ∧ k ≤ l.length ∧ ((magOf l).take (k - 0)).all isDg = true) (fun k => l.length - k) 0 (by first | exact ⟨Nat.le_refl _, by omega, rfl⟩) ?_; rintro k d fr hfr ⟨hk0, hk, hj⟩; simp only [updS, deadS, List.set_cons_succ, List.set_cons_zero, lint] at hfr; subst hfr; (try dsimp only))
          by_cases hlt : k < l.length
          · have hkk : (magOf l).getD (k - 0) 0 = l.getD k 0 := by rw [hgd, show 0 + (k - 0) = k by omega]
            have hkl : k - 0 < (magOf l).length := by omega
            by_cases h6 : (l.getD k 0).toNat < 48
            · (refine Wk.o ?_; (repeat revert hK K); refine W207aa ?_; (repeat intro K hK); refine ⟨?_⟩)
              (simp only [bodyX]; refine ⟨_, by simp only [aresults, aresult, XS.as, Tryd.results24, aload, go_sem, Option.bind_some]; rfl, ?_⟩)
              exact ⟨ids_idB rfl, by rw [hfn (by rw [hok]; exact dg_no hkl (by rw [hkk]; omega))], trivial⟩
            · by_cases h7 : 57 < (l.getD k 0).toNat
              · (refine Wk.o ?_; (repeat revert hK K); refine W207aa ?_; (repeat intro K hK); refine ⟨?_⟩)
                (simp only [bodyX]; refine ⟨_, by simp only [aresults, aresult, XS.as, Tryd.results24, aload, go_sem, Option.bind_some]; rfl, ?_⟩)
                exact ⟨ids_idB rfl, by rw [hfn (by rw [hok]; exact dg_no hkl (by rw [hkk]; omega))], trivial⟩
              · have hI2 : 0 ≤ k + 1 ∧ k + 1 ≤ l.length ∧ ((magOf l).take (k + 1 - 0)).all isDg = true := ⟨by omega, by omega, by rw [show k + 1 - 0 = k - 0 + 1 by omega]; exact dg_take hkl hj (by rw [hkk]; omega) (by rw [hkk]; omega)⟩
                (refine Wk.o ?_; (repeat revert hK K); refine W207aa ?_; (repeat intro K hK); refine ⟨?_⟩)
                exact WEND (k + 1) hI2 (by (first | omega | (dsimp only; omega) | (simp only; omega)))
          · obtain rfl : k = l.length := by omega
            have hall : (magOf l).all isDg = true := by rw [List.take_of_length_le (by omega)] at hj; exact hj
            have hok2 : numOk l = true := by rw [hok, hall]
            have hR : numR l lo hi = if -9223372036854775808 ≤ numV l ∧ numV l ≤ 9223372036854775807 ∧ lo ≤ numV l ∧ numV l ≤ hi then (numV l, 0) else (0, 7) := by unfold numR; rw [if_neg (by rw [hok2]; decide)]
            by_cases hb : 19 < l.length - 0
            · first
              | (exfalso; omega)
              | (have hbig := dv_big hall hnz (by omega)
                 have hR2 : numR l lo hi = (0, 7) := by rw [hR, if_neg]; intro h; rw [hN] at h; split at h <;> omega
                 (refine Wk.o ?_; (repeat revert hK K); refine W207aa ?_; (repeat intro K hK); refine ⟨?_⟩)
                 (simp only [bodyX]; refine ⟨_, by simp only [aresults, aresult, XS.as, Tryd.results24, aload, go_sem, Option.bind_some]; rfl, ?_⟩)
                 exact ⟨ids_idB rfl, by rw [hR2], trivial⟩)
            · (refine Wk.o ?_; (repeat revert hK K); refine W207aa ?_; (repeat intro K hK); refine ⟨?_⟩)
              (refine AWH (σ := Nat) [59, 60, 61, 62, 65, 66, 67, 68, 69, 12, 70, 71, 72, 73, 74, 75, 76, 77, 63, 64] (fun k => [(11, lint k), (10, .iv (.lit (.int .i64 (IntKind.i64.wrap (nk 0 (magOf l) k)))))]) (fun k => []) (fun k => []) (fun k => k ≤ l.length) (fun k => l.length - k) 0 (by first | exact Nat.zero_le _) ?_; rintro k d fr hfr hk; simp only [updS, deadS, List.set_cons_succ, List.set_cons_zero, lint] at hfr; subst hfr; (try dsimp only))
              by_cases hlt : k < l.length
              · have hkk : (magOf l).getD k 0 = l.getD k 0 := by rw [hgd, Nat.zero_add]
                have hst := nk_step (f := 0) (show k < (magOf l).length by omega) hall
                rw [hkk, if_neg (by omega)] at hst
                have hcb : (l.getD k 0).toNat < 256 := UInt8.toNat_lt _
                have hs1 := wr_step (nk 0 (magOf l) k) (((l.getD k 0).toNat : Int) - 48)
                rw [← hst] at hs1
                have hs2 : IntKind.i64.wrap ((l.getD k 0).toNat : Int) = ((l.getD k 0).toNat : Int) := by rw [IntKind.wrap_i64]; omega
                have hs3 : IntKind.i64.wrap (((l.getD k 0).toNat : Int) - 48) = ((l.getD k 0).toNat : Int) - 48 := by rw [IntKind.wrap_i64]; omega
                have hI2 : k + 1 ≤ l.length := by omega
                (refine Wk.o ?_; (repeat revert hK K); refine W207aa ?_; (repeat intro K hK); refine ⟨?_⟩)
                exact whx_end (k + 1) hI2 (by (first | omega | (dsimp only; omega) | (simp only; omega))) rfl rfl (fun d => by first | ((simp (disch := omega) only [go_sem, lint , hs1, hs2, hs3, hs4, hs5, ba_toList, ba_size, byteAt_ba, Int.toNat_zero, Int.toNat_one, Int.toNat_natCast]); done) | ((simp (disch := omega) only [go_sem, lint , hs1, hs2, hs3, hs4, hs5, ba_toList, ba_size, byteAt_ba, Int.toNat_zero, Int.toNat_one, Int.toNat_natCast]); rfl))
              · obtain rfl : k = l.length := by omega
                have hnk : nk 0 (magOf l) l.length = numV l := by
                  rw [hN, if_neg (by omega)]
                  unfold nk
                  rw [if_neg (by omega), List.take_of_length_le (by omega)]
                obtain ⟨x, hxe⟩ : ∃ x, x = IntKind.i64.wrap (nk 0 (magOf l) l.length) := ⟨_, rfl⟩
                have hxb : -9223372036854775808 ≤ x ∧ x ≤ 9223372036854775807 := by rw [hxe, IntKind.wrap_i64]; omega
                have hxi : (-9223372036854775808 ≤ numV l ∧ numV l ≤ 9223372036854775807) ↔ x = numV l := by
                  rw [hxe, hnk, IntKind.wrap_i64]; omega
                rw [← hxe]
                have hC := pf_rDigits x hxb.1 hxb.2
                by_cases hin : x = numV l
                · have hr := hxi.2 hin
                  have hs1 : (itoa x == l) = true := by rw [hin, num_itoa hok2]; simp
                  by_cases h8 : x < lo
                  · have hR2 : numR l lo hi = (0, 7) := by rw [hR, if_neg]; intro h; omega
                    (refine Wk.o ?_; (repeat revert hK K); refine W207aa ?_; (repeat intro K hK); refine ⟨?_⟩)
                    (simp only [bodyX]; refine ⟨_, by simp only [aresults, aresult, XS.as, Tryd.results24, aload, go_sem, Option.bind_some]; rfl, ?_⟩)
                    exact ⟨ids_idB rfl, by rw [hR2], trivial⟩
                  · by_cases h9 : hi < x
                    · have hR2 : numR l lo hi = (0, 7) := by rw [hR, if_neg]; intro h; omega
                      (refine Wk.o ?_; (repeat revert hK K); refine W207aa ?_; (repeat intro K hK); refine ⟨?_⟩)
                      (simp only [bodyX]; refine ⟨_, by simp only [aresults, aresult, XS.as, Tryd.results24, aload, go_sem, Option.bind_some]; rfl, ?_⟩)
                      exact ⟨ids_idB rfl, by rw [hR2], trivial⟩
                    · have hR2 : numR l lo hi = (x, 0) := by rw [hR, if_pos (by omega), hin]
                      (refine Wk.o ?_; (repeat revert hK K); refine W207aa ?_; (repeat intro K hK); refine ⟨?_⟩)
                      (simp only [bodyX]; refine ⟨_, by simp only [aresults, aresult, XS.as, Tryd.results24, aload, go_sem, Option.bind_some]; rfl, ?_⟩)
                      exact ⟨ids_idB rfl, by rw [hR2], trivial⟩
                · have hs1 : (itoa x == l) = false := by simpa using itoa_ne hin
                  have hR2 : numR l lo hi = (0, 7) := by rw [hR, if_neg]; intro h; exact hin (hxi.1 ⟨h.1, h.2.1⟩)
                  (refine Wk.o ?_; (repeat revert hK K); refine W207aa ?_; (repeat intro K hK); refine ⟨?_⟩)
                  (simp only [bodyX]; refine ⟨_, by simp only [aresults, aresult, XS.as, Tryd.results24, aload, go_sem, Option.bind_some]; rfl, ?_⟩)
                  exact ⟨ids_idB rfl, by rw [hR2], trivial⟩
      · obtain ⟨hok, hnz⟩ := form_yes hm0 (fun h => h48 (by rw [hg0] at h; rw [h.1]; rfl))
        (refine SF_of_bodyX (aload tt) (aload_ok tyOK) Tryd.func24 rfl (by kernel_rfl) ?_; simp only [Tryd.ntmps24, List.length_cons, List.length_nil, Nat.reduceAdd, Nat.reduceSub, List.replicate_succ, List.replicate_zero, List.cons_append, List.nil_append])
        (refine Wk.o ?_; (repeat revert hK K); refine W207aa ?_; (repeat intro K hK); refine ⟨?_⟩)
        (refine AWH (σ := Nat) [37, 38, 39, 40, 43, 44, 45, 46, 47, 48, 49, 50, 51, 52, 6, 7, 41, 42] (fun k => [(9, lint k)]) (fun k => []) (fun k => []) (fun k => 0 ≤ k ∧ k ≤ l.length ∧ ((magOf l).take (k - 0)).all isDg = true) (fun k => l.length - k) 0 (by first | exact ⟨Nat.le_refl _, by omega, rfl⟩) ?_; rintro k d fr hfr ⟨hk0, hk, hj⟩; simp only [updS, deadS, List.set_cons_succ, List.set_cons_zero, lint] at hfr; subst hfr; (try dsimp only))
        by_cases hlt : k < l.length
        · have hkk : (magOf l).getD (k - 0) 0 = l.getD k 0 := by rw [hgd, show 0 + (k - 0) = k by omega]
          have hkl : k - 0 < (magOf l).length := by omega
          by_cases h6 : (l.getD k 0).toNat < 48
          · (refine Wk.o ?_; (repeat revert hK K); refine W207aa ?_; (repeat intro K hK); refine ⟨?_⟩)
            (simp only [bodyX]; refine ⟨_, by simp only [aresults, aresult, XS.as, Tryd.results24, aload, go_sem, Option.bind_some]; rfl, ?_⟩)
            exact ⟨ids_idB rfl, by rw [hfn (by rw [hok]; exact dg_no hkl (by rw [hkk]; omega))], trivial⟩
          · by_cases h7 : 57 < (l.getD k 0).toNat
            · (refine Wk.o ?_; (repeat revert hK K); refine W207aa ?_; (repeat intro K hK); refine ⟨?_⟩)
              (simp only [bodyX]; refine ⟨_, by simp only [aresults, aresult, XS.as, Tryd.results24, aload, go_sem, Option.bind_some]; rfl, ?_⟩)
              exact ⟨ids_idB rfl, by rw [hfn (by rw [hok]; exact dg_no hkl (by rw [hkk]; omega))], trivial⟩
            · have hI2 : 0 ≤ k + 1 ∧ k + 1 ≤ l.length ∧ ((magOf l).take (k + 1 - 0)).all isDg = true := ⟨by omega, by omega, by rw [show k + 1 - 0 = k - 0 + 1 by omega]; exact dg_take hkl hj (by rw [hkk]; omega) (by rw [hkk]; omega)⟩
              (refine Wk.o ?_; (repeat revert hK K); refine W207aa ?_; (repeat intro K hK); refine ⟨?_⟩)
              exact WEND (k + 1) hI2 (by (first | omega | (dsimp only; omega) | (simp only; omega)))
        · obtain rfl : k = l.length := by omega
          have hall : (magOf l).all isDg = true := by rw [List.take_of_length_le (by omega)] at hj; exact hj
          have hok2 : numOk l = true := by rw [hok, hall]
          have hR : numR l lo hi = if -9223372036854775808 ≤ numV l ∧ numV l ≤ 9223372036854775807 ∧ lo ≤ numV l ∧ numV l ≤ hi then (numV l, 0) else (0, 7) := by unfold numR; rw [if_neg (by rw [hok2]; decide)]
          by_cases hb : 19 < l.length - 0
          · first
            | (exfalso; omega)
            | (have hbig := dv_big hall hnz (by omega)
               have hR2 : numR l lo hi = (0, 7) := by rw [hR, if_neg]; intro h; rw [hN] at h; split at h <;> omega
               (refine Wk.o ?_; (repeat revert hK K); refine W207aa ?_; (repeat intro K hK); refine ⟨?_⟩)
               (simp only [bodyX]; refine ⟨_, by simp only [aresults, aresult, XS.as, Tryd.results24, aload, go_sem, Option.bind_some]; rfl, ?_⟩)
               exact ⟨ids_idB rfl, by rw [hR2], trivial⟩)
          · (refine Wk.o ?_; (repeat revert hK K); refine W207aa ?_; (repeat intro K hK); refine ⟨?_⟩)
            (refine AWH (σ := Nat) [59, 60, 61, 62, 65, 66, 67, 68, 69, 12, 70, 71, 72, 73, 74, 75, 76, 77, 63, 64] (fun k => [(11, lint k), (10, .iv (.lit (.int .i64 (IntKind.i64.wrap (nk 0 (magOf l) k)))))]) (fun k => []) (fun k => []) (fun k => k ≤ l.length) (fun k => l.length - k) 0 (by first | exact Nat.zero_le _) ?_; rintro k d fr hfr hk; simp only [updS, deadS, List.set_cons_succ, List.set_cons_zero, lint] at hfr; subst hfr; (try dsimp only))
            by_cases hlt : k < l.length
            · have hkk : (magOf l).getD k 0 = l.getD k 0 := by rw [hgd, Nat.zero_add]
              have hst := nk_step (f := 0) (show k < (magOf l).length by omega) hall
              rw [hkk, if_neg (by omega)] at hst
              have hcb : (l.getD k 0).toNat < 256 := UInt8.toNat_lt _
              have hs1 := wr_step (nk 0 (magOf l) k) (((l.getD k 0).toNat : Int) - 48)
              rw [← hst] at hs1
              have hs2 : IntKind.i64.wrap ((l.getD k 0).toNat : Int) = ((l.getD k 0).toNat : Int) := by rw [IntKind.wrap_i64]; omega
              have hs3 : IntKind.i64.wrap (((l.getD k 0).toNat : Int) - 48) = ((l.getD k 0).toNat : Int) - 48 := by rw [IntKind.wrap_i64]; omega
              have hI2 : k + 1 ≤ l.length := by omega
              (refine Wk.o ?_; (repeat revert hK K); refine W207aa ?_; (repeat intro K hK); refine ⟨?_⟩)
              exact whx_end (k + 1) hI2 (by (first | omega | (dsimp only; omega) | (simp only; omega))) rfl rfl (fun d => by first | ((simp (disch := omega) only [go_sem, lint , hs1, hs2, hs3, hs4, hs5, ba_toList, ba_size, byteAt_ba, Int.toNat_zero, Int.toNat_one, Int.toNat_natCast]); done) | ((simp (disch := omega) only [go_sem, lint , hs1, hs2, hs3, hs4, hs5, ba_toList, ba_size, byteAt_ba, Int.toNat_zero, Int.toNat_one, Int.toNat_natCast]); rfl))
            · obtain rfl : k = l.length := by omega
              have hnk : nk 0 (magOf l) l.length = numV l := by
                rw [hN, if_neg (by omega)]
                unfold nk
                rw [if_neg (by omega), List.take_of_length_le (by omega)]
              obtain ⟨x, hxe⟩ : ∃ x, x = IntKind.i64.wrap (nk 0 (magOf l) l.length) := ⟨_, rfl⟩
              have hxb : -9223372036854775808 ≤ x ∧ x ≤ 9223372036854775807 := by rw [hxe, IntKind.wrap_i64]; omega
              have hxi : (-9223372036854775808 ≤ numV l ∧ numV l ≤ 9223372036854775807) ↔ x = numV l := by
                rw [hxe, hnk, IntKind.wrap_i64]; omega
              rw [← hxe]
              have hC := pf_rDigits x hxb.1 hxb.2
              by_cases hin : x = numV l
              · have hr := hxi.2 hin
                have hs1 : (itoa x == l) = true := by rw [hin, num_itoa hok2]; simp
                by_cases h8 : x < lo
                · have hR2 : numR l lo hi = (0, 7) := by rw [hR, if_neg]; intro h; omega
                  (refine Wk.o ?_; (repeat revert hK K); refine W207aa ?_; (repeat intro K hK); refine ⟨?_⟩)
                  (simp only [bodyX]; refine ⟨_, by simp only [aresults, aresult, XS.as, Tryd.results24, aload, go_sem, Option.bind_some]; rfl, ?_⟩)
                  exact ⟨ids_idB rfl, by rw [hR2], trivial⟩
                · by_cases h9 : hi < x
                  · have hR2 : numR l lo hi = (0, 7) := by rw [hR, if_neg]; intro h; omega
                    (refine Wk.o ?_; (repeat revert hK K); refine W207aa ?_; (repeat intro K hK); refine ⟨?_⟩)
                    (simp only [bodyX]; refine ⟨_, by simp only [aresults, aresult, XS.as, Tryd.results24, aload, go_sem, Option.bind_some]; rfl, ?_⟩)
                    exact ⟨ids_idB rfl, by rw [hR2], trivial⟩
                  · have hR2 : numR l lo hi = (x, 0) := by rw [hR, if_pos (by omega), hin]
                    (refine Wk.o ?_; (repeat revert hK K); refine W207aa ?_; (repeat intro K hK); refine ⟨?_⟩)
                    (simp only [bodyX]; refine ⟨_, by simp only [aresults, aresult, XS.as, Tryd.results24, aload, go_sem, Option.bind_some]; rfl, ?_⟩)
                    exact ⟨ids_idB rfl, by rw [hR2], trivial⟩
              · have hs1 : (itoa x == l) = false := by simpa using itoa_ne hin
                have hR2 : numR l lo hi = (0, 7) := by rw [hR, if_neg]; intro h; exact hin (hxi.1 ⟨h.1, h.2.1⟩)
                (refine Wk.o ?_; (repeat revert hK K); refine W207aa ?_; (repeat intro K hK); refine ⟨?_⟩)
                (simp only [bodyX]; refine ⟨_, by simp only [aresults, aresult, XS.as, Tryd.results24, aload, go_sem, Option.bind_some]; rfl, ?_⟩)
                exact ⟨ids_idB rfl, by rw [hR2], trivial⟩
end Go.Proofs.YthgmjboldboclaaDoor
namespace Go.Proofs.YthgmjboldboclaaDoor
open Go.RowKit Go.Lib
set_option linter.unusedVariables false
set_option linter.unusedSimpArgs false
theorem tokL_at {T : List Tok3} : ∀ {k : Nat}, k < T.length → (tokL T).getD (k * 3) undef = .int .i64 (T.getD k tok0).1 ∧ (tokL T).getD (k * 3 + 1) undef = .int .i64 (T.getD k tok0).2.1 ∧ (tokL T).getD (k * 3 + 2) undef = .string (ba (T.getD k tok0).2.2) := by
  intro k h
  have hh : ∀ j, (tokC T)[j]? = some (lt ((tokL T).getD j undef)) ∨ (tokC T)[j]? = none := fun j => by
    unfold tokC
    rw [List.getElem?_map, List.getD_eq_getElem?_getD]
    cases (tokL T)[j]? <;> simp
  obtain ⟨h1, h2, h3⟩ := tokC_at h
  refine ⟨?_, ?_, ?_⟩
  · rcases hh (k * 3) with h4 | h4
    · rw [h1] at h4; simpa [lt] using h4.symm
    · rw [h1] at h4; cases h4
  · rcases hh (k * 3 + 1) with h4 | h4
    · rw [h2] at h4; simpa [lt] using h4.symm
    · rw [h2] at h4; cases h4
  · rcases hh (k * 3 + 2) with h4 | h4
    · rw [h3] at h4; simpa [lt] using h4.symm
    · rw [h3] at h4; cases h4
theorem hdI_first {T : List Tok3} {i : Nat} (hi : i < 4) (h : ∀ j, j < i → hdE T j = 0) (he : hdE T i ≠ 0) : hdI T = i := by
  have hc : i = 0 ∨ i = 1 ∨ i = 2 ∨ i = 3 := by omega
  rcases hc with rfl | rfl | rfl | rfl
  · simp [hdI, he]
  · simp [hdI, he, h 0 (by omega)]
  · simp [hdI, he, h 0 (by omega), h 1 (by omega)]
  · simp [hdI, he, h 0 (by omega), h 1 (by omega), h 2 (by omega)]
theorem hdI_all {T : List Tok3} (h : ∀ j, j < 4 → hdE T j = 0) : hdI T = 4 := by
  simp [hdI, h 0 (by omega), h 1 (by omega), h 2 (by omega), h 3 (by omega)]
theorem pParse_at {T : List Tok3} {z : Int} {i : Nat} (hi : i < 4) (h : ∀ j, j < i → hdE T j = 0) (he : hdE T i ≠ 0) : pParse T z = (0, [], rdAt T z i, hdE T i) := by
  have h1 := hdI_first hi h he
  rw [pParse_bad (by omega), h1]
theorem hdE_short {T : List Tok3} {i : Nat} (h : ¬ i < T.length) : hdE T i = 4 := if_neg h
theorem hdE_at {T : List Tok3} {i : Nat} (h : i < T.length) : hdE T i = hdQ i (hdT T i) := if_pos h
attribute [go_sem] rnL_rwI idL_rwI rwI_one take_rwI rwI_snoc rwI_snoc2 rwI_at
theorem W0dd6a {A B : Prop} (h9 : B) (w : B → A := by (intro h9; (repeat intro K hK); refine ⟨?_⟩; (repeat (first | (first | (with_reducible first | refine AX_block ?_ | refine AX_skip ?_ | refine AX_exit ?_ | refine AX_ret ?_ | refine AX_ift ?_ | refine AX_iff ?_ | refine AX_seq_k (fun K hK => ?_) | refine ContX.use (by assumption) ?_) | simp only [thenX, inBlockX, if_true, if_false, reduceCtorEq]) | (first | ((first | (with_reducible refine XRes_op tyOK ?_ ?_) | ((with_reducible first | refine ADF_op tyOK ?_ ?_ ?_ | refine ADX_op tyOK ?_ ?_ ?_); (focus rfl)) | (with_reducible refine ADR_alloc1 tyOK ?_ ?_) | ((with_reducible refine ADR_free1 tyOK ?_ ?_ ?_); (focus rfl)) | ((with_reducible refine ADR_free0 tyOK ?_ ?_ ?_); (focus rfl)) | ((with_reducible refine ADR_read1 tyOK ?_ ?_ ?_); (focus rfl)) | (with_reducible refine ADR_chg1 tyOK ?_ ?_)); (focus (first | (with_reducible rfl) | ((simp (disch := omega) only [go_sem]); done))); simp (disch := omega) only [go_sem , hs1, hs2, hs3, hs4, hs5, hs6, hs7, hs8, hs9, Int.toNat_zero, Int.toNat_one, Int.reduceToNat, Nat.reduceMul, Nat.reduceAdd, Int.toNat_natCast, Nat.reduceEqDiff, List.length_map, List.length_cons, List.length_nil, ba_size, ba_toList]; (first | (with_reducible refine XRes_id ?_) | (with_reducible refine ADF_id ?_) | (with_reducible refine ADR_id1 ?_) | (with_reducible refine ADX_id ?_))) | ((first | (with_reducible refine XRes_skip ?_ ?_) | (with_reducible refine ADF_skip (b := true) ?_ ?_) | (with_reducible refine ADX_skip ?_ ?_) | ((with_reducible refine ADR_skip1 ?_ ?_ ?_); (focus rfl))); (focus (first | rfl | ((simp (disch := omega) only [go_sem]); done))); (simp only [putL, List.set_cons_succ, List.set_cons_zero]))) | ((first | (with_reducible refine XRes_nil ?_) | (with_reducible refine ADF_nil ?_) | (with_reducible refine ADR_nil ?_) | (with_reducible refine ADX_nil ?_)); (first | refine hK _ ?_ | refine hK _ _ ?_); clear hK K) | ((first | (with_reducible refine AX_reg0 fun K hK => ?_) | (refine AX_drawG1 tyOK (by kernel_rfl) (by rfl) (by kernel_rfl) fun K hK => ?_) | (refine AX_drawT tyOK (by kernel_rfl) (by decide +kernel) fun K hK => ?_) | (refine AX_drawM1 (by kernel_rfl) (by rfl) (by decide +kernel) fun K hK => ?_) | (refine AX_drawA tyOK (by kernel_rfl) (by decide +kernel) fun K hK => ?_)); (first | simp only [go_sem, preN, effOp, runF, alM, mapOp, alD2, kdOf2, Bool.not_false, Bool.not_true, reduceCtorEq] | simp only [go_sem, preN, effOp, runF, alM, mapOp, Bool.not_false, Bool.not_true, reduceCtorEq] | simp only [go_sem, preN, effOp, runF, alD2, kdOf2, Bool.not_false, Bool.not_true, reduceCtorEq] | simp only [go_sem, alD2, kdOf2, Bool.not_false, Bool.not_true, reduceCtorEq] | simp only [go_sem, preN, effOp, runF, Bool.not_false, Bool.not_true, reduceCtorEq] | simp only [go_sem])) | (first | (first | refine XTL (by rfl) hL ?_ | refine ATL tyOK (by rfl) hL ?_ | refine XTL (by rfl) hN ?_ | refine ATL tyOK (by rfl) hN ?_ | refine XTL (by rfl) hH1 ?_ | refine ATL tyOK (by rfl) hH1 ?_ | refine XTL (by rfl) hH2 ?_ | refine ATL tyOK (by rfl) hH2 ?_)))); refine Wk.o ?_; (repeat revert hK K); exact h9)) : A := w h9
theorem W0dd6b {A B : Prop} (h9 : B) (w : B → A := by (intro h9; (repeat intro K hK); refine ⟨?_⟩; (repeat (first | (first | (with_reducible first | refine AX_block ?_ | refine AX_skip ?_ | refine AX_exit ?_ | refine AX_ret ?_ | refine AX_ift ?_ | refine AX_iff ?_ | refine AX_seq_k (fun K hK => ?_) | refine ContX.use (by assumption) ?_) | simp only [thenX, inBlockX, if_true, if_false, reduceCtorEq]) | (first | ((first | (with_reducible refine XRes_op tyOK ?_ ?_) | ((with_reducible first | refine ADF_op tyOK ?_ ?_ ?_ | refine ADX_op tyOK ?_ ?_ ?_); (focus rfl)) | (with_reducible refine ADR_alloc1 tyOK ?_ ?_) | ((with_reducible refine ADR_free1 tyOK ?_ ?_ ?_); (focus rfl)) | ((with_reducible refine ADR_free0 tyOK ?_ ?_ ?_); (focus rfl)) | ((with_reducible refine ADR_read1 tyOK ?_ ?_ ?_); (focus rfl)) | (with_reducible refine ADR_chg1 tyOK ?_ ?_)); (focus (first | (with_reducible rfl) | ((simp (disch := omega) only [go_sem]); done))); simp (disch := omega) only [go_sem , hs1, hs2, hs3, hs4, hs5, hs6, hs7, hs8, hs9, Int.toNat_zero, Int.toNat_one, Int.reduceToNat, Nat.reduceMul, Nat.reduceAdd, Int.toNat_natCast, Nat.reduceEqDiff, List.length_map, List.length_cons, List.length_nil, ba_size, ba_toList]; (first | (with_reducible refine XRes_id ?_) | (with_reducible refine ADF_id ?_) | (with_reducible refine ADR_id1 ?_) | (with_reducible refine ADX_id ?_))) | ((first | (with_reducible refine XRes_skip ?_ ?_) | (with_reducible refine ADF_skip (b := true) ?_ ?_) | (with_reducible refine ADX_skip ?_ ?_) | ((with_reducible refine ADR_skip1 ?_ ?_ ?_); (focus rfl))); (focus (first | rfl | ((simp (disch := omega) only [go_sem]); done))); (simp only [putL, List.set_cons_succ, List.set_cons_zero]))) | ((first | (with_reducible refine XRes_nil ?_) | (with_reducible refine ADF_nil ?_) | (with_reducible refine ADR_nil ?_) | (with_reducible refine ADX_nil ?_)); (first | refine hK _ ?_ | refine hK _ _ ?_); clear hK K) | (first | (first | refine XTL (by rfl) hL ?_ | refine ATL tyOK (by rfl) hL ?_ | refine XTL (by rfl) hN ?_ | refine ATL tyOK (by rfl) hN ?_ | refine XTL (by rfl) hH1 ?_ | refine ATL tyOK (by rfl) hH1 ?_ | refine XTL (by rfl) hH2 ?_ | refine ATL tyOK (by rfl) hH2 ?_)) | ((with_reducible refine AX_reg0 fun K hK => ?_); simp only [go_sem]) | (first | ((with_reducible refine ADL_free tyOK ?_ ?_ ?_); (focus rfl); (focus (first | (with_reducible rfl) | ((simp (disch := omega) only [go_sem]); done))); simp (disch := omega) only [go_sem , hs1, hs2, hs3, hs4, hs5, hs6, hs7, hs8, hs9, Int.toNat_zero, Int.toNat_one, Int.reduceToNat, Nat.reduceMul, Nat.reduceAdd, Int.toNat_natCast, Nat.reduceEqDiff, List.length_map, List.length_cons, List.length_nil, ba_size, ba_toList]; (with_reducible refine ADL_id ?_)) | ((refine ADL_look tyOK (by rfl) (by rfl) (fun H _ => by simp (disch := omega) only [go_sem , hs1, hs2, hs3, hs4, hs5, hs6, hs7, hs8, hs9, Int.toNat_zero, Int.toNat_one, Int.reduceToNat, Nat.reduceMul, Nat.reduceAdd, Int.toNat_natCast, Nat.reduceEqDiff, List.length_map, List.length_cons, List.length_nil, ba_size, ba_toList]; rfl) ?_); (simp only [putL, List.set_cons_succ, List.set_cons_zero])) | ((with_reducible refine ADL_chg tyOK ?_ ?_ ?_); (focus (simp only [List.length_cons]; omega)); (focus (first | (with_reducible rfl) | ((simp (disch := omega) only [go_sem]); done))); simp (disch := omega) only [go_sem , hs1, hs2, hs3, hs4, hs5, hs6, hs7, hs8, hs9, Int.toNat_zero, Int.toNat_one, Int.reduceToNat, Nat.reduceMul, Nat.reduceAdd, Int.toNat_natCast, Nat.reduceEqDiff, List.length_map, List.length_cons, List.length_nil, ba_size, ba_toList]; (first | (refine ⟨(by decide), (fun hh => by first | trivial | rfl | cases hh), ?_⟩) | (refine ⟨(by decide), ?_⟩) | (refine ⟨(fun hh => by first | trivial | rfl | cases hh), ?_⟩) | skip); (with_reducible refine ADL_id ?_))) | ((refine ADL_nil ?_); (refine hK _ _ _ (by simp only [List.length_cons]; omega) ?_); clear hK K) | ((refine AX_drawLk (fun _ => True) 9 [.free, .free, .free, .free, .free, .free, .chg, .free, .free] [false, false, false, false, false, true, true, false, false] (by kernel_rfl) (by decide +kernel) (by decide +kernel) trivial fun K hK => ?_); simp only [go_sem]) | ((refine AX_drawLk (fun _ => True) 10 [.free, .free, .free, .free, .free, .free, .free, .chg, .free, .free] [false, false, false, false, false, true, false, true, false, false] (by kernel_rfl) (by decide +kernel) (by decide +kernel) trivial fun K hK => ?_); simp only [go_sem]) | ((refine AX_drawG1 tyOK (by kernel_rfl) (by rfl) (by kernel_rfl) fun K hK => ?_); (first | simp only [go_sem, preN, effOp, runF, alM, mapOp, alD2, kdOf2, Bool.not_false, Bool.not_true, reduceCtorEq] | simp only [go_sem, preN, effOp, runF, alM, mapOp, Bool.not_false, Bool.not_true, reduceCtorEq] | simp only [go_sem, preN, effOp, runF, alD2, kdOf2, Bool.not_false, Bool.not_true, reduceCtorEq] | simp only [go_sem, alD2, kdOf2, Bool.not_false, Bool.not_true, reduceCtorEq] | simp only [go_sem, preN, effOp, runF, Bool.not_false, Bool.not_true, reduceCtorEq] | simp only [go_sem])))); refine Wk.o ?_; (repeat revert hK K); exact h9)) : A := w h9
set_option maxRecDepth 100000 in
set_option maxHeartbeats 8000000 in
theorem pf_rParse6 (l : List UInt8) (T : List Tok3) (hl : l.length ≤ 1000000) (hL0 : PF Tryd.prog 23 [lt (.string (ba l))] fun r H' => r = .iv (iTok T) ∧ H' = []) (hT : T.length ≤ 1000000) (hTl : ∀ j, (T.getD j tok0).2.2.length ≤ 1000000) :
    PF Tryd.prog 9 [lt (.string (ba l))] fun r H' => r = .tup [aForm (pParse T l.length).1 (pParse T l.length).2.1, lint (pParse T l.length).2.2.1, lint (pParse T l.length).2.2.2] ∧ H' = [] := by
  refine SF.frozen ?_
  have hs1 := trivial; have hs2 := trivial; have hs3 := trivial; have hs4 := trivial; have hs5 := trivial; have hs6 := trivial; have hs7 := trivial; have hs8 := trivial; have hs9 := trivial; have hL := trivial; have hN := trivial; have hH1 := trivial; have hH2 := trivial
  have hL := hL0
  unfold iTok at hL
  have hs2 : decide ((1000000 : Int) < (l.length : Int)) = false := decide_eq_false (by omega)
  (refine SF_of_bodyX (aload tt) (aload_ok tyOK) Tryd.func9 rfl (by kernel_rfl) ?_; simp only [Tryd.ntmps9, List.length_cons, List.length_nil, Nat.reduceAdd, Nat.reduceSub, List.replicate_succ, List.replicate_zero, List.cons_append, List.nil_append])
  (refine Wk.o ?_; (repeat revert hK K); refine W0dd6a ?_; (repeat intro K hK); refine ⟨?_⟩)
  (refine AX_wh (σ := Nat × Int × Int) [21, 22, 25, 26, 27, 28, 29, 30, 31, 3, 4, 32, 33, 34, 35, 36, 37, 38, 39, 40, 41, 42, 43, 44, 45, 46, 47, 48, 49, 50, 51, 52, 53, 54, 55, 56, 57, 58, 59, 61, 62, 63, 64, 65, 66, 67, 68, 69, 70, 60, 71, 72, 8, 9, 73, 74, 75, 76, 77, 78, 79, 80, 81, 82, 83, 84, 85, 23, 24] (fun (i, a, b) => [(7, lint i)]) (fun (i, a, b) => [some ⟨25, [lt (.int .i64 0), lt (.slice none 0 0)]⟩, some ⟨60, [lt (.int .i64 a), lt (.int .i64 b)]⟩]) (fun (i, a, b) => []) (fun (i, a, b) => i ≤ 4 ∧ (∀ j, j < i → hdE T j = 0) ∧ (3 ≤ i → a = hdV T) ∧ (4 ≤ i → b = hdN T)) (fun (i, a, b) => 4 - i) (0, 0, 0) (fun d => by first | ((simp only [deadS, updS, List.set_cons_succ, List.set_cons_zero, lint, List.length_nil, List.length_cons]); done) | ((simp only [deadS, updS, List.set_cons_succ, List.set_cons_zero, lint, List.length_nil, List.length_cons]); rfl) | rfl) (by first | (with_reducible rfl) | (simp only [hinit]; done) | rfl) (by first | (with_reducible rfl) | rfl) (by first | exact ⟨Nat.zero_le _, fun j hj => absurd hj (by omega), fun h => absurd h (by decide), fun h => absurd h (by decide)⟩) ?_; rintro ⟨i, a, b⟩ d fr hfr ⟨hi, hj, ha, hb⟩; simp only [updS, deadS, List.set_cons_succ, List.set_cons_zero, lint] at hfr; subst hfr; (try dsimp only))
  by_cases h4 : i < 4
  · have hc : i = 0 ∨ i = 1 ∨ i = 2 ∨ i = 3 := by omega
    by_cases hk : i < T.length
    · obtain ⟨e1, e2, e3⟩ := tokL_at hk
      have hEv := hdE_at hk
      have hlx := hTl i
      unfold hdT at hEv
      have hrd : rdAt T l.length i = (T.getD i tok0).2.1 := if_pos hk
      generalize (T.getD i tok0).2.1 = p1 at *
      generalize htx : (T.getD i tok0).2.2 = tx at *
      rcases hc with rfl | rfl | rfl | rfl
      · have hs9 : ((0 : Nat) : Int) = 0 := rfl
        have hs7 : (tokL T).getD 1 undef = _ := e2
        have hs8 : (tokL T).getD 2 undef = _ := e3
        have hj2 : hdE T 0 = 0 → ∀ j, j < 1 → hdE T j = 0 := fun hE j h => by rcases Nat.lt_or_ge j 0 with h5 | h5; exact hj j h5; rw [show j = 0 by omega]; exact hE
        have hs4 : (⟨#[112]⟩ : ByteArray).toList = [112] := ba_toList [112]
        have hEw : hdE T 0 = wordE [112] tx := hEv
        by_cases hx : tx = [112]
        · have hs3 : (tx == [112]) = true := by rw [hx]; rfl
          have hE : hdE T 0 = 0 := by rw [hEw]; unfold wordE; rw [if_pos hx]
          (refine Wk.o ?_; (repeat revert hK K); refine W0dd6a ?_; (repeat intro K hK); refine ⟨?_⟩)
          exact whx_end (1, a, b) ⟨by dsimp only; omega, hj2 hE, fun h => by dsimp only at h; omega, fun h => by dsimp only at h; omega⟩ (by dsimp only; omega) rfl rfl (fun d => by first | ((simp (disch := omega) only [go_sem, lint, Nat.reduceEqDiff, List.length_map]); done) | ((simp (disch := omega) only [go_sem, lint, Nat.reduceEqDiff, List.length_map]); rfl))
        · have hs3 : (tx == [112]) = false := by simpa using hx
          have hE : hdE T 0 = 8 := by rw [hEw]; unfold wordE; rw [if_neg hx]
          have hp := pParse_at (z := (l.length : Int)) h4 hj (by rw [hE]; decide)
          rw [hE, hrd] at hp
          (refine Wk.o ?_; (repeat revert hK K); refine W0dd6b ?_; (repeat intro K hK); refine ⟨?_⟩)
          (simp only [bodyX]; refine ⟨_, by simp only [aresults, aresult, XS.as, Tryd.results9, aload, go_sem, Option.bind_some]; rfl, ?_⟩)
          exact ⟨_, Snap.tri snap_fmNil (.same _ (.iv _)) (.same _ (.iv _)), by rw [hp]; rfl, trivial⟩
      · have hs9 : ((1 : Nat) : Int) = 1 := rfl
        have hs7 : (tokL T).getD 4 undef = _ := e2
        have hs8 : (tokL T).getD 5 undef = _ := e3
        have hj2 : hdE T 1 = 0 → ∀ j, j < 2 → hdE T j = 0 := fun hE j h => by rcases Nat.lt_or_ge j 1 with h5 | h5; exact hj j h5; rw [show j = 1 by omega]; exact hE
        have hs4 : (⟨#[99, 110, 102]⟩ : ByteArray).toList = [99, 110, 102] := ba_toList [99, 110, 102]
        have hEw : hdE T 1 = wordE [99, 110, 102] tx := hEv
        by_cases hx : tx = [99, 110, 102]
        · have hs3 : (tx == [99, 110, 102]) = true := by rw [hx]; rfl
          have hE : hdE T 1 = 0 := by rw [hEw]; unfold wordE; rw [if_pos hx]
          (refine Wk.o ?_; (repeat revert hK K); refine W0dd6a ?_; (repeat intro K hK); refine ⟨?_⟩)
          exact whx_end (2, a, b) ⟨by dsimp only; omega, hj2 hE, fun h => by dsimp only at h; omega, fun h => by dsimp only at h; omega⟩ (by dsimp only; omega) rfl rfl (fun d => by first | ((simp (disch := omega) only [go_sem, lint, Nat.reduceEqDiff, List.length_map]); done) | ((simp (disch := omega) only [go_sem, lint, Nat.reduceEqDiff, List.length_map]); rfl))
        · have hs3 : (tx == [99, 110, 102]) = false := by simpa using hx
          have hE : hdE T 1 = 8 := by rw [hEw]; unfold wordE; rw [if_neg hx]
          have hp := pParse_at (z := (l.length : Int)) h4 hj (by rw [hE]; decide)
          rw [hE, hrd] at hp
          (refine Wk.o ?_; (repeat revert hK K); refine W0dd6b ?_; (repeat intro K hK); refine ⟨?_⟩)
          (simp only [bodyX]; refine ⟨_, by simp only [aresults, aresult, XS.as, Tryd.results9, aload, go_sem, Option.bind_some]; rfl, ?_⟩)
          exact ⟨_, Snap.tri snap_fmNil (.same _ (.iv _)) (.same _ (.iv _)), by rw [hp]; rfl, trivial⟩
      · have hs9 : ((2 : Nat) : Int) = 2 := rfl
        have hs7 : (tokL T).getD 7 undef = _ := e2
        have hs8 : (tokL T).getD 8 undef = _ := e3
        have hj2 : hdE T 2 = 0 → ∀ j, j < 3 → hdE T j = 0 := fun hE j h => by rcases Nat.lt_or_ge j 2 with h5 | h5; exact hj j h5; rw [show j = 2 by omega]; exact hE
        have hEw : hdE T 2 = (numR tx 0 100000).2 := hEv
        have hVx : hdV T = (numR tx 0 100000).1 := by unfold hdV hdT; rw [htx]
        have hN := pf_rNumber tx 0 100000 hlx
        generalize numR tx 0 100000 = q at *
        obtain ⟨x, e⟩ := q
        dsimp only at *
        by_cases he : e = 0
        · subst he
          (refine Wk.o ?_; (repeat revert hK K); refine W0dd6a ?_; (repeat intro K hK); refine ⟨?_⟩)
          exact whx_end (3, x, b) ⟨by dsimp only; omega, hj2 hEw, fun _ => hVx.symm, fun h => by dsimp only at h; omega⟩ (by dsimp only; omega) rfl rfl (fun d => by first | ((simp (disch := omega) only [go_sem, lint, Nat.reduceEqDiff, List.length_map]); done) | ((simp (disch := omega) only [go_sem, lint, Nat.reduceEqDiff, List.length_map]); rfl))
        · have hs3 : (e != 0) = true := by simpa using he
          have hp := pParse_at (z := (l.length : Int)) h4 hj (by rw [hEw]; exact he)
          rw [hEw, hrd] at hp
          (refine Wk.o ?_; (repeat revert hK K); refine W0dd6b ?_; (repeat intro K hK); refine ⟨?_⟩)
          (simp only [bodyX]; refine ⟨_, by simp only [aresults, aresult, XS.as, Tryd.results9, aload, go_sem, Option.bind_some]; rfl, ?_⟩)
          exact ⟨_, Snap.tri snap_fmNil (.same _ (.iv _)) (.same _ (.iv _)), by rw [hp]; rfl, trivial⟩
      · have hs9 : ((3 : Nat) : Int) = 3 := rfl
        have hs7 : (tokL T).getD 10 undef = _ := e2
        have hs8 : (tokL T).getD 11 undef = _ := e3
        have hj2 : hdE T 3 = 0 → ∀ j, j < 4 → hdE T j = 0 := fun hE j h => by rcases Nat.lt_or_ge j 3 with h5 | h5; exact hj j h5; rw [show j = 3 by omega]; exact hE
        have hEw : hdE T 3 = (numR tx 0 1000000).2 := hEv
        have hVx : hdN T = (numR tx 0 1000000).1 := by unfold hdN hdT; rw [htx]
        have hN := pf_rNumber tx 0 1000000 hlx
        generalize numR tx 0 1000000 = q at *
        obtain ⟨x, e⟩ := q
        dsimp only at *
        by_cases he : e = 0
        · subst he
          (refine Wk.o ?_; (repeat revert hK K); refine W0dd6a ?_; (repeat intro K hK); refine ⟨?_⟩)
          exact whx_end (4, a, x) ⟨by dsimp only; omega, hj2 hEw, fun _ => ha (by decide), fun _ => hVx.symm⟩ (by dsimp only; omega) rfl rfl (fun d => by first | ((simp (disch := omega) only [go_sem, lint, Nat.reduceEqDiff, List.length_map]); done) | ((simp (disch := omega) only [go_sem, lint, Nat.reduceEqDiff, List.length_map]); rfl))
        · have hs3 : (e != 0) = true := by simpa using he
          have hp := pParse_at (z := (l.length : Int)) h4 hj (by rw [hEw]; exact he)
          rw [hEw, hrd] at hp
          (refine Wk.o ?_; (repeat revert hK K); refine W0dd6b ?_; (repeat intro K hK); refine ⟨?_⟩)
          (simp only [bodyX]; refine ⟨_, by simp only [aresults, aresult, XS.as, Tryd.results9, aload, go_sem, Option.bind_some]; rfl, ?_⟩)
          exact ⟨_, Snap.tri snap_fmNil (.same _ (.iv _)) (.same _ (.iv _)), by rw [hp]; rfl, trivial⟩
    · have hE := hdE_short hk
      have hp := pParse_at (z := (l.length : Int)) h4 hj (by rw [hE]; decide)
      rw [hE, rdAt_end hk] at hp
      have hs3 : decide ((T.length : Int) ≤ (i : Int)) = true := decide_eq_true (by omega)
      (refine Wk.o ?_; (repeat revert hK K); refine W0dd6b ?_; (repeat intro K hK); refine ⟨?_⟩)
      (simp only [bodyX]; refine ⟨_, by simp only [aresults, aresult, XS.as, Tryd.results9, aload, go_sem, Option.bind_some]; rfl, ?_⟩)
      exact ⟨_, Snap.tri snap_fmNil (.same _ (.iv _)) (.same _ (.iv _)), by rw [hp]; rfl, trivial⟩
  · obtain rfl : i = 4 := by omega
    obtain rfl := ha (by decide)
    obtain rfl := hb (by decide)
    have hI4 := hdI_all hj
    (refine Wk.o ?_; (repeat revert hK K); refine W0dd6a ?_; (repeat intro K hK); refine ⟨?_⟩)
    have hV0 := hdV_in T
    have hN0 := hdN_in T
    have hT4 : 4 ≤ T.length := hdE_lt (hj 3 (by omega))
    have hfault : ∀ p e, pRun (hdV T) (hdN T) l.length (T.drop 4) [] [] = ([], p, e) → e ≠ 0 → pParse T l.length = (0, [], p, e) := fun p e h he => by rw [pParse_run hI4, h, if_pos he]
    have hgood : ∀ R, pRun (hdV T) (hdN T) l.length (T.drop 4) [] [] = (R, (l.length : Int), 0) → pParse T l.length = (hdV T, R, (l.length : Int), 0) := fun R h => by rw [pParse_run hI4, h, if_neg (by simp)]
    clear ha hb hj hI4 h4
    generalize pParse T l.length = PP at *
    generalize hdV T = V at *
    generalize hdN T = N at *
    refine AX_cellNew 2 49 1 1 _ rfl rfl ?_
    refine AX_freeze [] [(11, .iv (iInts []))] (fun p hp => ?_) ?_
    · simp only [List.mem_cons, List.not_mem_nil, or_false] at hp
      subst hp
      exact .iv _ _ (.nil _ _)
    simp only [setN, updS, List.length_cons, List.length_nil, List.cons_append, List.nil_append, Nat.zero_add, Nat.reduceAdd, List.set_cons_succ, List.set_cons_zero]
    have hinit : ([] : List (List Int)).map rwI = [] := rfl
    generalize hQ : pRun V N l.length (T.drop 4) [] [] = Q at *
    (refine AX_wh (σ := Nat × List (List Int) × List Int) [89, 90, 91, 92, 95, 96, 97, 98, 99, 100, 101, 102, 103, 104, 105, 106, 3, 4, 108, 109, 110, 111, 112, 113, 114, 115, 116, 117, 118, 107, 119, 120, 13, 14, 121, 122, 123, 124, 125, 126, 127, 128, 129, 130, 131, 132, 133, 134, 135, 136, 137, 138, 139, 140, 141, 142, 143, 144, 145, 146, 147, 148, 149, 150, 151, 152, 153, 154, 155, 156, 157, 158, 159, 160, 161, 162, 163, 164, 165, 166, 167, 168, 169, 170, 171, 93, 94] (fun (k, R, c) => [(12, lint k), (11, .iv (.sl (fun j => .lit (.int .i64 (c.getD j 0))) c.length 1))]) (fun (k, R, c) => [some ⟨25, [lt (.int .i64 0), lt (.slice none 0 0)]⟩, some ⟨60, [lt (.int .i64 V), lt (.int .i64 N)]⟩, some ⟨25, [lt (.int .i64 V), .osl 3 0 R.length 1]⟩, some ⟨49, R.map rwI⟩]) (fun (k, R, c) => []) (fun (k, R, c) => 4 ≤ k ∧ k ≤ T.length ∧ Q = pRun V N l.length (T.drop k) R c ∧ R.length ≤ k ∧ c.length ≤ 1000 ∧ ∀ x ∈ c, -100000 ≤ x ∧ x ≤ 100000) (fun (k, R, c) => T.length - k) (4, [], []) (fun d => by first | ((simp only [deadS, updS, List.set_cons_succ, List.set_cons_zero, lint, List.length_nil, List.length_cons]); done) | ((simp only [deadS, updS, List.set_cons_succ, List.set_cons_zero, lint, List.length_nil, List.length_cons]); rfl) | rfl) (by first | (with_reducible rfl) | (simp only [hinit]; done) | rfl) (by first | (with_reducible rfl) | rfl) (by first | exact ⟨Nat.le_refl _, hT4, hQ.symm, by simp, by simp, by simp⟩) ?_; rintro ⟨k, R, c⟩ d fr hfr ⟨hk4, hkl, hq, hRk, hcl, hcb⟩; simp only [updS, deadS, List.set_cons_succ, List.set_cons_zero, lint] at hfr; subst hfr; (try dsimp only))
    by_cases hk : k < T.length
    · obtain ⟨e1, e2, e3⟩ := tokL_at hk
      have hlx := hTl k
      rw [dropT hk, pRun_cons] at hq
      generalize (T.getD k tok0).2.1 = p1 at *
      generalize (T.getD k tok0).2.2 = tx at *
      have hs7 := e2
      have hs8 := e3
      have hN := pf_rNumber tx (-V) V hlx
      have hnb := numR_bd (l := tx) hV0.1
      by_cases hRN : (R.length : Int) = N
      · rw [if_pos hRN] at hq
        have hp := hfault _ _ hq (by decide)
        have hs3 : ((R.length : Int) == N) = true := by simpa using hRN
        (refine Wk.o ?_; (repeat revert hK K); refine W0dd6b ?_; (repeat intro K hK); refine ⟨?_⟩)
        (simp only [bodyX]; refine ⟨_, by simp only [aresults, aresult, XS.as, Tryd.results9, aload, go_sem, Option.bind_some]; rfl, ?_⟩)
        exact ⟨_, Snap.tri snap_fmNil (.same _ (.iv _)) (.same _ (.iv _)), by rw [hp]; rfl, trivial⟩
      · rw [if_neg hRN] at hq
        have hs3 : ((R.length : Int) == N) = false := by simpa using hRN
        by_cases he : (numR tx (-V) V).2 = 0
        · by_cases hx : (numR tx (-V) V).1 = 0
          · have hE : litE V c tx = 0 := by unfold litE; rw [if_neg (by rw [he]; simp), if_pos hx]
            rw [if_neg (by rw [hE]; simp), if_pos hx] at hq
            generalize numR tx (-V) V = nr at *
            obtain ⟨x, e⟩ := nr
            dsimp only at he hx hN hq hnb
            subst he hx
            have hlen : (R ++ [c]).length = R.length + 1 := by simp
            repeat ((fail_if_success (show AX _ _ (Code.region 29 _ _) _ _)); (first | (first | (with_reducible first | refine AX_block ?_ | refine AX_skip ?_ | refine AX_exit ?_ | refine AX_ret ?_ | refine AX_ift ?_ | refine AX_iff ?_ | refine AX_seq_k (fun K hK => ?_) | refine ContX.use (by assumption) ?_) | simp only [thenX, inBlockX, if_true, if_false, reduceCtorEq]) | (first | ((first | (with_reducible refine XRes_op tyOK ?_ ?_) | ((with_reducible first | refine ADF_op tyOK ?_ ?_ ?_ | refine ADX_op tyOK ?_ ?_ ?_); (focus rfl)) | (with_reducible refine ADR_alloc1 tyOK ?_ ?_) | ((with_reducible refine ADR_free1 tyOK ?_ ?_ ?_); (focus rfl)) | ((with_reducible refine ADR_free0 tyOK ?_ ?_ ?_); (focus rfl)) | ((with_reducible refine ADR_read1 tyOK ?_ ?_ ?_); (focus rfl)) | (with_reducible refine ADR_chg1 tyOK ?_ ?_)); (focus (first | (with_reducible rfl) | ((simp (disch := omega) only [go_sem]); done))); simp (disch := omega) only [go_sem , hs1, hs2, hs3, hs4, hs5, hs6, hs7, hs8, hs9, Int.toNat_zero, Int.toNat_one, Int.reduceToNat, Nat.reduceMul, Nat.reduceAdd, Int.toNat_natCast, Nat.reduceEqDiff, List.length_map, List.length_cons, List.length_nil, ba_size, ba_toList]; (first | (with_reducible refine XRes_id ?_) | (with_reducible refine ADF_id ?_) | (with_reducible refine ADR_id1 ?_) | (with_reducible refine ADX_id ?_))) | ((first | (with_reducible refine XRes_skip ?_ ?_) | (with_reducible refine ADF_skip (b := true) ?_ ?_) | (with_reducible refine ADX_skip ?_ ?_) | ((with_reducible refine ADR_skip1 ?_ ?_ ?_); (focus rfl))); (focus (first | rfl | ((simp (disch := omega) only [go_sem]); done))); (simp only [putL, List.set_cons_succ, List.set_cons_zero]))) | ((first | (with_reducible refine XRes_nil ?_) | (with_reducible refine ADF_nil ?_) | (with_reducible refine ADR_nil ?_) | (with_reducible refine ADX_nil ?_)); (first | refine hK _ ?_ | refine hK _ _ ?_); clear hK K) | (first | (first | refine XTL (by rfl) hL ?_ | refine ATL tyOK (by rfl) hL ?_ | refine XTL (by rfl) hN ?_ | refine ATL tyOK (by rfl) hN ?_ | refine XTL (by rfl) hH1 ?_ | refine ATL tyOK (by rfl) hH1 ?_ | refine XTL (by rfl) hH2 ?_ | refine ATL tyOK (by rfl) hH2 ?_)) | ((with_reducible refine AX_reg0 fun K hK => ?_); simp only [go_sem]) | (refine AX_drawG1 tyOK (by kernel_rfl) (by rfl) (by kernel_rfl) fun K hK => ?_; (first | simp only [go_sem, preN, effOp, runF, alM, mapOp, alD2, kdOf2, Bool.not_false, Bool.not_true, reduceCtorEq] | simp only [go_sem, preN, effOp, runF, alM, mapOp, Bool.not_false, Bool.not_true, reduceCtorEq] | simp only [go_sem, preN, effOp, runF, alD2, kdOf2, Bool.not_false, Bool.not_true, reduceCtorEq] | simp only [go_sem, alD2, kdOf2, Bool.not_false, Bool.not_true, reduceCtorEq] | simp only [go_sem, preN, effOp, runF, Bool.not_false, Bool.not_true, reduceCtorEq] | simp only [go_sem]))))
            (with_reducible refine AX_reg0 fun K hK => ?_); simp only [go_sem]
            repeat (first | ((first | (with_reducible refine XRes_op tyOK ?_ ?_) | ((with_reducible first | refine ADF_op tyOK ?_ ?_ ?_ | refine ADX_op tyOK ?_ ?_ ?_); (focus rfl)) | (with_reducible refine ADR_alloc1 tyOK ?_ ?_) | ((with_reducible refine ADR_free1 tyOK ?_ ?_ ?_); (focus rfl)) | ((with_reducible refine ADR_free0 tyOK ?_ ?_ ?_); (focus rfl)) | ((with_reducible refine ADR_read1 tyOK ?_ ?_ ?_); (focus rfl)) | (with_reducible refine ADR_chg1 tyOK ?_ ?_)); (focus (first | (with_reducible rfl) | ((simp (disch := omega) only [go_sem]); done))); simp (disch := omega) only [go_sem , hs1, hs2, hs3, hs4, hs5, hs6, hs7, hs8, hs9, Int.toNat_zero, Int.toNat_one, Int.reduceToNat, Nat.reduceMul, Nat.reduceAdd, Int.toNat_natCast, Nat.reduceEqDiff, List.length_map, List.length_cons, List.length_nil, ba_size, ba_toList]; (first | (with_reducible refine XRes_id ?_) | (with_reducible refine ADF_id ?_) | (with_reducible refine ADR_id1 ?_) | (with_reducible refine ADX_id ?_))) | ((first | (with_reducible refine XRes_skip ?_ ?_) | (with_reducible refine ADF_skip (b := true) ?_ ?_) | (with_reducible refine ADX_skip ?_ ?_) | ((with_reducible refine ADR_skip1 ?_ ?_ ?_); (focus rfl))); (focus (first | rfl | ((simp (disch := omega) only [go_sem]); done))); (simp only [putL, List.set_cons_succ, List.set_cons_zero])))
            refine XRes_freeze [] [(11, .iv (iInts []))] (fun p hp => ?_) ?_
            · simp only [List.mem_cons, List.not_mem_nil, or_false] at hp
              subst hp
              exact .iv _ _ (.nil _ _)
            simp only [setN, updS, List.set_cons_succ, List.set_cons_zero]
            (refine Wk.o ?_; (repeat revert hK K); refine W0dd6a ?_; (repeat intro K hK); refine ⟨?_⟩)
            exact whx_ren [0, 1, 2, 5] (k + 1, R ++ [c], []) ⟨by dsimp only; omega, by dsimp only; omega, hq, by dsimp only; rw [hlen]; omega, by simp, by simp⟩ (by dsimp only; omega) rfl (by decide) (by decide) (by (simp (disch := omega) only [go_sem, lint, Nat.reduceEqDiff, List.length_map])) (by (simp (disch := omega) only [go_sem, lint, Nat.reduceEqDiff, List.length_map])) (by dsimp only; rw [hlen]; (simp (disch := omega) only [go_sem, lint, Nat.reduceEqDiff, List.length_map])) (fun d => by first | ((simp (disch := omega) only [go_sem, lint, Nat.reduceEqDiff, List.length_map]); done) | ((simp (disch := omega) only [go_sem, lint, Nat.reduceEqDiff, List.length_map]); rfl))
          · have hEl := litE_go (c := c) he hx
            have hH1 := pf_has c (numR tx (-V) V).1 (by omega)
            have hH2 := pf_has c (-(numR tx (-V) V).1) (by omega)
            unfold iInts at hH1 hH2
            have hs5 : ((numR tx (-V) V).1 == 0) = false := by simpa using hx
            generalize hLE : litE V c tx = E at *
            generalize hnr : numR tx (-V) V = nr at *
            obtain ⟨x, e⟩ := nr
            dsimp only at he hx hN hq hnb hEl hH1 hH2 hs5
            subst he
            by_cases hc1 : c.length = 1000
            · rw [if_pos hc1] at hEl
              rw [if_pos (by rw [hEl]; decide), hEl] at hq
              have hp := hfault _ _ hq (by decide)
              have hs6 : ((c.length : Int) == 1000) = true := by simp; omega
              (refine Wk.o ?_; (repeat revert hK K); refine W0dd6b ?_; (repeat intro K hK); refine ⟨?_⟩)
              (simp only [bodyX]; refine ⟨_, by simp only [aresults, aresult, XS.as, Tryd.results9, aload, go_sem, Option.bind_some]; rfl, ?_⟩)
              exact ⟨_, Snap.tri snap_fmNil (.same _ (.iv _)) (.same _ (.iv _)), by rw [hp]; rfl, trivial⟩
            · rw [if_neg hc1] at hEl
              have hs6 : ((c.length : Int) == 1000) = false := by simp; omega
              by_cases hm : x ∈ c
              · rw [if_pos hm] at hEl
                rw [if_pos (by rw [hEl]; decide), hEl] at hq
                have hp := hfault _ _ hq (by decide)
                rw [decide_eq_true hm] at hH1
                (refine Wk.o ?_; (repeat revert hK K); refine W0dd6b ?_; (repeat intro K hK); refine ⟨?_⟩)
                (simp only [bodyX]; refine ⟨_, by simp only [aresults, aresult, XS.as, Tryd.results9, aload, go_sem, Option.bind_some]; rfl, ?_⟩)
                exact ⟨_, Snap.tri snap_fmNil (.same _ (.iv _)) (.same _ (.iv _)), by rw [hp]; rfl, trivial⟩
              · rw [if_neg hm] at hEl
                rw [decide_eq_false hm] at hH1
                by_cases hm2 : -x ∈ c
                · rw [if_pos hm2] at hEl
                  rw [if_pos (by rw [hEl]; decide), hEl] at hq
                  have hp := hfault _ _ hq (by decide)
                  rw [decide_eq_true hm2] at hH2
                  (refine Wk.o ?_; (repeat revert hK K); refine W0dd6b ?_; (repeat intro K hK); refine ⟨?_⟩)
                  (simp only [bodyX]; refine ⟨_, by simp only [aresults, aresult, XS.as, Tryd.results9, aload, go_sem, Option.bind_some]; rfl, ?_⟩)
                  exact ⟨_, Snap.tri snap_fmNil (.same _ (.iv _)) (.same _ (.iv _)), by rw [hp]; rfl, trivial⟩
                · rw [if_neg hm2] at hEl
                  rw [decide_eq_false hm2] at hH2
                  rw [if_neg (by rw [hEl]; simp), if_neg hx] at hq
                  have hlen : (c ++ [x]).length = c.length + 1 := by simp
                  have hs9 : (List.range c.length).map (fun j => AV.iv (IV.lit (.int .i64 (c.getD j 0)))) = c.map lint := by rw [range_takeI (Nat.le_refl _), List.take_length]
                  repeat ((fail_if_success (show AX _ _ (Code.region 36 _ _) _ _)); (first | (first | (with_reducible first | refine AX_block ?_ | refine AX_skip ?_ | refine AX_exit ?_ | refine AX_ret ?_ | refine AX_ift ?_ | refine AX_iff ?_ | refine AX_seq_k (fun K hK => ?_) | refine ContX.use (by assumption) ?_) | simp only [thenX, inBlockX, if_true, if_false, reduceCtorEq]) | (first | ((first | (with_reducible refine XRes_op tyOK ?_ ?_) | ((with_reducible first | refine ADF_op tyOK ?_ ?_ ?_ | refine ADX_op tyOK ?_ ?_ ?_); (focus rfl)) | (with_reducible refine ADR_alloc1 tyOK ?_ ?_) | ((with_reducible refine ADR_free1 tyOK ?_ ?_ ?_); (focus rfl)) | ((with_reducible refine ADR_free0 tyOK ?_ ?_ ?_); (focus rfl)) | ((with_reducible refine ADR_read1 tyOK ?_ ?_ ?_); (focus rfl)) | (with_reducible refine ADR_chg1 tyOK ?_ ?_)); (focus (first | (with_reducible rfl) | ((simp (disch := omega) only [go_sem]); done))); simp (disch := omega) only [go_sem , hs1, hs2, hs3, hs4, hs5, hs6, hs7, hs8, hs9, Int.toNat_zero, Int.toNat_one, Int.reduceToNat, Nat.reduceMul, Nat.reduceAdd, Int.toNat_natCast, Nat.reduceEqDiff, List.length_map, List.length_cons, List.length_nil, ba_size, ba_toList]; (first | (with_reducible refine XRes_id ?_) | (with_reducible refine ADF_id ?_) | (with_reducible refine ADR_id1 ?_) | (with_reducible refine ADX_id ?_))) | ((first | (with_reducible refine XRes_skip ?_ ?_) | (with_reducible refine ADF_skip (b := true) ?_ ?_) | (with_reducible refine ADX_skip ?_ ?_) | ((with_reducible refine ADR_skip1 ?_ ?_ ?_); (focus rfl))); (focus (first | rfl | ((simp (disch := omega) only [go_sem]); done))); (simp only [putL, List.set_cons_succ, List.set_cons_zero]))) | ((first | (with_reducible refine XRes_nil ?_) | (with_reducible refine ADF_nil ?_) | (with_reducible refine ADR_nil ?_) | (with_reducible refine ADX_nil ?_)); (first | refine hK _ ?_ | refine hK _ _ ?_); clear hK K) | (first | (first | refine XTL (by rfl) hL ?_ | refine ATL tyOK (by rfl) hL ?_ | refine XTL (by rfl) hN ?_ | refine ATL tyOK (by rfl) hN ?_ | refine XTL (by rfl) hH1 ?_ | refine ATL tyOK (by rfl) hH1 ?_ | refine XTL (by rfl) hH2 ?_ | refine ATL tyOK (by rfl) hH2 ?_)) | ((with_reducible refine AX_reg0 fun K hK => ?_); simp only [go_sem]) | (refine AX_drawG1 tyOK (by kernel_rfl) (by rfl) (by kernel_rfl) fun K hK => ?_; (first | simp only [go_sem, preN, effOp, runF, alM, mapOp, alD2, kdOf2, Bool.not_false, Bool.not_true, reduceCtorEq] | simp only [go_sem, preN, effOp, runF, alM, mapOp, Bool.not_false, Bool.not_true, reduceCtorEq] | simp only [go_sem, preN, effOp, runF, alD2, kdOf2, Bool.not_false, Bool.not_true, reduceCtorEq] | simp only [go_sem, alD2, kdOf2, Bool.not_false, Bool.not_true, reduceCtorEq] | simp only [go_sem, preN, effOp, runF, Bool.not_false, Bool.not_true, reduceCtorEq] | simp only [go_sem]))))
                  (with_reducible refine AX_reg0 fun K hK => ?_); simp only [go_sem]
                  repeat (first | ((first | (with_reducible refine XRes_op tyOK ?_ ?_) | ((with_reducible first | refine ADF_op tyOK ?_ ?_ ?_ | refine ADX_op tyOK ?_ ?_ ?_); (focus rfl)) | (with_reducible refine ADR_alloc1 tyOK ?_ ?_) | ((with_reducible refine ADR_free1 tyOK ?_ ?_ ?_); (focus rfl)) | ((with_reducible refine ADR_free0 tyOK ?_ ?_ ?_); (focus rfl)) | ((with_reducible refine ADR_read1 tyOK ?_ ?_ ?_); (focus rfl)) | (with_reducible refine ADR_chg1 tyOK ?_ ?_)); (focus (first | (with_reducible rfl) | ((simp (disch := omega) only [go_sem]); done))); simp (disch := omega) only [go_sem , hs1, hs2, hs3, hs4, hs5, hs6, hs7, hs8, hs9, Int.toNat_zero, Int.toNat_one, Int.reduceToNat, Nat.reduceMul, Nat.reduceAdd, Int.toNat_natCast, Nat.reduceEqDiff, List.length_map, List.length_cons, List.length_nil, ba_size, ba_toList]; (first | (with_reducible refine XRes_id ?_) | (with_reducible refine ADF_id ?_) | (with_reducible refine ADR_id1 ?_) | (with_reducible refine ADX_id ?_))) | ((first | (with_reducible refine XRes_skip ?_ ?_) | (with_reducible refine ADF_skip (b := true) ?_ ?_) | (with_reducible refine ADX_skip ?_ ?_) | ((with_reducible refine ADR_skip1 ?_ ?_ ?_); (focus rfl))); (focus (first | rfl | ((simp (disch := omega) only [go_sem]); done))); (simp only [putL, List.set_cons_succ, List.set_cons_zero])))
                  refine XRes_freeze [7] [(171, .iv (.sl (fun j => .lit (.int .i64 ((c ++ [x]).getD j 0))) (c ++ [x]).length 1)), (11, .iv (.sl (fun j => .lit (.int .i64 ((c ++ [x]).getD j 0))) (c ++ [x]).length 1))] (fun p hp => ?_) ?_
                  · simp only [List.mem_cons, List.not_mem_nil, or_false] at hp
                    rcases hp with rfl | rfl <;> exact frz_ints (only_mk (by decide) rfl) hlen.symm
                  simp only [setN, updS, List.set_cons_succ, List.set_cons_zero]
                  (refine Wk.o ?_; (repeat revert hK K); refine W0dd6a ?_; (repeat intro K hK); refine ⟨?_⟩)
                  exact whx_ren [0, 1, 2, 3] (k + 1, R, c ++ [x]) ⟨by dsimp only; omega, by dsimp only; omega, hq, by dsimp only; omega, by dsimp only; rw [hlen]; omega, fun y hy => by rcases List.mem_append.1 hy with hy | hy; exact hcb y hy; rw [List.mem_singleton] at hy; subst hy; omega⟩ (by dsimp only; omega) rfl (by decide) (by decide) (by (simp (disch := omega) only [go_sem, lint, Nat.reduceEqDiff, List.length_map])) (by (simp (disch := omega) only [go_sem, lint, Nat.reduceEqDiff, List.length_map])) (by (simp (disch := omega) only [go_sem, lint, Nat.reduceEqDiff, List.length_map])) (fun d => by first | ((simp (disch := omega) only [go_sem, lint, Nat.reduceEqDiff, List.length_map]); done) | ((simp (disch := omega) only [go_sem, lint, Nat.reduceEqDiff, List.length_map]); rfl))
        · have hE : litE V c tx = (numR tx (-V) V).2 := by unfold litE; rw [if_pos he]
          rw [if_pos (by rw [hE]; exact he), hE] at hq
          generalize numR tx (-V) V = nr at *
          obtain ⟨x, e⟩ := nr
          dsimp only at he hN hq
          have hp := hfault _ _ hq he
          have hs4 : (e != 0) = true := by simpa using he
          (refine Wk.o ?_; (repeat revert hK K); refine W0dd6b ?_; (repeat intro K hK); refine ⟨?_⟩)
          (simp only [bodyX]; refine ⟨_, by simp only [aresults, aresult, XS.as, Tryd.results9, aload, go_sem, Option.bind_some]; rfl, ?_⟩)
          exact ⟨_, Snap.tri snap_fmNil (.same _ (.iv _)) (.same _ (.iv _)), by rw [hp]; rfl, trivial⟩
    · rw [List.drop_of_length_le (by omega)] at hq
      by_cases hRN : (R.length : Int) < N
      · have hp := hfault (l.length : Int) 4 (by rw [hq, pRun, if_pos hRN]) (by decide)
        have hs3 : decide ((R.length : Int) < N) = true := decide_eq_true hRN
        (refine Wk.o ?_; (repeat revert hK K); refine W0dd6b ?_; (repeat intro K hK); refine ⟨?_⟩)
        (simp only [bodyX]; refine ⟨_, by simp only [aresults, aresult, XS.as, Tryd.results9, aload, go_sem, Option.bind_some]; rfl, ?_⟩)
        exact ⟨_, Snap.tri snap_fmNil (.same _ (.iv _)) (.same _ (.iv _)), by rw [hp]; rfl, trivial⟩
      · have hp := hgood R (by rw [hq, pRun, if_neg hRN])
        have hs3 : decide ((R.length : Int) < N) = false := decide_eq_false hRN
        (refine Wk.o ?_; (repeat revert hK K); refine W0dd6b ?_; (repeat intro K hK); refine ⟨?_⟩)
        (simp only [bodyX]; refine ⟨_, by simp only [aresults, aresult, XS.as, Tryd.results9, aload, go_sem, Option.bind_some]; rfl, ?_⟩)
        exact ⟨_, Snap.tri (snap_fm (snapC_rwI rfl)) (.same _ (.iv _)) (.same _ (.iv _)), by rw [hp]; rfl, trivial⟩
end Go.Proofs.YthgmjboldboclaaDoor
