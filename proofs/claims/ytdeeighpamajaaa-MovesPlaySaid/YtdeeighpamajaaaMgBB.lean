import Derived.Test.YtdeeighpamajaaaMgAY
import Derived.Test.YtdeeighpamajaaaMgBA
import Derived.Test.YtdeeighpamajaaaMgAT
import Derived.Test.YtdeeighpamajaaaMgAQ
namespace Go.Proofs.Ytdeeighpamajaaa
open Go.RowKit
/-! ### How many clauses, and how long -/
theorem mA_cnt (o : Ob) (l : List Op5) (i p b : Nat) : (mA o l i p b).length = if (oAt l i).e = -1 then 2 else 1 := by
  unfold mA; rw [List.length_append]; show 1 + _ = _; split <;> rfl
def mvC (l : List Op5) (i : Nat) : Nat := if (oAt l i).e = -1 then 2 else 1
theorem mB_cnt (o : Ob) (l : List Op5) (i p : Nat) : ∀ k, (mB o l i p k).length = mvC l i * k
  | 0 => by simp [mB]
  | k + 1 => by rw [mB_succ, List.length_append, mB_cnt o l i p k, mA_cnt, Nat.mul_succ]; rfl
theorem mP_cnt (o : Ob) (l : List Op5) (i : Nat) : ∀ k, (mP o l i k).length = mvC l i * (k * o.S.toNat)
  | 0 => by simp [mP]
  | k + 1 => by rw [mP_succ, List.length_append, mP_cnt o l i k, mB_cnt, ← Nat.mul_add, Nat.succ_mul]
def mvN1 (l : List Op5) (P : Nat) (i : Nat) : Nat := if (oAt l i).e = -1 then 2 * P else 1 + P
def mvNs (l : List Op5) (P : Nat) : Nat → Nat
  | 0 => 0
  | k + 1 => mvNs l P k + mvN1 l P k
theorem mI_cnt (o : Ob) (l : List Op5) (i : Nat) : (mI o l i).length = mvN1 l (l.length * o.S.toNat) i := by
  unfold mI mvN1
  rw [List.length_append, mP_cnt]; unfold mvC
  split
  · show 0 + _ = _; omega
  · show 1 + _ = _; omega
theorem mCl_cnt (o : Ob) (l : List Op5) : ∀ k, (mCl o l k).length = mvNs l (l.length * o.S.toNat) k
  | 0 => rfl
  | k + 1 => by rw [mCl_succ, List.length_append, mCl_cnt o l k, mI_cnt]; rfl
theorem mvNs_le (l : List Op5) (P : Nat) : ∀ k, mvNs l P k ≤ k * (2 * P + 1)
  | 0 => Nat.zero_le _
  | k + 1 => by
    have := mvNs_le l P k
    have h : mvN1 l P k ≤ 2 * P + 1 := by unfold mvN1; split <;> omega
    show mvNs l P k + mvN1 l P k ≤ _
    rw [Nat.succ_mul]; omega
def shR (R : List (List Int)) : Prop := ∀ r ∈ R, 1 ≤ r.length ∧ r.length ≤ 4
theorem shR_app {A B : List (List Int)} (h : shR A) (k : shR B) : shR (A ++ B) := fun r hr => (List.mem_append.1 hr).elim (h r) (k r)
theorem shR_nil : shR [] := fun r hr => by simp at hr
theorem mA_sh (o : Ob) (l : List Op5) (i p b : Nat) : shR (mA o l i p b) := by
  unfold mA
  refine shR_app (fun r hr => ?_) ?_
  · rw [List.mem_singleton] at hr; subst hr
    split <;> exact ⟨by simp, by simp⟩
  · split
    · intro r hr; rw [List.mem_singleton] at hr; subst hr; exact ⟨by simp, by simp⟩
    · exact shR_nil
theorem mB_sh (o : Ob) (l : List Op5) (i p : Nat) : ∀ k, shR (mB o l i p k)
  | 0 => shR_nil
  | k + 1 => by rw [mB_succ]; exact shR_app (mB_sh o l i p k) (mA_sh o l i p k)
theorem mP_sh (o : Ob) (l : List Op5) (i : Nat) : ∀ k, shR (mP o l i k)
  | 0 => shR_nil
  | k + 1 => by rw [mP_succ]; exact shR_app (mP_sh o l i k) (mB_sh o l i k _)
theorem mCl_sh (o : Ob) (l : List Op5) : ∀ k, shR (mCl o l k)
  | 0 => shR_nil
  | k + 1 => by
    rw [mCl_succ]
    refine shR_app (mCl_sh o l k) ?_
    unfold mI
    refine shR_app ?_ (mP_sh o l k _)
    split
    · exact shR_nil
    · intro r hr; rw [List.mem_singleton] at hr; subst hr; exact ⟨by simp, by simp⟩
theorem mRes_sh (o : Ob) (l : List Op5) : shR (mRes o l) := by
  unfold mRes; split
  · exact mCl_sh o l _
  · exact shR_nil
theorem shR_at {R : List (List Int)} (h : shR R) {k : Nat} (hk : k < R.length) : 1 ≤ (R.getD k []).length ∧ (R.getD k []).length ≤ 4 := by
  rw [List.getD_eq_getElem?_getD, List.getElem?_eq_getElem hk]; exact h _ (List.getElem_mem hk)
theorem shR_short {R : List (List Int)} (h : shR R) (k : Nat) : (R.getD k []).length ≤ 1000000 := by
  rcases Nat.lt_or_ge k R.length with hk | hk
  · have := (shR_at h hk).2; omega
  · rw [List.getD_eq_getElem?_getD, List.getElem?_eq_none hk]; decide
theorem mRes_len (o : Ob) (l : List Op5) : (mRes o l).length ≤ 1000000 := by
  unfold mRes; split
  · rename_i h
    obtain ⟨hm, hl, h1, h2⟩ := m_nOk h
    rw [mCl_cnt]
    have h3 := mvNs_le l (l.length * o.S.toNat) l.length
    have h4 : l.length * o.S.toNat ≤ 64 * 32 := Nat.mul_le_mul hl (by omega)
    have h5 : l.length * (2 * (l.length * o.S.toNat) + 1) ≤ 64 * (2 * (64 * 32) + 1) := Nat.mul_le_mul hl (by omega)
    omega
  · exact Nat.zero_le _
theorem obR_len {o : Ob} (h : o.R.length ≤ 300) : o.R.length ≤ 100000 := by omega
end Go.Proofs.Ytdeeighpamajaaa
namespace Go.Proofs.Ytdeeighpamajaaa
open Go.RowKit
set_option linter.unusedVariables false
set_option linter.unusedSimpArgs false


set_option maxRecDepth 100000 in
set_option maxHeartbeats 1000000 in
theorem pf_few (o : Ob) : PF Try.prog 7 [obA o] fun r H' => r = lt (.bool (decide ((o.R.length : Int) ≤ 300))) ∧ H' = [] := by
  refine SF.forgetAll ?_
  (refine SF_of_bodyX (aload tt) (aload_ok tyOK) Try.func7 rfl (by kernel_rfl) ?_; simp only [Try.ntmps7, List.length_cons, List.length_nil, Nat.reduceAdd, Nat.reduceSub, List.replicate_succ, List.replicate_zero, List.cons_append, List.nil_append])
  have hs1 := trivial; have hs2 := trivial; have hs3 := trivial
  repeat (first | (first | (with_reducible first | refine AX_block ?_ | refine AX_skip ?_ | refine AX_exit ?_ | refine AX_ret ?_) | ((with_reducible refine AX_if_t ?_ ?_); focus (simp only [go_sem]; done)) | ((with_reducible refine AX_if_f ?_ ?_); focus (simp only [go_sem]; done)) | (with_reducible refine AX_seq_k (fun K hK => ?_)) | ((with_reducible refine ContX.use (by assumption) ?_)) | (simp only [thenX, inBlockX, if_true, if_false, reduceCtorEq])) | (first | ((first | (with_reducible refine XRes_op tyOK ?_ ?_) | ((with_reducible first | refine ADF_op tyOK ?_ ?_ ?_ | refine ADX_op tyOK ?_ ?_ ?_); (focus rfl)) | (with_reducible refine ADR_alloc1 tyOK ?_ ?_) | ((with_reducible refine ADR_free1 tyOK ?_ ?_ ?_); (focus rfl)) | ((with_reducible refine ADR_free0 tyOK ?_ ?_ ?_); (focus rfl)) | ((with_reducible refine ADR_read1 tyOK ?_ ?_ ?_); (focus rfl)) | (with_reducible refine ADR_chg1 tyOK ?_ ?_)); (focus (first | (with_reducible rfl) | ((simp (disch := omega) only [go_sem]); done))); simp (maxSteps := 2000000) (disch := omega) only [go_sem , iOps, iFlat, iInts, hs1, hs2, hs3, flatO_p, flatO_k, flatO_s, flatO_e, flatO_r, List.length_nil]; (first | (with_reducible refine XRes_id ?_) | (with_reducible refine ADF_id ?_) | (with_reducible refine ADR_id1 ?_) | (with_reducible refine ADX_id ?_))) | ((first | (with_reducible refine XRes_skip ?_ ?_) | (with_reducible refine ADF_skip (b := true) ?_ ?_) | (with_reducible refine ADX_skip ?_ ?_) | ((with_reducible refine ADR_skip1 ?_ ?_ ?_); (focus rfl))); (focus (first | rfl | ((simp (disch := omega) only [go_sem]); done))); (simp only [putL, List.set_cons_succ, List.set_cons_zero]))) | ((first | (with_reducible refine XRes_nil ?_) | (with_reducible refine ADF_nil ?_) | (with_reducible refine ADR_nil ?_) | (with_reducible refine ADX_nil ?_)); (first | refine hK _ ?_ | refine hK _ _ ?_); clear hK K) | ((first | (with_reducible refine AX_reg0 fun K hK => ?_) | (refine AX_drawG1 tyOK (by kernel_rfl) (by rfl) (by kernel_rfl) fun K hK => ?_) | (refine AX_drawT tyOK (by kernel_rfl) (by decide +kernel) fun K hK => ?_) | (refine AX_drawM1 (by kernel_rfl) (by rfl) (by decide +kernel) fun K hK => ?_) | (refine AX_drawA tyOK (by kernel_rfl) (by decide +kernel) fun K hK => ?_)); (first | simp only [go_sem, preN, effOp, runF, alM, mapOp, alD2, kdOf2, Bool.not_false, Bool.not_true, reduceCtorEq] | simp only [go_sem, preN, effOp, runF, alM, mapOp, Bool.not_false, Bool.not_true, reduceCtorEq] | simp only [go_sem, preN, effOp, runF, alD2, kdOf2, Bool.not_false, Bool.not_true, reduceCtorEq] | simp only [go_sem, alD2, kdOf2, Bool.not_false, Bool.not_true, reduceCtorEq] | simp only [go_sem, preN, effOp, runF, Bool.not_false, Bool.not_true, reduceCtorEq] | simp only [go_sem])))
  (simp only [bodyX]; refine ⟨_, by simp only [aresults, aresult, XS.as, Try.results7, aload, List.getD_cons_succ, List.getD_cons_zero, List.getElem?_cons_succ, List.getElem?_cons_zero, Option.bind_some]; rfl, ?_⟩)
  exact ⟨.iv _, rfl, trivial⟩
end Go.Proofs.Ytdeeighpamajaaa
namespace Go.Proofs.Ytdeeighpamajaaa
open Go.RowKit
theorem wf_i {x : Int} (h : (Lit.int .i64 x).wf = true) : -9223372036854775808 ≤ x ∧ x ≤ 9223372036854775807 := bounds_i64 h
end Go.Proofs.Ytdeeighpamajaaa
