import Derived.Test.YteldioinhbpfhaaMgAS
import Derived.Test.YteldioinhbpfhaaMgAR
import Derived.Test.YteldioinhbpfhaaMgAN
namespace Go.Proofs.Yteldioinhbpfhaa
open Go.ChangeShapes Go.WideShapes Go.ChangeAt Go.RowKit
set_option linter.unusedVariables false
theorem rws_of_flat {ys : List Int} {len : Nat} (hl : ys.length = len * 4) : ∃ xs : List Rw, xs.length = len ∧ flatR xs = ys := by
  refine ⟨(List.range len).map fun i => ⟨ys.getD (i * 4) 0, ys.getD (i * 4 + 1) 0, ys.getD (i * 4 + 2) 0, ys.getD (i * 4 + 3) 0⟩, by simp, list_of_getD (by rw [flatR_len]; simp [hl]) fun j hj => ?_⟩
  rw [flatR_len] at hj
  simp only [List.length_map, List.length_range] at hj
  have h1 : j / 4 < len := by omega
  have h2 : j % 4 < 4 := by omega
  have h3 := flatR_at h2 ((List.range len).map fun i => (⟨ys.getD (i * 4) 0, ys.getD (i * 4 + 1) 0, ys.getD (i * 4 + 2) 0, ys.getD (i * 4 + 3) 0⟩ : Rw)) (j / 4)
  rw [show j / 4 * 4 + j % 4 = j by omega] at h3
  rw [h3]
  have h4 : rwAt ((List.range len).map fun i => (⟨ys.getD (i * 4) 0, ys.getD (i * 4 + 1) 0, ys.getD (i * 4 + 2) 0, ys.getD (i * 4 + 3) 0⟩ : Rw)) (j / 4) = ⟨ys.getD (j / 4 * 4) 0, ys.getD (j / 4 * 4 + 1) 0, ys.getD (j / 4 * 4 + 2) 0, ys.getD (j / 4 * 4 + 3) 0⟩ := by
    unfold rwAt; rw [List.getD_eq_getElem?_getD]; simp only [List.getElem?_map, List.getElem?_range h1, Option.map_some, Option.getD_some]
  rw [h4]
  have h5 : j % 4 = 0 ∨ j % 4 = 1 ∨ j % 4 = 2 ∨ j % 4 = 3 := by omega
  rcases h5 with h | h | h | h <;> rw [h] <;> simp only [rwFl, List.getD_cons_zero, List.getD_cons_succ] <;> exact congrArg (fun z => ys.getD z 0) (by omega)
theorem StructRow.rwsA {w : World} {a : Option Addr} {len cap : Nat} (h : StructRow w 4 a len cap) : ∃ xs : List Rw, xs.length = len ∧ okI (flatR xs) ∧ RI (fun b => w.heap[b]?) (.sl (fun j => .lit (.int .i64 ((flatR xs).getD j 0))) xs.length 4) (.slice a len cap) := by
  obtain ⟨ys, h1, h2, h3⟩ := h.flat (by decide)
  obtain ⟨xs, rfl, rfl⟩ := rws_of_flat h1
  exact ⟨xs, rfl, h2, h3⟩
theorem pks_of_flat {ys : List Int} {len : Nat} (hl : ys.length = len * 2) : ∃ xs : List Pk, xs.length = len ∧ flatP xs = ys := by
  refine ⟨(List.range len).map fun i => ⟨ys.getD (i * 2) 0, ys.getD (i * 2 + 1) 0⟩, by simp, list_of_getD (by rw [flatP_len]; simp [hl]) fun j hj => ?_⟩
  rw [flatP_len] at hj
  simp only [List.length_map, List.length_range] at hj
  have h1 : j / 2 < len := by omega
  have h2 : j % 2 < 2 := by omega
  have h3 := flatP_at h2 ((List.range len).map fun i => (⟨ys.getD (i * 2) 0, ys.getD (i * 2 + 1) 0⟩ : Pk)) (j / 2)
  rw [show j / 2 * 2 + j % 2 = j by omega] at h3
  rw [h3]
  have h4 : pkAt ((List.range len).map fun i => (⟨ys.getD (i * 2) 0, ys.getD (i * 2 + 1) 0⟩ : Pk)) (j / 2) = ⟨ys.getD (j / 2 * 2) 0, ys.getD (j / 2 * 2 + 1) 0⟩ := by
    unfold pkAt; rw [List.getD_eq_getElem?_getD]; simp only [List.getElem?_map, List.getElem?_range h1, Option.map_some, Option.getD_some]
  rw [h4]
  have h5 : j % 2 = 0 ∨ j % 2 = 1 := by omega
  rcases h5 with h | h <;> rw [h] <;> simp only [pkFl, List.getD_cons_zero, List.getD_cons_succ] <;> exact congrArg (fun z => ys.getD z 0) (by omega)
theorem StructRow.pksA {w : World} {a : Option Addr} {len cap : Nat} (h : StructRow w 2 a len cap) : ∃ xs : List Pk, xs.length = len ∧ okI (flatP xs) ∧ RI (fun b => w.heap[b]?) (.sl (fun j => .lit (.int .i64 ((flatP xs).getD j 0))) xs.length 2) (.slice a len cap) := by
  obtain ⟨ys, h1, h2, h3⟩ := h.flat (by decide)
  obtain ⟨xs, rfl, rfl⟩ := pks_of_flat h1
  exact ⟨xs, rfl, h2, h3⟩
theorem RL.obj {G : Gh} {n : Nat} {x y z : Int} {a : Option Addr} {len cap : Nat} {xs : List Rw} (h : RI G.fz (.sl (fun j => .lit (.int .i64 ((flatR xs).getD j 0))) xs.length 4) (.slice a len cap)) : RA n G (obA ⟨x, y, z, xs⟩) (.agg #[.int .i64 x, .int .i64 y, .int .i64 z, .slice a len cap]) :=
  .agg [_, _, _, _] [_, _, _, _] rfl (RL.cons (.iv _ _ (.lit _)) (RL.cons (.iv _ _ (.lit _)) (RL.cons (.iv _ _ (.lit _)) (RL.cons (.iv _ _ h) (RL.nil _ _))))).2 rfl
end Go.Proofs.Yteldioinhbpfhaa
namespace Go.Proofs.Yteldioinhbpfhaa
open Go.RowKit
set_option linter.unusedVariables false
set_option linter.unusedSimpArgs false
set_option maxRecDepth 100000 in
set_option maxHeartbeats 1000000 in
theorem pf_rAhead (x y : Op5) : PF Try.prog 31 [opA x, opA y] fun r H' => r = lt (.bool (oAhead x y)) ∧ H' = [] := by
  refine SF.forgetAll ?_
  (refine SF_of_bodyX (aload tt) (aload_ok tyOK) Try.func31 rfl (by kernel_rfl) ?_; simp only [Try.ntmps31, List.length_cons, List.length_nil, Nat.reduceAdd, Nat.reduceSub, List.replicate_succ, List.replicate_zero, List.cons_append, List.nil_append])
  (repeat' (first | (first | (with_reducible first | refine AX_block ?_ | refine AX_skip ?_ | refine AX_exit ?_ | refine AX_ret ?_ | refine AX_ift ?_ | refine AX_iff ?_ | refine AX_seq_k (fun K hK => ?_) | refine ContX.use (by assumption) ?_) | simp only [thenX, inBlockX, if_true, if_false, reduceCtorEq]) | (first | ((with_reducible first | refine XOP tyOK ?_ | refine AOP tyOK ?_); simp (disch := omega) only [go_sem , flatO_p, flatO_k, flatO_s, flatO_e, flatO_r]; (with_reducible first | refine XRes_id ?_ | refine ADF_id ?_)) | (with_reducible first | refine XSK ?_ | refine ASK ?_)) | ((first | (with_reducible refine XRes_nil ?_) | (with_reducible refine ADF_nil ?_)); (first | refine hK _ ?_ | refine hK _ _ ?_); clear hK K) | ((first | (with_reducible refine AX_reg0 fun K hK => ?_) | (refine AX_drawG1 tyOK (by kernel_rfl) (by rfl) (by kernel_rfl) fun K hK => ?_)); simp only [go_sem]) | (first | (first | refine XTL (by rfl) (pf_rAhead _ _) ?_ | refine ATL tyOK (by rfl) (pf_rAhead _ _) ?_ | refine XTL (by rfl) (pf_Ahead _ _) ?_ | refine ATL tyOK (by rfl) (pf_Ahead _ _) ?_)) | ((first | (refine XRes_splitG (by rfl) (fun hc => ?_) (fun hc => ?_)) | (refine ADF_splitG (by rfl) (fun hc => ?_) (fun hc => ?_))) <;> (try simp only [eqRes, List.cons_beq_cons, Bool.and_eq_true, Bool.not_eq_true, Bool.and_eq_false_iff, decide_eq_true_eq, decide_eq_false_iff_not, bne_iff_ne, beq_iff_eq, bne_eq_false_iff_eq, beq_eq_false_iff_ne, Bool.not_eq_true', Bool.not_eq_false', ne_eq, Int.not_lt, Int.not_le, Decidable.not_not] at hc) <;> simp only [List.set_cons_succ, List.set_cons_zero]) | (first | ((with_reducible refine AX_if_t ?_ ?_); focus (simp (disch := omega) only [go_sem , flatO_p, flatO_k, flatO_s, flatO_e, flatO_r]; done)) | ((with_reducible refine AX_if_f ?_ ?_); focus (simp (disch := omega) only [go_sem , flatO_p, flatO_k, flatO_s, flatO_e, flatO_r]; done)) | (refine AX_cond _ (by rfl) (fun hc => ?_) (fun hc => ?_) <;> (try simp only [eqRes, List.cons_beq_cons, Bool.and_eq_true, Bool.not_eq_true, Bool.and_eq_false_iff, decide_eq_true_eq, decide_eq_false_iff_not, bne_iff_ne, beq_iff_eq, bne_eq_false_iff_eq, beq_eq_false_iff_ne, Bool.not_eq_true', Bool.not_eq_false', ne_eq, Int.not_lt, Int.not_le, Decidable.not_not] at hc)))))
  all_goals
    (simp only [bodyX]; refine ⟨_, by simp only [aresults, aresult, XS.as, Try.results31, aload, go_sem, Option.bind_some]; rfl, ?_⟩)
    exact ⟨.iv _, (by unfold oAhead; first | (rw [decide_eq_false (by omega)]; done) | (simp [hc]; done)), trivial⟩
set_option maxRecDepth 100000 in
set_option maxHeartbeats 1000000 in
theorem pf_Ahead (x y : Op5) : PF Try.prog 26 [opA x, opA y] fun r H' => r = lt (.bool (oAhead x y)) ∧ H' = [] := by
  refine SF.forgetAll ?_
  (refine SF_of_bodyX (aload tt) (aload_ok tyOK) Try.func26 rfl (by kernel_rfl) ?_; simp only [Try.ntmps26, List.length_cons, List.length_nil, Nat.reduceAdd, Nat.reduceSub, List.replicate_succ, List.replicate_zero, List.cons_append, List.nil_append])
  (repeat' (first | (first | (with_reducible first | refine AX_block ?_ | refine AX_skip ?_ | refine AX_exit ?_ | refine AX_ret ?_ | refine AX_ift ?_ | refine AX_iff ?_ | refine AX_seq_k (fun K hK => ?_) | refine ContX.use (by assumption) ?_) | simp only [thenX, inBlockX, if_true, if_false, reduceCtorEq]) | (first | ((with_reducible first | refine XOP tyOK ?_ | refine AOP tyOK ?_); simp (disch := omega) only [go_sem , flatO_p, flatO_k, flatO_s, flatO_e, flatO_r]; (with_reducible first | refine XRes_id ?_ | refine ADF_id ?_)) | (with_reducible first | refine XSK ?_ | refine ASK ?_)) | ((first | (with_reducible refine XRes_nil ?_) | (with_reducible refine ADF_nil ?_)); (first | refine hK _ ?_ | refine hK _ _ ?_); clear hK K) | ((first | (with_reducible refine AX_reg0 fun K hK => ?_) | (refine AX_drawG1 tyOK (by kernel_rfl) (by rfl) (by kernel_rfl) fun K hK => ?_)); simp only [go_sem]) | (first | (first | refine XTL (by rfl) (pf_rAhead _ _) ?_ | refine ATL tyOK (by rfl) (pf_rAhead _ _) ?_ | refine XTL (by rfl) (pf_Ahead _ _) ?_ | refine ATL tyOK (by rfl) (pf_Ahead _ _) ?_)) | ((first | (refine XRes_splitG (by rfl) (fun hc => ?_) (fun hc => ?_)) | (refine ADF_splitG (by rfl) (fun hc => ?_) (fun hc => ?_))) <;> (try simp only [eqRes, List.cons_beq_cons, Bool.and_eq_true, Bool.not_eq_true, Bool.and_eq_false_iff, decide_eq_true_eq, decide_eq_false_iff_not, bne_iff_ne, beq_iff_eq, bne_eq_false_iff_eq, beq_eq_false_iff_ne, Bool.not_eq_true', Bool.not_eq_false', ne_eq, Int.not_lt, Int.not_le, Decidable.not_not] at hc) <;> simp only [List.set_cons_succ, List.set_cons_zero]) | (first | ((with_reducible refine AX_if_t ?_ ?_); focus (simp (disch := omega) only [go_sem , flatO_p, flatO_k, flatO_s, flatO_e, flatO_r]; done)) | ((with_reducible refine AX_if_f ?_ ?_); focus (simp (disch := omega) only [go_sem , flatO_p, flatO_k, flatO_s, flatO_e, flatO_r]; done)) | (refine AX_cond _ (by rfl) (fun hc => ?_) (fun hc => ?_) <;> (try simp only [eqRes, List.cons_beq_cons, Bool.and_eq_true, Bool.not_eq_true, Bool.and_eq_false_iff, decide_eq_true_eq, decide_eq_false_iff_not, bne_iff_ne, beq_iff_eq, bne_eq_false_iff_eq, beq_eq_false_iff_ne, Bool.not_eq_true', Bool.not_eq_false', ne_eq, Int.not_lt, Int.not_le, Decidable.not_not] at hc)))))
  all_goals
    (simp only [bodyX]; refine ⟨_, by simp only [aresults, aresult, XS.as, Try.results26, aload, go_sem, Option.bind_some]; rfl, ?_⟩)
    exact ⟨.iv _, (by unfold oAhead; first | (rw [decide_eq_false (by omega)]; done) | (simp [hc]; done)), trivial⟩
def oPends (xs : List Op5) (k : Nat) : List Int := ((List.range k).filter fun i => decide ((oAt xs i).e = -1)).map fun i : Nat => (i : Int)
def oPair (xs : List Op5) (i : Nat) (k : Nat) : List Int := ((List.range k).filter fun j => oAhead (oAt xs i) (oAt xs j)).flatMap fun j : Nat => [(i : Int), (j : Int)]
def oPairL (xs : List Op5) (i : Nat) : List Int := (List.range i).flatMap fun i => oPair xs i xs.length
end Go.Proofs.Yteldioinhbpfhaa
namespace Go.Proofs.Yteldioinhbpfhaa
set_option linter.unusedVariables false
def endsOk (l : List Op5) : Prop := ∀ i j, i < l.length → j < l.length → 0 ≤ (oAt l i).e → (oAt l i).e = (oAt l j).e → i = j
theorem endsOk_good {l : List Op5} (h : oGood l l.length) : endsOk l := fun i j hi hj h0 he => by
  rcases Nat.lt_trichotomy i j with hlt | hlt | hlt
  · exact absurd ⟨i, hlt, .inr (.inr (.inr (.inr ⟨he, by omega⟩)))⟩ (oErr_zero (h j hj)).2.1
  · exact hlt
  · exact absurd ⟨j, hlt, .inr (.inr (.inr (.inr ⟨he.symm, by omega⟩)))⟩ (oErr_zero (h i hi)).2.1
structure EndS (l : List Op5) (E : List Int) : Prop where
  len : E.length ≤ l.length
  rng : ∀ j, j < E.length → 0 ≤ E.getD j 0 ∧ E.getD j 0 < l.length ∧ 0 ≤ (oAt l (E.getD j 0).toNat).e
  inc : ∀ i j, i < j → j < E.length → (oAt l (E.getD i 0).toNat).e ≤ (oAt l (E.getD j 0).toNat).e
  all : ∀ k, k < l.length → 0 ≤ (oAt l k).e → ∃ j, j < E.length ∧ E.getD j 0 = (k : Int)
theorem getD_mem {L : List Int} {x : Int} : x ∈ L ↔ ∃ i, i < L.length ∧ L.getD i 0 = x := by
  rw [List.mem_iff_getElem]
  constructor
  · rintro ⟨i, hi, e⟩; exact ⟨i, hi, by rw [List.getD_eq_getElem?_getD, List.getElem?_eq_getElem hi]; exact e⟩
  · rintro ⟨i, hi, e⟩; exact ⟨i, hi, by rw [List.getD_eq_getElem?_getD, List.getElem?_eq_getElem hi] at e; exact e⟩
end Go.Proofs.Yteldioinhbpfhaa
