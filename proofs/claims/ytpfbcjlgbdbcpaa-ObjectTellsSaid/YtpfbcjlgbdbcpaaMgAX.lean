import Derived.Test.YtpfbcjlgbdbcpaaMgAN
import Derived.Test.YtpfbcjlgbdbcpaaMgAV
import Derived.Test.YtpfbcjlgbdbcpaaMgAW
import Derived.Scope
namespace Go.Proofs.Ytpfbcjlgbdbcpaa
open Go.RowKit
set_option linter.unusedVariables false
set_option linter.unusedSimpArgs false
theorem W9b69a {A B : Prop} (h9 : B) (w : B → A := by (intro h9; (repeat intro K hK); refine ⟨?_⟩; (repeat (first | (first | (with_reducible first | refine AX_block ?_ | refine AX_skip ?_ | refine AX_exit ?_ | refine AX_ret ?_ | refine AX_ift ?_ | refine AX_iff ?_ | refine AX_seq_k (fun K hK => ?_) | refine ContX.use (by assumption) ?_) | simp only [thenX, inBlockX, if_true, if_false, reduceCtorEq]) | (first | ((first | (with_reducible refine XRes_op tyOK ?_ ?_) | ((with_reducible first | refine ADF_op tyOK ?_ ?_ ?_ | refine ADX_op tyOK ?_ ?_ ?_); (focus rfl)) | (with_reducible refine ADR_alloc1 tyOK ?_ ?_) | ((with_reducible refine ADR_free1 tyOK ?_ ?_ ?_); (focus rfl)) | ((with_reducible refine ADR_free0 tyOK ?_ ?_ ?_); (focus rfl)) | ((with_reducible refine ADR_read1 tyOK ?_ ?_ ?_); (focus rfl)) | (with_reducible refine ADR_chg1 tyOK ?_ ?_)); (focus (first | (with_reducible rfl) | ((simp (disch := omega) only [go_sem]); done))); simp (disch := omega) only [go_sem , flatR_s, flatR_k, flatR_n, flatR_r, hs1, hs2, hs3, hs4, iInts, iBools, List.length_nil, Nat.reduceLeDiff, Int.toNat_zero]; (first | (with_reducible refine XRes_id ?_) | (with_reducible refine ADF_id ?_) | (with_reducible refine ADR_id1 ?_) | (with_reducible refine ADX_id ?_))) | ((first | (with_reducible refine XRes_skip ?_ ?_) | (with_reducible refine ADF_skip (b := true) ?_ ?_) | (with_reducible refine ADX_skip ?_ ?_) | ((with_reducible refine ADR_skip1 ?_ ?_ ?_); (focus rfl))); (focus (first | rfl | ((simp (disch := omega) only [go_sem]); done))); (simp only [putL, List.set_cons_succ, List.set_cons_zero]))) | ((first | (with_reducible refine XRes_nil ?_) | (with_reducible refine ADF_nil ?_) | (with_reducible refine ADR_nil ?_) | (with_reducible refine ADX_nil ?_)); (first | refine hK _ ?_ | refine hK _ _ ?_); clear hK K) | ((first | (with_reducible refine AX_reg0 fun K hK => ?_) | (refine AX_drawG1 tyOK (by kernel_rfl) (by rfl) (by kernel_rfl) fun K hK => ?_) | (refine AX_drawT tyOK (by kernel_rfl) (by decide +kernel) fun K hK => ?_) | (refine AX_drawM1 (by kernel_rfl) (by rfl) (by decide +kernel) fun K hK => ?_) | (refine AX_drawA tyOK (by kernel_rfl) (by decide +kernel) fun K hK => ?_)); (first | simp only [go_sem, preN, effOp, runF, alM, mapOp, alD2, kdOf2, Bool.not_false, Bool.not_true, reduceCtorEq] | simp only [go_sem, preN, effOp, runF, alM, mapOp, Bool.not_false, Bool.not_true, reduceCtorEq] | simp only [go_sem, preN, effOp, runF, alD2, kdOf2, Bool.not_false, Bool.not_true, reduceCtorEq] | simp only [go_sem, alD2, kdOf2, Bool.not_false, Bool.not_true, reduceCtorEq] | simp only [go_sem, preN, effOp, runF, Bool.not_false, Bool.not_true, reduceCtorEq] | simp only [go_sem])) | (first | (first | refine XTL (by rfl) hC ?_ | refine ATL tyOK (by rfl) hC ?_) | ((refine XRes_slot (by rfl) rfl (PF.tells (idsA rfl) (fun _ => rfl) (hcl _)) ?_); (rintro r H' ⟨rfl, rfl⟩); (simp only [putL, List.set_cons_succ, List.set_cons_zero])) | ((refine XRes_fn (by rfl) hF ?_); (rintro r H' ⟨rfl, rfl⟩); (simp only [putL, List.set_cons_succ, List.set_cons_zero]))))); refine Wk.o ?_; (repeat revert hK K); exact h9)) : A := w h9
set_option maxRecDepth 100000 in
set_option maxHeartbeats 2000000 in
theorem pf_numbers (D : List Bool) (hl : D.length ≤ 1000000) : SF Try.prog 28 [.iv (iBools D)] [] fun r H' => r = .iv (iInts (nbL D D.length)) ∧ H' = [] := by
  refine SF.frozen ?_
  have hs1 := trivial; have hs2 := trivial; have hs3 := trivial; have hs4 := trivial; have hC := trivial; have hcl := trivial; have hF := trivial
  (refine SF_of_bodyX (aload tt) (aload_ok tyOK) Try.func28 rfl (by kernel_rfl) ?_; simp only [Try.ntmps28, List.length_cons, List.length_nil, Nat.reduceAdd, Nat.reduceSub, List.replicate_succ, List.replicate_zero, List.cons_append, List.nil_append])
  unfold iBools
  (refine Wk.o ?_; (repeat revert hK K); refine W9b69a ?_; (repeat intro K hK); refine ⟨?_⟩)
  refine AX_nil 3 3 1 rfl ?_
  simp only [List.set_cons_succ, List.set_cons_zero, List.length_cons, List.length_nil, List.cons_append, List.nil_append, Nat.zero_add, Nat.reduceAdd]
  (refine AWH (σ := Nat × List Int) [9, 10, 11, 12, 4, 5, 13, 14, 15, 16, 17, 18] (fun (j, O) => [(8, lint j), (3, .osl 0 0 O.length 1)]) (fun (j, O) => [some ⟨3, O.map lint⟩]) (fun (j, O) => []) (fun (j, O) => j ≤ D.length ∧ O = nbL D j) (fun (j, O) => D.length - j) (0, []) (by first | exact ⟨Nat.zero_le _, rfl⟩) ?_; rintro ⟨j, O⟩ d fr hfr ⟨hj, hO⟩; simp only [updS, deadS, List.set_cons_succ, List.set_cons_zero, lint] at hfr; subst hfr; (try dsimp only))
  have hOl : O.length ≤ j := by rw [hO]; exact nbL_len _ _
  by_cases hlt : j < D.length
  · by_cases h1 : D.getD j false = true
    · have hs1 := h1
      (refine Wk.o ?_; (repeat revert hK K); refine W9b69a ?_; (repeat intro K hK); refine ⟨?_⟩)
      exact WRN [2] (j + 1, O ++ [(j : Int)]) ⟨by omega, by rw [hO]; show _ = if _ then _ else _; rw [if_pos h1]⟩ (by (first | omega | (dsimp only; omega) | (simp only; omega)))
    · have hs1 : D.getD j false = false := by simpa using h1
      (refine Wk.o ?_; (repeat revert hK K); refine W9b69a ?_; (repeat intro K hK); refine ⟨?_⟩)
      exact WRN [0] (j + 1, O) ⟨by omega, by rw [hO]; show _ = if _ then _ else _; rw [if_neg h1]⟩ (by (first | omega | (dsimp only; omega) | (simp only; omega)))
  · obtain rfl : j = D.length := by omega
    (refine Wk.o ?_; (repeat revert hK K); refine W9b69a ?_; (repeat intro K hK); refine ⟨?_⟩)
    (simp only [bodyX]; refine ⟨_, by simp only [aresults, aresult, XS.as, Try.results28, aload, go_sem, Option.bind_some]; rfl, ?_⟩)
    exact ⟨_, snap_ints rfl rfl, by rw [hO], trivial⟩
set_option maxRecDepth 100000 in
set_option maxHeartbeats 2000000 in
theorem pf_indexI (xs : List Int) (v : Int) (hx : xs.length ≤ 1000000) : PF Try.prog 38 [.iv (iInts xs), lt (.int .i64 v)] fun r H' => (∃ z : Int, r = lt (.int .i64 z) ∧ -1 ≤ z ∧ (0 ≤ z ↔ v ∈ xs)) ∧ H' = [] := by
  refine SF.forgetAll ?_
  have hs1 := trivial; have hs2 := trivial; have hs3 := trivial; have hs4 := trivial; have hC := trivial; have hcl := trivial; have hF := trivial
  (refine SF_of_bodyX (aload tt) (aload_ok tyOK) Try.func38 rfl (by kernel_rfl) ?_; simp only [Try.ntmps38, List.length_cons, List.length_nil, Nat.reduceAdd, Nat.reduceSub, List.replicate_succ, List.replicate_zero, List.cons_append, List.nil_append])
  unfold iInts
  (refine Wk.o ?_; (repeat revert hK K); refine W9b69a ?_; (repeat intro K hK); refine ⟨?_⟩)
  (refine AWH (σ := Nat) [9, 10, 5, 11, 12, 13, 14, 15, 16, 17, 4, 18] (fun k => [(8, lint k)]) (fun k => []) (fun k => []) (fun k => k ≤ xs.length ∧ ∀ j, j < k → xs.getD j 0 ≠ v) (fun k => xs.length - k) 0 (by first | exact ⟨Nat.zero_le _, fun j h => absurd h (by omega)⟩) ?_; rintro k d fr hfr ⟨hk, hj⟩; simp only [updS, deadS, List.set_cons_succ, List.set_cons_zero, lint] at hfr; subst hfr; (try dsimp only))
  by_cases hlt : k < xs.length
  · by_cases he : v = xs.getD k 0
    · have hm : v ∈ xs := by
        rw [he, List.getD_eq_getElem?_getD, List.getElem?_eq_getElem hlt]; exact List.getElem_mem hlt
      subst he
      (refine Wk.o ?_; (repeat revert hK K); refine W9b69a ?_; (repeat intro K hK); refine ⟨?_⟩)
      (simp only [bodyX]; refine ⟨_, by simp only [aresults, aresult, XS.as, Try.results38, aload, go_sem, Option.bind_some]; rfl, ?_⟩)
      exact ⟨.iv _, ⟨k, rfl, by omega, fun _ => hm, fun _ => by omega⟩, trivial⟩
    · (refine Wk.o ?_; (repeat revert hK K); refine W9b69a ?_; (repeat intro K hK); refine ⟨?_⟩)
      exact whx_end (k + 1) ⟨by omega, fun j hj2 => by
        rcases Nat.lt_or_ge j k with h | h
        · exact hj j h
        · rw [show j = k by omega]; exact fun e => he e.symm⟩ (by (first | omega | (dsimp only; omega) | (simp only; omega))) rfl (by first | rfl | (simp (disch := omega) only [go_sem, lint])) (fun d => by first | ((simp only [deadS, updS, List.set_cons_succ, List.set_cons_zero, lint, List.length_nil, List.length_cons]); done) | ((simp only [deadS, updS, List.set_cons_succ, List.set_cons_zero, lint, List.length_nil, List.length_cons]); rfl) | rfl)
  · obtain rfl : k = xs.length := by omega
    have hm : ¬ v ∈ xs := fun h => by
      obtain ⟨j, hj2, e⟩ := List.mem_iff_getElem.1 h
      refine hj j hj2 ?_
      rw [List.getD_eq_getElem?_getD, List.getElem?_eq_getElem hj2]; exact e
    (refine Wk.o ?_; (repeat revert hK K); refine W9b69a ?_; (repeat intro K hK); refine ⟨?_⟩)
    (simp only [bodyX]; refine ⟨_, by simp only [aresults, aresult, XS.as, Try.results38, aload, go_sem, Option.bind_some]; rfl, ?_⟩)
    exact ⟨.iv _, ⟨-1, rfl, by omega, fun h => by omega, fun h => absurd h hm⟩, trivial⟩
set_option maxRecDepth 100000 in
set_option maxHeartbeats 2000000 in
theorem pf_containsI (xs : List Int) (v : Int) (hx : xs.length ≤ 1000000) : PF Try.prog 31 [.iv (iInts xs), lt (.int .i64 v)] fun r H' => r = lt (.bool (decide (v ∈ xs))) ∧ H' = [] := by
  refine SF.forgetAll ?_
  have hs1 := trivial; have hs2 := trivial; have hs3 := trivial; have hs4 := trivial; have hC := trivial; have hcl := trivial; have hF := trivial
  have hI := pf_indexI xs v hx
  generalize iInts xs = x at *
  (refine SF_of_bodyX (aload tt) (aload_ok tyOK) Try.func31 rfl (by kernel_rfl) ?_; simp only [Try.ntmps31, List.length_cons, List.length_nil, Nat.reduceAdd, Nat.reduceSub, List.replicate_succ, List.replicate_zero, List.cons_append, List.nil_append])
  (refine Wk.o ?_; (repeat revert hK K); refine W9b69a ?_; (repeat intro K hK); refine ⟨?_⟩)
  refine XRes_fn (by rfl) hI ?_
  rintro r H' ⟨⟨z, rfl, h1, h2⟩, rfl⟩
  (simp only [putL, List.set_cons_succ, List.set_cons_zero])
  by_cases h : 0 ≤ z
  · (refine Wk.o ?_; (repeat revert hK K); refine W9b69a ?_; (repeat intro K hK); refine ⟨?_⟩)
    (simp only [bodyX]; refine ⟨_, by simp only [aresults, aresult, XS.as, Try.results31, aload, go_sem, Option.bind_some]; rfl, ?_⟩)
    exact ⟨.iv _, by rw [decide_eq_true (h2.1 h)], trivial⟩
  · (refine Wk.o ?_; (repeat revert hK K); refine W9b69a ?_; (repeat intro K hK); refine ⟨?_⟩)
    (simp only [bodyX]; refine ⟨_, by simp only [aresults, aresult, XS.as, Try.results31, aload, go_sem, Option.bind_some]; rfl, ?_⟩)
    exact ⟨.iv _, by rw [decide_eq_false (fun hh => h (h2.2 hh))], trivial⟩
def anyR (xs : List Rw) (p : Rw → Bool) : Prop := ∃ i, i < xs.length ∧ p (rwAt xs i) = true
instance (xs : List Rw) (p : Rw → Bool) : Decidable (anyR xs p) := by unfold anyR; infer_instance
set_option maxRecDepth 100000 in
set_option maxHeartbeats 2000000 in
theorem sf_containsRow (xs : List Rw) (hx : xs.length ≤ 100000) (p : Rw → Bool) (f : FuncId) (caps : List AV) (H : AHeap) (hcl : ∀ x : Rw, SF Try.prog f (rwA x :: caps) H fun r H' => r = lt (.bool (p x)) ∧ H' = H) : SF Try.prog 29 [.iv (iRws xs), .fn f [] caps] H fun r H' => r = lt (.bool (decide (anyR xs p))) ∧ H' = H := by
  have hs1 := trivial; have hs2 := trivial; have hs3 := trivial; have hs4 := trivial; have hC := trivial
  have hF := sf_indexRow xs hx p f caps H hcl _ rfl
  have hle := fb_le (fun i => if p (rwAt xs i) = true then (1 : Int) else 0) xs.length
  have hyes : fb (fun i => if p (rwAt xs i) = true then (1 : Int) else 0) xs.length < xs.length ↔ anyR xs p := by
    constructor
    · intro h
      refine ⟨_, h, ?_⟩
      have := fb_bad h
      by_cases e : p (rwAt xs (fb (fun i => if p (rwAt xs i) = true then (1 : Int) else 0) xs.length)) = true
      · exact e
      · exact absurd (if_neg e) this
    · rintro ⟨i, h1, h2⟩
      rcases Nat.lt_or_ge (fb (fun i => if p (rwAt xs i) = true then (1 : Int) else 0) xs.length) xs.length with h | h
      · exact h
      · have := fb_eq.1 (show fb (fun i => if p (rwAt xs i) = true then (1 : Int) else 0) xs.length = xs.length by omega) i h1
        rw [if_pos h2] at this; omega
  generalize fb (fun i => if p (rwAt xs i) = true then (1 : Int) else 0) xs.length = n at *
  by_cases h : n < xs.length
  · rw [decide_eq_true (hyes.1 h)]
    rw [if_pos h] at hF
    (refine SF_of_bodyX (aload tt) (aload_ok tyOK) Try.func29 rfl (by kernel_rfl) ?_; simp only [Try.ntmps29, List.length_cons, List.length_nil, Nat.reduceAdd, Nat.reduceSub, List.replicate_succ, List.replicate_zero, List.cons_append, List.nil_append])
    (refine Wk.o ?_; (repeat revert hK K); refine W9b69a ?_; (repeat intro K hK); refine ⟨?_⟩)
    (simp only [bodyX]; refine ⟨_, by simp only [aresults, aresult, XS.as, Try.results29, aload, go_sem, Option.bind_some]; rfl, ?_⟩)
    exact ⟨rfl, trivial⟩
  · rw [decide_eq_false (fun hh => h (hyes.2 hh))]
    rw [if_neg h] at hF
    (refine SF_of_bodyX (aload tt) (aload_ok tyOK) Try.func29 rfl (by kernel_rfl) ?_; simp only [Try.ntmps29, List.length_cons, List.length_nil, Nat.reduceAdd, Nat.reduceSub, List.replicate_succ, List.replicate_zero, List.cons_append, List.nil_append])
    (refine Wk.o ?_; (repeat revert hK K); refine W9b69a ?_; (repeat intro K hK); refine ⟨?_⟩)
    (simp only [bodyX]; refine ⟨_, by simp only [aresults, aresult, XS.as, Try.results29, aload, go_sem, Option.bind_some]; rfl, ?_⟩)
    exact ⟨rfl, trivial⟩
end Go.Proofs.Ytpfbcjlgbdbcpaa
namespace Go.Proofs.Ytpfbcjlgbdbcpaa
open Go.RowKit
set_option linter.unusedVariables false
variable {P : Program} {m : Nat} {Q : Exit → XS → Prop}
theorem SF.lit {f : FuncId} {args : List AV} {H : AHeap} {x : AV} {obj : AObj} {y : IV} (h : SF P f args H fun r H' => r = x ∧ H' = H ++ [some obj]) (hs : SnapC (onlyH [H.length] (H ++ [some obj])) x y) : SF P f args H fun r H' => r = .iv y ∧ H' = H :=
  ⟨h.callable, fun G w vs hi hr => (h.calls G w vs hi hr).mono fun e w' ⟨v, r, G', H', h1, h2, h3, h4, h5, e1, e2⟩ => by
    subst e1 e2
    obtain ⟨G2, k1, k2, k3⟩ := lit_step hi h2 h4 h5 hs
    exact ⟨v, .iv y, G2, H, h1, k1, Nat.le_refl _, k2, k3, rfl, rfl⟩⟩
def noGotoX (Q : Exit → XS → Prop) : Exit → XS → Prop
  | .goto _, _ => False
  | e, s => Q e s
end Go.Proofs.Ytpfbcjlgbdbcpaa
namespace Go.Proofs.Ytpfbcjlgbdbcpaa
open Go.RowKit
set_option linter.unusedVariables false
set_option linter.unusedSimpArgs false
theorem frz_lb2 {HD : AHeap} {o : Nat} {t : TypeId} {xs : List Bool} {n : Nat} (h : HD[o]? = some (some ⟨t, xs.map lb⟩)) (hn : n = xs.length) : FrzV HD (.osl o 0 n 1) (.iv (iBools xs)) := by
  subst hn
  exact .iv _ _ (SnapC.lits (fun j => .bool (xs.getD j false)) h fun j hj => by rw [Nat.zero_add]; exact lb_at hj)
theorem W92c7a {A B : Prop} (h9 : B) (w : B → A := by (intro h9; (repeat intro K hK); refine ⟨?_⟩; (repeat (first | (first | (with_reducible first | refine AX_block ?_ | refine AX_skip ?_ | refine AX_exit ?_ | refine AX_ret ?_ | refine AX_ift ?_ | refine AX_iff ?_ | refine AX_seq_k (fun K hK => ?_) | refine ContX.use (by assumption) ?_) | simp only [thenX, inBlockX, if_true, if_false, reduceCtorEq]) | (first | ((first | (with_reducible refine XRes_op tyOK ?_ ?_) | ((with_reducible first | refine ADF_op tyOK ?_ ?_ ?_ | refine ADX_op tyOK ?_ ?_ ?_); (focus rfl)) | (with_reducible refine ADR_alloc1 tyOK ?_ ?_) | ((with_reducible refine ADR_free1 tyOK ?_ ?_ ?_); (focus rfl)) | ((with_reducible refine ADR_free0 tyOK ?_ ?_ ?_); (focus rfl)) | ((with_reducible refine ADR_read1 tyOK ?_ ?_ ?_); (focus rfl)) | (with_reducible refine ADR_chg1 tyOK ?_ ?_)); (focus (first | (with_reducible rfl) | ((simp (disch := omega) only [go_sem]); done))); simp (disch := omega) only [go_sem , flatR_s, flatR_k, flatR_n, flatR_r, hs1, hs2, hs3, hs4, hs5, hs6, hs7, rep_lb, List.length_set, List.length_nil, Nat.reduceLeDiff, Int.toNat_zero]; (first | (with_reducible refine XRes_id ?_) | (with_reducible refine ADF_id ?_) | (with_reducible refine ADR_id1 ?_) | (with_reducible refine ADX_id ?_))) | ((first | (with_reducible refine XRes_skip ?_ ?_) | (with_reducible refine ADF_skip (b := true) ?_ ?_) | (with_reducible refine ADX_skip ?_ ?_) | ((with_reducible refine ADR_skip1 ?_ ?_ ?_); (focus rfl))); (focus (first | rfl | ((simp (disch := omega) only [go_sem]); done))); (simp only [putL, List.set_cons_succ, List.set_cons_zero]))) | ((first | (with_reducible refine XRes_nil ?_) | (with_reducible refine ADF_nil ?_) | (with_reducible refine ADR_nil ?_) | (with_reducible refine ADX_nil ?_)); (first | refine hK _ ?_ | refine hK _ _ ?_); clear hK K) | ((first | (with_reducible refine AX_reg0 fun K hK => ?_) | (refine AX_drawG1 tyOK (by kernel_rfl) (by rfl) (by kernel_rfl) fun K hK => ?_) | (refine AX_drawT tyOK (by kernel_rfl) (by decide +kernel) fun K hK => ?_) | (refine AX_drawM1 (by kernel_rfl) (by rfl) (by decide +kernel) fun K hK => ?_) | (refine AX_drawA tyOK (by kernel_rfl) (by decide +kernel) fun K hK => ?_)); (first | simp only [go_sem, preN, effOp, runF, alM, mapOp, alD2, kdOf2, Bool.not_false, Bool.not_true, reduceCtorEq] | simp only [go_sem, preN, effOp, runF, alM, mapOp, Bool.not_false, Bool.not_true, reduceCtorEq] | simp only [go_sem, preN, effOp, runF, alD2, kdOf2, Bool.not_false, Bool.not_true, reduceCtorEq] | simp only [go_sem, alD2, kdOf2, Bool.not_false, Bool.not_true, reduceCtorEq] | simp only [go_sem, preN, effOp, runF, Bool.not_false, Bool.not_true, reduceCtorEq] | simp only [go_sem])) | (first | (first | refine XTL (by rfl) hC ?_ | refine ATL tyOK (by rfl) hC ?_ | refine XTL (by rfl) hN ?_ | refine ATL tyOK (by rfl) hN ?_)))); refine Wk.o ?_; (repeat revert hK K); exact h9)) : A := w h9
set_option maxRecDepth 100000 in
set_option maxHeartbeats 4000000 in
theorem pf_Reach (o : Ob) (hr : o.R.length ≤ 100000) (ho : o.Ok) : PF Try.prog 13 [obA o] fun r H' => r = .iv (iInts (reL o)) ∧ H' = [] := by
  refine SF.frozen ?_
  have hs1 := trivial; have hs2 := trivial; have hs3 := trivial; have hs4 := trivial; have hs5 := trivial; have hs6 := trivial; have hs7 := trivial; have hC := trivial; have hN := trivial
  have hC := pf_obCheck o hr ho
  by_cases h0 : obE o = 0
  · obtain ⟨hh, herr⟩ := obE_zero.1 h0
    unfold obHead at hh
    obtain ⟨n, hn⟩ : ∃ n : Nat, o.S = n := ⟨o.S.toNat, by omega⟩
    have hnS : o.S.toNat = n := by omega
    have hn32 : n ≤ 32 := by omega
    obtain ⟨q, hq⟩ : ∃ q : Nat, o.I = q := ⟨o.I.toNat, by omega⟩
    have hqn : q < n := by omega
    have hres : reL o = nbL (reD o) n := by unfold reL; rw [if_pos h0, hnS]
    rw [h0] at hC
    unfold obA at hC
    rw [hn, hq] at hC
    have hs1 : o.S = (n : Int) := hn
    have hs2 : o.I = (q : Int) := hq
    have hD0 : ∀ s, ((List.replicate n false).set q true).getD s false = true → s = q := fun s hs => by
      rcases getD_setT.1 hs with h | h
      · exact h.1
      · rw [List.getD_eq_getElem?_getD, List.getElem?_replicate] at h
        split at h <;> simp at h
    have hD1 : ((List.replicate n false).set q true).getD q false = true := getD_setT.2 (.inl ⟨rfl, by simpa using hqn⟩)
    have hD2 : ((List.replicate n false).set q true).length = n := by simp
    have hs3 : (List.replicate n false).length = n := by simp
    (refine SF_of_bodyX (aload tt) (aload_ok tyOK) Try.func13 rfl (by kernel_rfl) ?_; simp only [Try.ntmps13, List.length_cons, List.length_nil, Nat.reduceAdd, Nat.reduceSub, List.replicate_succ, List.replicate_zero, List.cons_append, List.nil_append])
    (refine Wk.o ?_; (repeat revert hK K); refine W92c7a ?_; (repeat intro K hK); refine ⟨?_⟩)
    generalize (List.replicate n false).set q true = D0 at *
    refine AX_wh (σ := List Bool × Bool) [23, 24, 25, 26, 27, 28, 29, 30, 8, 31, 32, 33, 34, 35, 36, 37, 38, 39, 40, 41, 42, 43, 44, 45, 46, 47, 48] (fun (_, b) => [(6, lt (.bool b))]) (fun (D, _) => [some ⟨24, [lt (.int .i64 n), lt (.int .i64 o.K), lt (.int .i64 q), .iv (iRws o.R)]⟩, some ⟨4, D.map lb⟩]) (fun _ => []) (fun (D, b) => D.length = n ∧ D.getD q false = true ∧ (∀ s, s < D.length → D.getD s false = true → obRe o (s : Int)) ∧ (b = false → ∀ i, i < o.R.length → D.getD (rwAt o.R i).s.toNat false = true → D.getD (rwAt o.R i).n.toNat false = true)) (fun (D, b) => 2 * cF D n + (if b = true then 1 else 0)) (D0, true) (fun d => by first | ((simp only [deadS, updS, List.set_cons_succ, List.set_cons_zero, lint, List.length_nil, List.length_cons]); done) | ((simp only [deadS, updS, List.set_cons_succ, List.set_cons_zero, lint, List.length_nil, List.length_cons]); rfl) | rfl) rfl rfl ⟨hD2, hD1, fun s _ h => by rw [hD0 s h, ← hq]; exact .init, fun h => by cases h⟩ ?_
    rintro ⟨D, b⟩ d fr hfr ⟨i1, i2, i3, i4⟩
    simp only [updS, deadS, List.set_cons_succ, List.set_cons_zero, lint] at hfr
    subst hfr
    (try dsimp only)
    cases b with
    | false =>
      have hDe : D = reD o := reD_eq h0 (by omega) (by rw [hq, Int.toNat_natCast]; exact i2) i3 (i4 rfl)
      have hN := pf_numbers D (by omega)
      unfold iBools at hN
      rw [i1] at hN
      (repeat (first | (with_reducible first | refine AX_block ?_ | refine AX_skip ?_ | refine AX_exit ?_ | refine AX_ret ?_ | refine AX_ift ?_ | refine AX_iff ?_ | refine AX_seq_k (fun K hK => ?_) | refine ContX.use (by assumption) ?_) | simp only [thenX, inBlockX, if_true, if_false, reduceCtorEq]))
      (with_reducible refine AX_reg0 fun K hK => ?_); simp only [go_sem]
      (repeat (first | (first | ((first | (with_reducible refine XRes_op tyOK ?_ ?_) | ((with_reducible first | refine ADF_op tyOK ?_ ?_ ?_ | refine ADX_op tyOK ?_ ?_ ?_); (focus rfl)) | (with_reducible refine ADR_alloc1 tyOK ?_ ?_) | ((with_reducible refine ADR_free1 tyOK ?_ ?_ ?_); (focus rfl)) | ((with_reducible refine ADR_free0 tyOK ?_ ?_ ?_); (focus rfl)) | ((with_reducible refine ADR_read1 tyOK ?_ ?_ ?_); (focus rfl)) | (with_reducible refine ADR_chg1 tyOK ?_ ?_)); (focus (first | (with_reducible rfl) | ((simp (disch := omega) only [go_sem]); done))); simp (disch := omega) only [go_sem , flatR_s, flatR_k, flatR_n, flatR_r, hs1, hs2, hs3, hs4, hs5, hs6, hs7, rep_lb, List.length_set, List.length_nil, Nat.reduceLeDiff, Int.toNat_zero]; (first | (with_reducible refine XRes_id ?_) | (with_reducible refine ADF_id ?_) | (with_reducible refine ADR_id1 ?_) | (with_reducible refine ADX_id ?_))) | ((first | (with_reducible refine XRes_skip ?_ ?_) | (with_reducible refine ADF_skip (b := true) ?_ ?_) | (with_reducible refine ADX_skip ?_ ?_) | ((with_reducible refine ADR_skip1 ?_ ?_ ?_); (focus rfl))); (focus (first | rfl | ((simp (disch := omega) only [go_sem]); done))); (simp only [putL, List.set_cons_succ, List.set_cons_zero]))) | ((first | (with_reducible refine XRes_nil ?_) | (with_reducible refine ADF_nil ?_) | (with_reducible refine ADR_nil ?_) | (with_reducible refine ADX_nil ?_)); (first | refine hK _ ?_ | refine hK _ _ ?_); clear hK K)))
      (repeat (first | (with_reducible first | refine AX_block ?_ | refine AX_skip ?_ | refine AX_exit ?_ | refine AX_ret ?_ | refine AX_ift ?_ | refine AX_iff ?_ | refine AX_seq_k (fun K hK => ?_) | refine ContX.use (by assumption) ?_) | simp only [thenX, inBlockX, if_true, if_false, reduceCtorEq]))
      refine AX_freeze [1] [(5, .iv (iBools D))] (fun p hp => ?_) ?_
      · rw [List.mem_singleton.1 hp]; exact frz_lb2 (only_mk (by decide) rfl) i1.symm
      simp only [setN, updS, List.set_cons_succ, List.set_cons_zero]
      unfold iBools
      rw [i1]
      (refine Wk.o ?_; (repeat revert hK K); refine W92c7a ?_; (repeat intro K hK); refine ⟨?_⟩)
      (simp only [bodyX]; refine ⟨_, by simp only [aresults, aresult, XS.as, Try.results13, aload, go_sem, Option.bind_some]; rfl, ?_⟩)
      exact ⟨_, .same _ (.iv _), by rw [hres, hDe], trivial⟩
    | true =>
      (refine Wk.o ?_; (repeat revert hK K); refine W92c7a ?_; (repeat intro K hK); refine ⟨?_⟩)
      refine AX_wh (σ := Nat × List Bool × Bool) [28, 29, 30, 8, 31, 32, 33, 34, 35, 36, 37, 38, 39, 40, 41, 42, 43, 44, 45, 46, 47, 48] (fun (j, _, b) => [(27, lint j), (6, lt (.bool b))]) (fun (_, D, _) => [some ⟨24, [lt (.int .i64 n), lt (.int .i64 o.K), lt (.int .i64 q), .iv (iRws o.R)]⟩, some ⟨4, D.map lb⟩]) (fun _ => []) (fun (j, E, b) => j ≤ o.R.length ∧ E.length = n ∧ E.getD q false = true ∧ (∀ s, s < E.length → E.getD s false = true → obRe o (s : Int)) ∧ (b = false → ∀ i, i < j → E.getD (rwAt o.R i).s.toNat false = true → E.getD (rwAt o.R i).n.toNat false = true) ∧ cF E n + (if b = true then 1 else 0) ≤ cF D n) (fun (j, _, _) => o.R.length - j) (0, D, false) (fun d => by first | ((simp only [deadS, updS, List.set_cons_succ, List.set_cons_zero, lint, List.length_nil, List.length_cons]); done) | ((simp only [deadS, updS, List.set_cons_succ, List.set_cons_zero, lint, List.length_nil, List.length_cons]); rfl) | rfl) rfl rfl ⟨Nat.zero_le _, i1, i2, i3, fun _ i h => by omega, by simp⟩ ?_
      rintro ⟨j, E, b⟩ d2 fr hfr ⟨k0, k1, k2, k3, k4, k5⟩
      simp only [updS, deadS, List.set_cons_succ, List.set_cons_zero, lint] at hfr
      subst hfr
      (try dsimp only)
      by_cases hlt : j < o.R.length
      · obtain ⟨e1, e2, _⟩ := obErr_zero (herr j hlt)
        by_cases c1 : E.getD (rwAt o.R j).s.toNat false = true
        · by_cases c2 : E.getD (rwAt o.R j).n.toNat false = true
          · have hs4 := c1; have hs5 := c2
            (refine Wk.o ?_; (repeat revert hK K); refine W92c7a ?_; (repeat intro K hK); refine ⟨?_⟩)
            have j4 : b = false → ∀ i, i < j + 1 → E.getD (rwAt o.R i).s.toNat false = true → E.getD (rwAt o.R i).n.toNat false = true := fun hb i hi => by
              rcases Nat.lt_or_ge i j with h | h
              · exact k4 hb i h
              · rw [show i = j by omega]; exact fun _ => c2
            exact WRN [0, 1] (j + 1, E, b) ⟨by (first | omega | (dsimp only; omega) | (simp only; omega)), k1, k2, k3, j4, k5⟩ (by (first | omega | (dsimp only; omega) | (simp only; omega)))
          · have hs4 := c1
            have hs5 : E.getD (rwAt o.R j).n.toNat false = false := by simpa using c2
            have hcs := cF_set (D := E) (p := (rwAt o.R j).n.toNat) (by omega) hs5 n
            rw [if_pos (by omega)] at hcs
            have hsr : obRe o (rwAt o.R j).s := by
              have := k3 _ (by omega) c1
              rwa [Int.toNat_of_nonneg (by omega)] at this
            (refine Wk.o ?_; (repeat revert hK K); refine W92c7a ?_; (repeat intro K hK); refine ⟨?_⟩)
            have j4 : ∀ s, s < (E.set (rwAt o.R j).n.toNat true).length → (E.set (rwAt o.R j).n.toNat true).getD s false = true → obRe o (s : Int) := fun s hs h => by
              rcases getD_setT.1 h with ⟨h1, _⟩ | h1
              · have := obRe.step j hlt hsr
                rw [h1, Int.toNat_of_nonneg (by omega)]; exact this
              · exact k3 s (by simpa using hs) h1
            have j5 : cF (E.set (rwAt o.R j).n.toNat true) n + (if true = true then 1 else 0) ≤ cF D n := by
              rw [if_pos rfl]; omega
            exact WRN [0, 1] (j + 1, E.set (rwAt o.R j).n.toNat true, true) ⟨by (first | omega | (dsimp only; omega) | (simp only; omega)), by simp [k1], getD_setT.2 (.inr k2), j4, (fun hb => by cases hb), j5⟩ (by (first | omega | (dsimp only; omega) | (simp only; omega)))
        · have hs4 : E.getD (rwAt o.R j).s.toNat false = false := by simpa using c1
          (refine Wk.o ?_; (repeat revert hK K); refine W92c7a ?_; (repeat intro K hK); refine ⟨?_⟩)
          have j4 : b = false → ∀ i, i < j + 1 → E.getD (rwAt o.R i).s.toNat false = true → E.getD (rwAt o.R i).n.toNat false = true := fun hb i hi => by
            rcases Nat.lt_or_ge i j with h | h
            · exact k4 hb i h
            · rw [show i = j by omega]; exact fun h => absurd h c1
          exact WRN [0, 1] (j + 1, E, b) ⟨by (first | omega | (dsimp only; omega) | (simp only; omega)), k1, k2, k3, j4, k5⟩ (by (first | omega | (dsimp only; omega) | (simp only; omega)))
      · obtain rfl : j = o.R.length := by omega
        (refine Wk.o ?_; (repeat revert hK K); refine W92c7a ?_; (repeat intro K hK); refine ⟨?_⟩)
        exact whx_end (E, b) ⟨k1, k2, k3, k4⟩ (by
          dsimp only
          cases b <;> simp at k5 ⊢ <;> omega) rfl (by first | rfl | (simp (disch := omega) only [go_sem, lint])) (fun d => by first | ((simp only [deadS, updS, List.set_cons_succ, List.set_cons_zero, lint, List.length_nil, List.length_cons]); done) | ((simp only [deadS, updS, List.set_cons_succ, List.set_cons_zero, lint, List.length_nil, List.length_cons]); rfl) | rfl)
  · have hres : reL o = [] := by unfold reL; rw [if_neg h0]
    generalize obE o = e at *
    (refine SF_of_bodyX (aload tt) (aload_ok tyOK) Try.func13 rfl (by kernel_rfl) ?_; simp only [Try.ntmps13, List.length_cons, List.length_nil, Nat.reduceAdd, Nat.reduceSub, List.replicate_succ, List.replicate_zero, List.cons_append, List.nil_append])
    (refine Wk.o ?_; (repeat revert hK K); refine W92c7a ?_; (repeat intro K hK); refine ⟨?_⟩)
    (simp only [bodyX]; refine ⟨_, by simp only [aresults, aresult, XS.as, Try.results13, aload, go_sem, Option.bind_some]; rfl, ?_⟩)
    exact ⟨_, snap_nil, by rw [hres], trivial⟩
end Go.Proofs.Ytpfbcjlgbdbcpaa
