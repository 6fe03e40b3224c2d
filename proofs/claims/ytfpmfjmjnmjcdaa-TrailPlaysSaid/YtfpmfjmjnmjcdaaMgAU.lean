import Derived.Test.YtfpmfjmjnmjcdaaMgAT
import Derived.Test.YtfpmfjmjnmjcdaaMgAP
import Derived.Test.YtfpmfjmjnmjcdaaMgAQ
import Derived.Test.YtfpmfjmjnmjcdaaMgAR
namespace Go.Proofs.Ytfpmfjmjnmjcdaa
open Go.RowKit
set_option linter.unusedVariables false
set_option linter.unusedSimpArgs false
def mayE (n : Nat) (L : List Int) (x : Int) : Int := if lvar x ≠ 0 ∧ lvar x ≤ n then (if tv L x = 0 then 0 else 21) else 10
theorem Wb087a {A B : Prop} (h9 : B) (w : B → A := by (intro h9; (repeat intro K hK); refine ⟨?_⟩; (repeat (first | (first | (with_reducible first | refine AX_block ?_ | refine AX_skip ?_ | refine AX_exit ?_ | refine AX_ret ?_ | refine AX_ift ?_ | refine AX_iff ?_ | refine AX_seq_k (fun K hK => ?_) | refine ContX.use (by assumption) ?_) | simp only [thenX, inBlockX, if_true, if_false, reduceCtorEq]) | (first | ((first | (with_reducible refine XRes_op tyOK ?_ ?_) | ((with_reducible first | refine ADF_op tyOK ?_ ?_ ?_ | refine ADX_op tyOK ?_ ?_ ?_); (focus rfl)) | (with_reducible refine ADR_alloc1 tyOK ?_ ?_) | ((with_reducible refine ADR_free1 tyOK ?_ ?_ ?_); (focus rfl)) | ((with_reducible refine ADR_free0 tyOK ?_ ?_ ?_); (focus rfl)) | ((with_reducible refine ADR_read1 tyOK ?_ ?_ ?_); (focus rfl)) | (with_reducible refine ADR_chg1 tyOK ?_ ?_)); (focus (first | (with_reducible rfl) | ((simp (disch := omega) only [go_sem]); done))); simp (disch := omega) only [go_sem , hs1, hs2, hs3, hs4, hs5, hs6, hs7, hs8, Int.toNat_zero, Int.toNat_one, List.length_nil]; (first | (with_reducible refine XRes_id ?_) | (with_reducible refine ADF_id ?_) | (with_reducible refine ADR_id1 ?_) | (with_reducible refine ADX_id ?_))) | ((first | (with_reducible refine XRes_skip ?_ ?_) | (with_reducible refine ADF_skip (b := true) ?_ ?_) | (with_reducible refine ADX_skip ?_ ?_) | ((with_reducible refine ADR_skip1 ?_ ?_ ?_); (focus rfl))); (focus (first | rfl | ((simp (disch := omega) only [go_sem]); done))); (simp only [putL, List.set_cons_succ, List.set_cons_zero]))) | ((first | (with_reducible refine XRes_nil ?_) | (with_reducible refine ADF_nil ?_) | (with_reducible refine ADR_nil ?_) | (with_reducible refine ADX_nil ?_)); (first | refine hK _ ?_ | refine hK _ _ ?_); clear hK K) | ((first | (with_reducible refine AX_reg0 fun K hK => ?_) | (refine AX_drawG1 tyOK (by kernel_rfl) (by rfl) (by kernel_rfl) fun K hK => ?_) | (refine AX_drawT tyOK (by kernel_rfl) (by decide +kernel) fun K hK => ?_) | (refine AX_drawM1 (by kernel_rfl) (by rfl) (by decide +kernel) fun K hK => ?_) | (refine AX_drawA tyOK (by kernel_rfl) (by decide +kernel) fun K hK => ?_)); (first | simp only [go_sem, preN, effOp, runF, alM, mapOp, alD2, kdOf2, Bool.not_false, Bool.not_true, reduceCtorEq] | simp only [go_sem, preN, effOp, runF, alM, mapOp, Bool.not_false, Bool.not_true, reduceCtorEq] | simp only [go_sem, preN, effOp, runF, alD2, kdOf2, Bool.not_false, Bool.not_true, reduceCtorEq] | simp only [go_sem, alD2, kdOf2, Bool.not_false, Bool.not_true, reduceCtorEq] | simp only [go_sem, preN, effOp, runF, Bool.not_false, Bool.not_true, reduceCtorEq] | simp only [go_sem])) | (first | (first | refine XTL (by rfl) hV ?_ | refine ATL tyOK (by rfl) hV ?_ | refine XTL (by rfl) hI ?_ | refine ATL tyOK (by rfl) hI ?_) | ((refine XRes_fn (by rfl) hC ?_); (rintro r H' ⟨rfl, rfl⟩); (simp only [putL, List.set_cons_succ, List.set_cons_zero])) | ((refine XRes_slot (by rfl) (by rfl) hS ?_); (rintro r H' ⟨rfl, rfl⟩); (simp only [putL, List.set_cons_succ, List.set_cons_zero]))))); refine Wk.o ?_; (repeat revert hK K); exact h9)) : A := w h9
set_option maxRecDepth 100000 in
set_option maxHeartbeats 2000000 in
theorem pf_tmay {n : Nat} {H : AHeap} {q1 q2 : Nat} {L St Of Vl lv rs : List Int} (hH : TrAt n H q1 q2 L St Of Vl) (hT : TrS n L St Of Vl lv rs) (x : Int) : SF Try.prog 40 [.optr 2 0, lt (.int .i64 x)] H fun r H' => r = lt (.int .i64 (mayE n L x)) ∧ H' = H := by
  have hs1 := trivial; have hs2 := trivial; have hs3 := trivial; have hs4 := trivial; have hs5 := trivial; have hs6 := trivial; have hs7 := trivial; have hs8 := trivial
  have hC := trivial; have hS := trivial; have hV := trivial; have hI := trivial
  have hs2 := hH.h2
  have hI := pf_LIndex x
  have hC := pf_tValue hH hT x
  have hvl := hT.vl
  have hn := hT.n1
  unfold trV at hC
  unfold mayE
  by_cases h1 : lvar x ≠ 0 ∧ lvar x ≤ n
  · rw [if_pos h1] at hC ⊢
    obtain ⟨e1, e2⟩ := lix h1.1 h1.2
    rw [e1] at hI
    generalize vix x = i at *
    by_cases h2 : tv L x = 0
    · rw [if_pos h2]
      rw [h2] at hC
      (refine SF_of_bodyX (aload tt) (aload_ok tyOK) Try.func40 rfl (by kernel_rfl) ?_; simp only [Try.ntmps40, List.length_cons, List.length_nil, Nat.reduceAdd, Nat.reduceSub, List.replicate_succ, List.replicate_zero, List.cons_append, List.nil_append])
      (refine Wk.o ?_; (repeat revert hK K); refine Wb087a ?_; (repeat intro K hK); refine ⟨?_⟩)
      (simp only [bodyX]; refine ⟨_, by simp only [aresults, aresult, XS.as, Try.results40, aload, go_sem, Option.bind_some]; rfl, ?_⟩)
      exact ⟨rfl, trivial⟩
    · rw [if_neg h2]
      generalize tv L x = y at *
      (refine SF_of_bodyX (aload tt) (aload_ok tyOK) Try.func40 rfl (by kernel_rfl) ?_; simp only [Try.ntmps40, List.length_cons, List.length_nil, Nat.reduceAdd, Nat.reduceSub, List.replicate_succ, List.replicate_zero, List.cons_append, List.nil_append])
      (refine Wk.o ?_; (repeat revert hK K); refine Wb087a ?_; (repeat intro K hK); refine ⟨?_⟩)
      (simp only [bodyX]; refine ⟨_, by simp only [aresults, aresult, XS.as, Try.results40, aload, go_sem, Option.bind_some]; rfl, ?_⟩)
      exact ⟨rfl, trivial⟩
  · rw [if_neg h1] at hC ⊢
    have hno := lix_no h1
    have hlb := lindex_bd x
    generalize lindex x = i at *
    by_cases h2 : i < 0
    · (refine SF_of_bodyX (aload tt) (aload_ok tyOK) Try.func40 rfl (by kernel_rfl) ?_; simp only [Try.ntmps40, List.length_cons, List.length_nil, Nat.reduceAdd, Nat.reduceSub, List.replicate_succ, List.replicate_zero, List.cons_append, List.nil_append])
      (refine Wk.o ?_; (repeat revert hK K); refine Wb087a ?_; (repeat intro K hK); refine ⟨?_⟩)
      (simp only [bodyX]; refine ⟨_, by simp only [aresults, aresult, XS.as, Try.results40, aload, go_sem, Option.bind_some]; rfl, ?_⟩)
      exact ⟨rfl, trivial⟩
    · (refine SF_of_bodyX (aload tt) (aload_ok tyOK) Try.func40 rfl (by kernel_rfl) ?_; simp only [Try.ntmps40, List.length_cons, List.length_nil, Nat.reduceAdd, Nat.reduceSub, List.replicate_succ, List.replicate_zero, List.cons_append, List.nil_append])
      (refine Wk.o ?_; (repeat revert hK K); refine Wb087a ?_; (repeat intro K hK); refine ⟨?_⟩)
      (simp only [bodyX]; refine ⟨_, by simp only [aresults, aresult, XS.as, Try.results40, aload, go_sem, Option.bind_some]; rfl, ?_⟩)
      exact ⟨rfl, trivial⟩
set_option maxRecDepth 100000 in
set_option maxHeartbeats 2000000 in
theorem pf_tmay0 (H : AHeap) (x : Int) : SF Try.prog 40 [lt (.pointer none), lt (.int .i64 x)] H fun r H' => r = lt (.int .i64 1) ∧ H' = H := by
  have hs1 := trivial; have hs2 := trivial; have hs3 := trivial; have hs4 := trivial; have hs5 := trivial; have hs6 := trivial; have hs7 := trivial; have hs8 := trivial
  have hC := trivial; have hS := trivial; have hV := trivial; have hI := trivial
  (refine SF_of_bodyX (aload tt) (aload_ok tyOK) Try.func40 rfl (by kernel_rfl) ?_; simp only [Try.ntmps40, List.length_cons, List.length_nil, Nat.reduceAdd, Nat.reduceSub, List.replicate_succ, List.replicate_zero, List.cons_append, List.nil_append])
  (refine Wk.o ?_; (repeat revert hK K); refine Wb087a ?_; (repeat intro K hK); refine ⟨?_⟩)
  (simp only [bodyX]; refine ⟨_, by simp only [aresults, aresult, XS.as, Try.results40, aload, go_sem, Option.bind_some]; rfl, ?_⟩)
  exact ⟨rfl, trivial⟩
set_option maxRecDepth 100000 in
set_option maxHeartbeats 2000000 in
theorem pf_levelOf {n : Nat} {H : AHeap} {q1 q2 : Nat} {L St Of Vl lv rs : List Int} (hH : TrAt n H q1 q2 L St Of Vl) (hT : TrS n L St Of Vl lv rs) (v : Int) (h1 : 1 ≤ v) (h2 : v ≤ n) : SF Try.prog 35 [.optr 2 0, lt (.int .i64 v)] H fun r H' => r = lt (.int .i64 (Of.getD (v.toNat * 3 + 0) 0)) ∧ H' = H := by
  have hs1 := trivial; have hs2 := trivial; have hs3 := trivial; have hs4 := trivial; have hs5 := trivial; have hs6 := trivial; have hs7 := trivial; have hs8 := trivial
  have hC := trivial; have hS := trivial; have hV := trivial; have hI := trivial
  have hs1 := hH.h0; have hs2 := hH.h2
  have hofl := hT.ofl
  have hn := hT.n1
  (refine SF_of_bodyX (aload tt) (aload_ok tyOK) Try.func35 rfl (by kernel_rfl) ?_; simp only [Try.ntmps35, List.length_cons, List.length_nil, Nat.reduceAdd, Nat.reduceSub, List.replicate_succ, List.replicate_zero, List.cons_append, List.nil_append])
  (refine Wk.o ?_; (repeat revert hK K); refine Wb087a ?_; (repeat intro K hK); refine ⟨?_⟩)
  (simp only [bodyX]; refine ⟨_, by simp only [aresults, aresult, XS.as, Try.results35, aload, go_sem, Option.bind_some]; rfl, ?_⟩)
  exact ⟨rfl, trivial⟩
set_option maxRecDepth 100000 in
set_option maxHeartbeats 2000000 in
theorem pf_reasonOf {n : Nat} {H : AHeap} {q1 q2 : Nat} {L St Of Vl lv rs : List Int} (hH : TrAt n H q1 q2 L St Of Vl) (hT : TrS n L St Of Vl lv rs) (v : Int) (h1 : 1 ≤ v) (h2 : v ≤ n) : SF Try.prog 36 [.optr 2 0, lt (.int .i64 v)] H fun r H' => r = lt (.int .i64 (Of.getD (v.toNat * 3 + 1) 0)) ∧ H' = H := by
  have hs1 := trivial; have hs2 := trivial; have hs3 := trivial; have hs4 := trivial; have hs5 := trivial; have hs6 := trivial; have hs7 := trivial; have hs8 := trivial
  have hC := trivial; have hS := trivial; have hV := trivial; have hI := trivial
  have hs1 := hH.h0; have hs2 := hH.h2
  have hofl := hT.ofl
  have hn := hT.n1
  (refine SF_of_bodyX (aload tt) (aload_ok tyOK) Try.func36 rfl (by kernel_rfl) ?_; simp only [Try.ntmps36, List.length_cons, List.length_nil, Nat.reduceAdd, Nat.reduceSub, List.replicate_succ, List.replicate_zero, List.cons_append, List.nil_append])
  (refine Wk.o ?_; (repeat revert hK K); refine Wb087a ?_; (repeat intro K hK); refine ⟨?_⟩)
  (simp only [bodyX]; refine ⟨_, by simp only [aresults, aresult, XS.as, Try.results36, aload, go_sem, Option.bind_some]; rfl, ?_⟩)
  exact ⟨rfl, trivial⟩
set_option maxRecDepth 100000 in
set_option maxHeartbeats 2000000 in
theorem pf_placeOf {n : Nat} {H : AHeap} {q1 q2 : Nat} {L St Of Vl lv rs : List Int} (hH : TrAt n H q1 q2 L St Of Vl) (hT : TrS n L St Of Vl lv rs) (v : Int) (h1 : 1 ≤ v) (h2 : v ≤ n) : SF Try.prog 39 [.optr 2 0, lt (.int .i64 v)] H fun r H' => r = lt (.int .i64 (Of.getD (v.toNat * 3 + 2) 0)) ∧ H' = H := by
  have hs1 := trivial; have hs2 := trivial; have hs3 := trivial; have hs4 := trivial; have hs5 := trivial; have hs6 := trivial; have hs7 := trivial; have hs8 := trivial
  have hC := trivial; have hS := trivial; have hV := trivial; have hI := trivial
  have hs1 := hH.h0; have hs2 := hH.h2
  have hofl := hT.ofl
  have hn := hT.n1
  (refine SF_of_bodyX (aload tt) (aload_ok tyOK) Try.func39 rfl (by kernel_rfl) ?_; simp only [Try.ntmps39, List.length_cons, List.length_nil, Nat.reduceAdd, Nat.reduceSub, List.replicate_succ, List.replicate_zero, List.cons_append, List.nil_append])
  (refine Wk.o ?_; (repeat revert hK K); refine Wb087a ?_; (repeat intro K hK); refine ⟨?_⟩)
  (simp only [bodyX]; refine ⟨_, by simp only [aresults, aresult, XS.as, Try.results39, aload, go_sem, Option.bind_some]; rfl, ?_⟩)
  exact ⟨rfl, trivial⟩
def trLevel (n : Nat) (L Of : List Int) (v : Int) : Int := if 1 ≤ v ∧ v ≤ n ∧ tv L v ≠ 0 then Of.getD (v.toNat * 3 + 0) 0 else -1
set_option maxRecDepth 100000 in
set_option maxHeartbeats 2000000 in
theorem pf_askLevel {n : Nat} {H : AHeap} {q1 q2 : Nat} {L St Of Vl lv rs : List Int} (hH : TrAt n H q1 q2 L St Of Vl) (hT : TrS n L St Of Vl lv rs) (v : Int) : SF Try.prog 34 [.optr 2 0, lt (.int .i64 v), .fn 35 [.optr 2 0] []] H fun r H' => r = lt (.int .i64 (trLevel n L Of v)) ∧ H' = H := by
  have hs1 := trivial; have hs2 := trivial; have hs3 := trivial; have hs4 := trivial; have hs5 := trivial; have hs6 := trivial; have hs7 := trivial; have hs8 := trivial
  have hC := trivial; have hS := trivial; have hV := trivial; have hI := trivial
  have hC := pf_tValue hH hT v
  have hn := hT.n1
  have hlv : 1 ≤ v → v ≤ n → lvar v = v := fun h1 h2 => by unfold lvar; rw [if_pos (by omega)]
  unfold trLevel
  by_cases h1 : 1 ≤ v
  · by_cases h2 : v ≤ n
    · have e : trV n L v = tv L v := by unfold trV; rw [hlv h1 h2, if_pos (by omega)]
      rw [e] at hC
      by_cases h3 : tv L v = 0
      · rw [h3] at hC
        rw [if_neg (fun h => h.2.2 h3)]
        (refine SF_of_bodyX (aload tt) (aload_ok tyOK) Try.func34 rfl (by kernel_rfl) ?_; simp only [Try.ntmps34, List.length_cons, List.length_nil, Nat.reduceAdd, Nat.reduceSub, List.replicate_succ, List.replicate_zero, List.cons_append, List.nil_append])
        (refine Wk.o ?_; (repeat revert hK K); refine Wb087a ?_; (repeat intro K hK); refine ⟨?_⟩)
        (simp only [bodyX]; refine ⟨_, by simp only [aresults, aresult, XS.as, Try.results34, aload, go_sem, Option.bind_some]; rfl, ?_⟩)
        exact ⟨rfl, trivial⟩
      · rw [if_pos ⟨h1, h2, h3⟩]
        have hS := pf_levelOf hH hT v h1 h2
        generalize tv L v = y at *
        (refine SF_of_bodyX (aload tt) (aload_ok tyOK) Try.func34 rfl (by kernel_rfl) ?_; simp only [Try.ntmps34, List.length_cons, List.length_nil, Nat.reduceAdd, Nat.reduceSub, List.replicate_succ, List.replicate_zero, List.cons_append, List.nil_append])
        (refine Wk.o ?_; (repeat revert hK K); refine Wb087a ?_; (repeat intro K hK); refine ⟨?_⟩)
        (simp only [bodyX]; refine ⟨_, by simp only [aresults, aresult, XS.as, Try.results34, aload, go_sem, Option.bind_some]; rfl, ?_⟩)
        exact ⟨rfl, trivial⟩
    · have e : trV n L v = 0 := by
        unfold trV
        rw [if_neg]
        rintro ⟨h3, h4⟩
        have : lvar v = v := by unfold lvar at h3 h4 ⊢; split <;> (try split at h4) <;> omega
        omega
      rw [e] at hC
      rw [if_neg (fun h => h2 h.2.1)]
      (refine SF_of_bodyX (aload tt) (aload_ok tyOK) Try.func34 rfl (by kernel_rfl) ?_; simp only [Try.ntmps34, List.length_cons, List.length_nil, Nat.reduceAdd, Nat.reduceSub, List.replicate_succ, List.replicate_zero, List.cons_append, List.nil_append])
      (refine Wk.o ?_; (repeat revert hK K); refine Wb087a ?_; (repeat intro K hK); refine ⟨?_⟩)
      (simp only [bodyX]; refine ⟨_, by simp only [aresults, aresult, XS.as, Try.results34, aload, go_sem, Option.bind_some]; rfl, ?_⟩)
      exact ⟨rfl, trivial⟩
  · rw [if_neg (fun h => h1 h.1)]
    (refine SF_of_bodyX (aload tt) (aload_ok tyOK) Try.func34 rfl (by kernel_rfl) ?_; simp only [Try.ntmps34, List.length_cons, List.length_nil, Nat.reduceAdd, Nat.reduceSub, List.replicate_succ, List.replicate_zero, List.cons_append, List.nil_append])
    (refine Wk.o ?_; (repeat revert hK K); refine Wb087a ?_; (repeat intro K hK); refine ⟨?_⟩)
    (simp only [bodyX]; refine ⟨_, by simp only [aresults, aresult, XS.as, Try.results34, aload, go_sem, Option.bind_some]; rfl, ?_⟩)
    exact ⟨rfl, trivial⟩
set_option maxRecDepth 100000 in
set_option maxHeartbeats 2000000 in
theorem pf_tLevel {n : Nat} {H : AHeap} {q1 q2 : Nat} {L St Of Vl lv rs : List Int} (hH : TrAt n H q1 q2 L St Of Vl) (hT : TrS n L St Of Vl lv rs) (v : Int) : SF Try.prog 15 [.optr 2 0, lt (.int .i64 v)] H fun r H' => r = lt (.int .i64 (trLevel n L Of v)) ∧ H' = H := by
  have hs1 := trivial; have hs2 := trivial; have hs3 := trivial; have hs4 := trivial; have hs5 := trivial; have hs6 := trivial; have hs7 := trivial; have hs8 := trivial
  have hC := trivial; have hS := trivial; have hV := trivial; have hI := trivial
  have hC := pf_askLevel hH hT v
  (refine SF_of_bodyX (aload tt) (aload_ok tyOK) Try.func15 rfl (by kernel_rfl) ?_; simp only [Try.ntmps15, List.length_cons, List.length_nil, Nat.reduceAdd, Nat.reduceSub, List.replicate_succ, List.replicate_zero, List.cons_append, List.nil_append])
  (refine Wk.o ?_; (repeat revert hK K); refine Wb087a ?_; (repeat intro K hK); refine ⟨?_⟩)
  (simp only [bodyX]; refine ⟨_, by simp only [aresults, aresult, XS.as, Try.results15, aload, go_sem, Option.bind_some]; rfl, ?_⟩)
  exact ⟨rfl, trivial⟩
def trReason (n : Nat) (L Of : List Int) (v : Int) : Int := if 1 ≤ v ∧ v ≤ n ∧ tv L v ≠ 0 then Of.getD (v.toNat * 3 + 1) 0 else -1
set_option maxRecDepth 100000 in
set_option maxHeartbeats 2000000 in
theorem pf_askReason {n : Nat} {H : AHeap} {q1 q2 : Nat} {L St Of Vl lv rs : List Int} (hH : TrAt n H q1 q2 L St Of Vl) (hT : TrS n L St Of Vl lv rs) (v : Int) : SF Try.prog 34 [.optr 2 0, lt (.int .i64 v), .fn 36 [.optr 2 0] []] H fun r H' => r = lt (.int .i64 (trReason n L Of v)) ∧ H' = H := by
  have hs1 := trivial; have hs2 := trivial; have hs3 := trivial; have hs4 := trivial; have hs5 := trivial; have hs6 := trivial; have hs7 := trivial; have hs8 := trivial
  have hC := trivial; have hS := trivial; have hV := trivial; have hI := trivial
  have hC := pf_tValue hH hT v
  have hn := hT.n1
  have hlv : 1 ≤ v → v ≤ n → lvar v = v := fun h1 h2 => by unfold lvar; rw [if_pos (by omega)]
  unfold trReason
  by_cases h1 : 1 ≤ v
  · by_cases h2 : v ≤ n
    · have e : trV n L v = tv L v := by unfold trV; rw [hlv h1 h2, if_pos (by omega)]
      rw [e] at hC
      by_cases h3 : tv L v = 0
      · rw [h3] at hC
        rw [if_neg (fun h => h.2.2 h3)]
        (refine SF_of_bodyX (aload tt) (aload_ok tyOK) Try.func34 rfl (by kernel_rfl) ?_; simp only [Try.ntmps34, List.length_cons, List.length_nil, Nat.reduceAdd, Nat.reduceSub, List.replicate_succ, List.replicate_zero, List.cons_append, List.nil_append])
        (refine Wk.o ?_; (repeat revert hK K); refine Wb087a ?_; (repeat intro K hK); refine ⟨?_⟩)
        (simp only [bodyX]; refine ⟨_, by simp only [aresults, aresult, XS.as, Try.results34, aload, go_sem, Option.bind_some]; rfl, ?_⟩)
        exact ⟨rfl, trivial⟩
      · rw [if_pos ⟨h1, h2, h3⟩]
        have hS := pf_reasonOf hH hT v h1 h2
        generalize tv L v = y at *
        (refine SF_of_bodyX (aload tt) (aload_ok tyOK) Try.func34 rfl (by kernel_rfl) ?_; simp only [Try.ntmps34, List.length_cons, List.length_nil, Nat.reduceAdd, Nat.reduceSub, List.replicate_succ, List.replicate_zero, List.cons_append, List.nil_append])
        (refine Wk.o ?_; (repeat revert hK K); refine Wb087a ?_; (repeat intro K hK); refine ⟨?_⟩)
        (simp only [bodyX]; refine ⟨_, by simp only [aresults, aresult, XS.as, Try.results34, aload, go_sem, Option.bind_some]; rfl, ?_⟩)
        exact ⟨rfl, trivial⟩
    · have e : trV n L v = 0 := by
        unfold trV
        rw [if_neg]
        rintro ⟨h3, h4⟩
        have : lvar v = v := by unfold lvar at h3 h4 ⊢; split <;> (try split at h4) <;> omega
        omega
      rw [e] at hC
      rw [if_neg (fun h => h2 h.2.1)]
      (refine SF_of_bodyX (aload tt) (aload_ok tyOK) Try.func34 rfl (by kernel_rfl) ?_; simp only [Try.ntmps34, List.length_cons, List.length_nil, Nat.reduceAdd, Nat.reduceSub, List.replicate_succ, List.replicate_zero, List.cons_append, List.nil_append])
      (refine Wk.o ?_; (repeat revert hK K); refine Wb087a ?_; (repeat intro K hK); refine ⟨?_⟩)
      (simp only [bodyX]; refine ⟨_, by simp only [aresults, aresult, XS.as, Try.results34, aload, go_sem, Option.bind_some]; rfl, ?_⟩)
      exact ⟨rfl, trivial⟩
  · rw [if_neg (fun h => h1 h.1)]
    (refine SF_of_bodyX (aload tt) (aload_ok tyOK) Try.func34 rfl (by kernel_rfl) ?_; simp only [Try.ntmps34, List.length_cons, List.length_nil, Nat.reduceAdd, Nat.reduceSub, List.replicate_succ, List.replicate_zero, List.cons_append, List.nil_append])
    (refine Wk.o ?_; (repeat revert hK K); refine Wb087a ?_; (repeat intro K hK); refine ⟨?_⟩)
    (simp only [bodyX]; refine ⟨_, by simp only [aresults, aresult, XS.as, Try.results34, aload, go_sem, Option.bind_some]; rfl, ?_⟩)
    exact ⟨rfl, trivial⟩
set_option maxRecDepth 100000 in
set_option maxHeartbeats 2000000 in
theorem pf_tReason {n : Nat} {H : AHeap} {q1 q2 : Nat} {L St Of Vl lv rs : List Int} (hH : TrAt n H q1 q2 L St Of Vl) (hT : TrS n L St Of Vl lv rs) (v : Int) : SF Try.prog 16 [.optr 2 0, lt (.int .i64 v)] H fun r H' => r = lt (.int .i64 (trReason n L Of v)) ∧ H' = H := by
  have hs1 := trivial; have hs2 := trivial; have hs3 := trivial; have hs4 := trivial; have hs5 := trivial; have hs6 := trivial; have hs7 := trivial; have hs8 := trivial
  have hC := trivial; have hS := trivial; have hV := trivial; have hI := trivial
  have hC := pf_askReason hH hT v
  (refine SF_of_bodyX (aload tt) (aload_ok tyOK) Try.func16 rfl (by kernel_rfl) ?_; simp only [Try.ntmps16, List.length_cons, List.length_nil, Nat.reduceAdd, Nat.reduceSub, List.replicate_succ, List.replicate_zero, List.cons_append, List.nil_append])
  (refine Wk.o ?_; (repeat revert hK K); refine Wb087a ?_; (repeat intro K hK); refine ⟨?_⟩)
  (simp only [bodyX]; refine ⟨_, by simp only [aresults, aresult, XS.as, Try.results16, aload, go_sem, Option.bind_some]; rfl, ?_⟩)
  exact ⟨rfl, trivial⟩
def trPlace (n : Nat) (L Of : List Int) (v : Int) : Int := if 1 ≤ v ∧ v ≤ n ∧ tv L v ≠ 0 then Of.getD (v.toNat * 3 + 2) 0 else -1
set_option maxRecDepth 100000 in
set_option maxHeartbeats 2000000 in
theorem pf_askPlace {n : Nat} {H : AHeap} {q1 q2 : Nat} {L St Of Vl lv rs : List Int} (hH : TrAt n H q1 q2 L St Of Vl) (hT : TrS n L St Of Vl lv rs) (v : Int) : SF Try.prog 34 [.optr 2 0, lt (.int .i64 v), .fn 39 [.optr 2 0] []] H fun r H' => r = lt (.int .i64 (trPlace n L Of v)) ∧ H' = H := by
  have hs1 := trivial; have hs2 := trivial; have hs3 := trivial; have hs4 := trivial; have hs5 := trivial; have hs6 := trivial; have hs7 := trivial; have hs8 := trivial
  have hC := trivial; have hS := trivial; have hV := trivial; have hI := trivial
  have hC := pf_tValue hH hT v
  have hn := hT.n1
  have hlv : 1 ≤ v → v ≤ n → lvar v = v := fun h1 h2 => by unfold lvar; rw [if_pos (by omega)]
  unfold trPlace
  by_cases h1 : 1 ≤ v
  · by_cases h2 : v ≤ n
    · have e : trV n L v = tv L v := by unfold trV; rw [hlv h1 h2, if_pos (by omega)]
      rw [e] at hC
      by_cases h3 : tv L v = 0
      · rw [h3] at hC
        rw [if_neg (fun h => h.2.2 h3)]
        (refine SF_of_bodyX (aload tt) (aload_ok tyOK) Try.func34 rfl (by kernel_rfl) ?_; simp only [Try.ntmps34, List.length_cons, List.length_nil, Nat.reduceAdd, Nat.reduceSub, List.replicate_succ, List.replicate_zero, List.cons_append, List.nil_append])
        (refine Wk.o ?_; (repeat revert hK K); refine Wb087a ?_; (repeat intro K hK); refine ⟨?_⟩)
        (simp only [bodyX]; refine ⟨_, by simp only [aresults, aresult, XS.as, Try.results34, aload, go_sem, Option.bind_some]; rfl, ?_⟩)
        exact ⟨rfl, trivial⟩
      · rw [if_pos ⟨h1, h2, h3⟩]
        have hS := pf_placeOf hH hT v h1 h2
        generalize tv L v = y at *
        (refine SF_of_bodyX (aload tt) (aload_ok tyOK) Try.func34 rfl (by kernel_rfl) ?_; simp only [Try.ntmps34, List.length_cons, List.length_nil, Nat.reduceAdd, Nat.reduceSub, List.replicate_succ, List.replicate_zero, List.cons_append, List.nil_append])
        (refine Wk.o ?_; (repeat revert hK K); refine Wb087a ?_; (repeat intro K hK); refine ⟨?_⟩)
        (simp only [bodyX]; refine ⟨_, by simp only [aresults, aresult, XS.as, Try.results34, aload, go_sem, Option.bind_some]; rfl, ?_⟩)
        exact ⟨rfl, trivial⟩
    · have e : trV n L v = 0 := by
        unfold trV
        rw [if_neg]
        rintro ⟨h3, h4⟩
        have : lvar v = v := by unfold lvar at h3 h4 ⊢; split <;> (try split at h4) <;> omega
        omega
      rw [e] at hC
      rw [if_neg (fun h => h2 h.2.1)]
      (refine SF_of_bodyX (aload tt) (aload_ok tyOK) Try.func34 rfl (by kernel_rfl) ?_; simp only [Try.ntmps34, List.length_cons, List.length_nil, Nat.reduceAdd, Nat.reduceSub, List.replicate_succ, List.replicate_zero, List.cons_append, List.nil_append])
      (refine Wk.o ?_; (repeat revert hK K); refine Wb087a ?_; (repeat intro K hK); refine ⟨?_⟩)
      (simp only [bodyX]; refine ⟨_, by simp only [aresults, aresult, XS.as, Try.results34, aload, go_sem, Option.bind_some]; rfl, ?_⟩)
      exact ⟨rfl, trivial⟩
  · rw [if_neg (fun h => h1 h.1)]
    (refine SF_of_bodyX (aload tt) (aload_ok tyOK) Try.func34 rfl (by kernel_rfl) ?_; simp only [Try.ntmps34, List.length_cons, List.length_nil, Nat.reduceAdd, Nat.reduceSub, List.replicate_succ, List.replicate_zero, List.cons_append, List.nil_append])
    (refine Wk.o ?_; (repeat revert hK K); refine Wb087a ?_; (repeat intro K hK); refine ⟨?_⟩)
    (simp only [bodyX]; refine ⟨_, by simp only [aresults, aresult, XS.as, Try.results34, aload, go_sem, Option.bind_some]; rfl, ?_⟩)
    exact ⟨rfl, trivial⟩
set_option maxRecDepth 100000 in
set_option maxHeartbeats 2000000 in
theorem pf_tPlace {n : Nat} {H : AHeap} {q1 q2 : Nat} {L St Of Vl lv rs : List Int} (hH : TrAt n H q1 q2 L St Of Vl) (hT : TrS n L St Of Vl lv rs) (v : Int) : SF Try.prog 19 [.optr 2 0, lt (.int .i64 v)] H fun r H' => r = lt (.int .i64 (trPlace n L Of v)) ∧ H' = H := by
  have hs1 := trivial; have hs2 := trivial; have hs3 := trivial; have hs4 := trivial; have hs5 := trivial; have hs6 := trivial; have hs7 := trivial; have hs8 := trivial
  have hC := trivial; have hS := trivial; have hV := trivial; have hI := trivial
  have hC := pf_askPlace hH hT v
  (refine SF_of_bodyX (aload tt) (aload_ok tyOK) Try.func19 rfl (by kernel_rfl) ?_; simp only [Try.ntmps19, List.length_cons, List.length_nil, Nat.reduceAdd, Nat.reduceSub, List.replicate_succ, List.replicate_zero, List.cons_append, List.nil_append])
  (refine Wk.o ?_; (repeat revert hK K); refine Wb087a ?_; (repeat intro K hK); refine ⟨?_⟩)
  (simp only [bodyX]; refine ⟨_, by simp only [aresults, aresult, XS.as, Try.results19, aload, go_sem, Option.bind_some]; rfl, ?_⟩)
  exact ⟨rfl, trivial⟩
set_option maxRecDepth 100000 in
set_option maxHeartbeats 2000000 in
theorem pf_tDepth {n : Nat} {H : AHeap} {q1 q2 : Nat} {L St Of Vl lv rs : List Int} (hH : TrAt n H q1 q2 L St Of Vl) (hT : TrS n L St Of Vl lv rs) (hSl : St.length ≤ 1000000) : SF Try.prog 17 [.optr 2 0] H fun r H' => r = lt (.int .i64 St.length) ∧ H' = H := by
  have hs1 := trivial; have hs2 := trivial; have hs3 := trivial; have hs4 := trivial; have hs5 := trivial; have hs6 := trivial; have hs7 := trivial; have hs8 := trivial
  have hC := trivial; have hS := trivial; have hV := trivial; have hI := trivial
  have hs2 := hH.h2
  (refine SF_of_bodyX (aload tt) (aload_ok tyOK) Try.func17 rfl (by kernel_rfl) ?_; simp only [Try.ntmps17, List.length_cons, List.length_nil, Nat.reduceAdd, Nat.reduceSub, List.replicate_succ, List.replicate_zero, List.cons_append, List.nil_append])
  (refine Wk.o ?_; (repeat revert hK K); refine Wb087a ?_; (repeat intro K hK); refine ⟨?_⟩)
  (simp only [bodyX]; refine ⟨_, by simp only [aresults, aresult, XS.as, Try.results17, aload, go_sem, Option.bind_some]; rfl, ?_⟩)
  exact ⟨rfl, trivial⟩
set_option maxRecDepth 100000 in
set_option maxHeartbeats 2000000 in
theorem pf_tOpen {n : Nat} {H : AHeap} {q1 q2 : Nat} {L St Of Vl lv rs : List Int} (hH : TrAt n H q1 q2 L St Of Vl) (hT : TrS n L St Of Vl lv rs) (hLl : L.length ≤ 1000000) : SF Try.prog 23 [.optr 2 0] H fun r H' => r = lt (.int .i64 ((n : Int) - L.length)) ∧ H' = H := by
  have hs1 := trivial; have hs2 := trivial; have hs3 := trivial; have hs4 := trivial; have hs5 := trivial; have hs6 := trivial; have hs7 := trivial; have hs8 := trivial
  have hC := trivial; have hS := trivial; have hV := trivial; have hI := trivial
  have hs2 := hH.h2
  have hvl := hT.vl
  have hn := hT.n1
  have hs3 : (Vl.length : Int).tdiv 2 = n := by rw [hvl, Int.tdiv_eq_ediv_of_nonneg (by omega)]; omega
  (refine SF_of_bodyX (aload tt) (aload_ok tyOK) Try.func23 rfl (by kernel_rfl) ?_; simp only [Try.ntmps23, List.length_cons, List.length_nil, Nat.reduceAdd, Nat.reduceSub, List.replicate_succ, List.replicate_zero, List.cons_append, List.nil_append])
  (refine Wk.o ?_; (repeat revert hK K); refine Wb087a ?_; (repeat intro K hK); refine ⟨?_⟩)
  (simp only [bodyX]; refine ⟨_, by simp only [aresults, aresult, XS.as, Try.results23, aload, go_sem, Option.bind_some]; rfl, ?_⟩)
  exact ⟨rfl, trivial⟩
set_option maxRecDepth 100000 in
set_option maxHeartbeats 2000000 in
theorem pf_tLits {n : Nat} {H : AHeap} {q1 q2 : Nat} {L St Of Vl lv rs : List Int} (hH : TrAt n H q1 q2 L St Of Vl) (hT : TrS n L St Of Vl lv rs) (hLl : L.length ≤ 1000000) : SF Try.prog 14 [.optr 2 0] H fun r H' => r = .osl H.length 0 L.length 1 ∧ H' = H ++ [some ⟨3, L.map lint⟩] := by
  have hs1 := trivial; have hs2 := trivial; have hs3 := trivial; have hs4 := trivial; have hs5 := trivial; have hs6 := trivial; have hs7 := trivial; have hs8 := trivial
  have hC := trivial; have hS := trivial; have hV := trivial; have hI := trivial
  have hs2 := hH.h2
  have hC := pf_CloneS L hLl hH.h3
  (refine SF_of_bodyX (aload tt) (aload_ok tyOK) Try.func14 rfl (by kernel_rfl) ?_; simp only [Try.ntmps14, List.length_cons, List.length_nil, Nat.reduceAdd, Nat.reduceSub, List.replicate_succ, List.replicate_zero, List.cons_append, List.nil_append])
  (refine Wk.o ?_; (repeat revert hK K); refine Wb087a ?_; (repeat intro K hK); refine ⟨?_⟩)
  (simp only [bodyX]; refine ⟨_, by simp only [aresults, aresult, XS.as, Try.results14, aload, go_sem, Option.bind_some]; rfl, ?_⟩)
  exact ⟨rfl, trivial⟩
set_option maxRecDepth 100000 in
set_option maxHeartbeats 2000000 in
theorem pf_tLevel0 (H : AHeap) (v : Int) : SF Try.prog 15 [lt (.pointer none), lt (.int .i64 1)] H fun r H' => r = lt (.int .i64 (-1)) ∧ H' = H := by
  have hs1 := trivial; have hs2 := trivial; have hs3 := trivial; have hs4 := trivial; have hs5 := trivial; have hs6 := trivial; have hs7 := trivial; have hs8 := trivial
  have hC := trivial; have hS := trivial; have hV := trivial; have hI := trivial
  have hV0 : SF Try.prog 20 [lt (.pointer none), lt (.int .i64 1)] H fun r H' => r = lt (.int .i64 0) ∧ H' = H := by
    (refine SF_of_bodyX (aload tt) (aload_ok tyOK) Try.func20 rfl (by kernel_rfl) ?_; simp only [Try.ntmps20, List.length_cons, List.length_nil, Nat.reduceAdd, Nat.reduceSub, List.replicate_succ, List.replicate_zero, List.cons_append, List.nil_append])
    (refine Wk.o ?_; (repeat revert hK K); refine Wb087a ?_; (repeat intro K hK); refine ⟨?_⟩)
    (simp only [bodyX]; refine ⟨_, by simp only [aresults, aresult, XS.as, Try.results20, aload, go_sem, Option.bind_some]; rfl, ?_⟩)
    exact ⟨rfl, trivial⟩
  have hA : SF Try.prog 34 [lt (.pointer none), lt (.int .i64 1), .fn 35 [lt (.pointer none)] []] H fun r H' => r = lt (.int .i64 (-1)) ∧ H' = H := by
    have hC := hV0
    (refine SF_of_bodyX (aload tt) (aload_ok tyOK) Try.func34 rfl (by kernel_rfl) ?_; simp only [Try.ntmps34, List.length_cons, List.length_nil, Nat.reduceAdd, Nat.reduceSub, List.replicate_succ, List.replicate_zero, List.cons_append, List.nil_append])
    (refine Wk.o ?_; (repeat revert hK K); refine Wb087a ?_; (repeat intro K hK); refine ⟨?_⟩)
    (simp only [bodyX]; refine ⟨_, by simp only [aresults, aresult, XS.as, Try.results34, aload, go_sem, Option.bind_some]; rfl, ?_⟩)
    exact ⟨rfl, trivial⟩
  have hC := hA
  (refine SF_of_bodyX (aload tt) (aload_ok tyOK) Try.func15 rfl (by kernel_rfl) ?_; simp only [Try.ntmps15, List.length_cons, List.length_nil, Nat.reduceAdd, Nat.reduceSub, List.replicate_succ, List.replicate_zero, List.cons_append, List.nil_append])
  (refine Wk.o ?_; (repeat revert hK K); refine Wb087a ?_; (repeat intro K hK); refine ⟨?_⟩)
  (simp only [bodyX]; refine ⟨_, by simp only [aresults, aresult, XS.as, Try.results15, aload, go_sem, Option.bind_some]; rfl, ?_⟩)
  exact ⟨rfl, trivial⟩
end Go.Proofs.Ytfpmfjmjnmjcdaa
namespace Go.Proofs.Ytfpmfjmjnmjcdaa
open Go.RowKit
set_option linter.unusedVariables false
set_option linter.unusedSimpArgs false
theorem lvar_neg (x : Int) : lvar (-x) = lvar x := by unfold lvar; split <;> split <;> (try split) <;> (try split) <;> omega
theorem vix_neg {x : Int} (h : lvar x ≠ 0) : (if vix x % 2 = 0 then vix x + 1 else vix x - 1) = vix (-x) := by
  have hb := lvar_bd x
  have hr := lvar_range h
  unfold vix lindex
  rw [lvar_neg, if_neg h, if_neg h]
  by_cases h1 : x < 0
  · rw [if_pos h1, if_neg (by omega), if_neg (by omega)]; omega
  · rw [if_neg h1, if_pos (by omega), if_pos (by omega)]; omega
theorem vix_inj {x y : Int} (hx : lvar x ≠ 0) (hy : lvar y ≠ 0) (h : vix x = vix y) : x = y := by
  have h1 := lvar_range hx; have h2 := lvar_range hy
  have b1 := lvar_bd x; have b2 := lvar_bd y
  have e : ∀ z : Int, lvar z ≠ 0 → lvar z = if z < 0 then -z else z := fun z hz => by have := lvar_range hz; unfold lvar; split <;> split <;> (try split) <;> omega
  have e1 := e x hx; have e2 := e y hy
  unfold vix lindex at h
  rw [if_neg hx, if_neg hy] at h
  split at h <;> split at h <;> split at e1 <;> split at e2 <;> omega
def of3 (Of : List Int) (v : Nat) (a b c : Int) : List Int := ((Of.set (v * 3) a).set (v * 3 + 1) b).set (v * 3 + 2) c
theorem of3_len (Of : List Int) (v : Nat) (a b c : Int) : (of3 Of v a b c).length = Of.length := by unfold of3; simp
theorem of3_splice (Of : List Int) (v : Nat) (a b c : Int) (h : v * 3 + 3 ≤ Of.length) : splice (Of.map lint) (v * 3) [lt (.int .i64 a), lt (.int .i64 b), lt (.int .i64 c)] = (of3 Of v a b c).map lint := by
  rw [splice_eq _ _ _ (by simpa using h)]
  apply List.ext_getElem?
  intro i
  unfold of3
  simp only [List.length_cons, List.length_nil, Nat.zero_add, Nat.reduceAdd, List.getElem?_map, List.getElem?_set, List.length_set]
  have hl : ((Of.map lint).take (v * 3)).length = v * 3 := by simp; omega
  by_cases h1 : i < v * 3
  · rw [List.append_assoc, List.getElem?_append_left (by rw [hl]; exact h1), List.getElem?_take_of_lt h1, List.getElem?_map, if_neg (by omega), if_neg (by omega), if_neg (by omega)]
  · rw [List.append_assoc, List.getElem?_append_right (by rw [hl]; omega), hl]
    by_cases h2 : i < v * 3 + 3
    · rcases (by omega : i = v * 3 ∨ i = v * 3 + 1 ∨ i = v * 3 + 2) with rfl | rfl | rfl
      · rw [if_neg (by omega), if_neg (by omega), if_pos rfl, if_pos (by omega), Nat.sub_self]; rfl
      · rw [if_neg (by omega), if_pos rfl, if_pos (by omega), show v * 3 + 1 - v * 3 = 1 by omega]; rfl
      · rw [if_pos rfl, if_pos (by omega), show v * 3 + 2 - v * 3 = 2 by omega]; rfl
    · rw [List.getElem?_append_right (by simp; omega), List.getElem?_drop, if_neg (by omega), if_neg (by omega), if_neg (by omega), List.getElem?_map]
      congr 2
      simp only [List.length_cons, List.length_nil]; omega
theorem of3_at (Of : List Int) (v : Nat) (a b c : Int) (i : Nat) (h : v * 3 + 3 ≤ Of.length) : (of3 Of v a b c).getD i 0 = if i = v * 3 + 2 then c else if i = v * 3 + 1 then b else if i = v * 3 then a else Of.getD i 0 := by
  unfold of3
  rw [getD_setI, getD_setI, getD_setI, List.length_set, List.length_set]
  by_cases h1 : i = v * 3 + 2
  · rw [if_pos ⟨h1.symm, by omega⟩, if_pos h1]
  · rw [if_neg (fun hh => h1 hh.1.symm), if_neg h1]
    by_cases h2 : i = v * 3 + 1
    · rw [if_pos ⟨h2.symm, by omega⟩, if_pos h2]
    · rw [if_neg (fun hh => h2 hh.1.symm), if_neg h2]
      by_cases h3 : i = v * 3
      · rw [if_pos ⟨h3.symm, by omega⟩, if_pos h3]
      · rw [if_neg (fun hh => h3 hh.1.symm), if_neg h3]
theorem snoc_at (L : List Int) (x : Int) (i : Nat) : (L ++ [x]).getD i 0 = if i < L.length then L.getD i 0 else if i = L.length then x else 0 := by
  rw [List.getD_eq_getElem?_getD, List.getD_eq_getElem?_getD]
  by_cases h : i < L.length
  · rw [if_pos h, List.getElem?_append_left h]
  · rw [if_neg h, List.getElem?_append_right (by omega)]
    by_cases h2 : i = L.length
    · rw [if_pos h2, h2, Nat.sub_self]; rfl
    · rw [if_neg h2, List.getElem?_eq_none (by simp; omega)]; rfl
theorem tv_zero {L : List Int} {x : Int} (h : tv L x = 0) : x ∉ L ∧ -x ∉ L := by
  unfold tv at h
  by_cases h1 : x ∈ L
  · rw [if_pos h1] at h; omega
  · rw [if_neg h1] at h
    by_cases h2 : -x ∈ L
    · rw [if_pos h2] at h; omega
    · exact ⟨h1, h2⟩
theorem lvar_pm {x y : Int} (hx : lvar x ≠ 0) (h : lvar x = lvar y) : x = y ∨ x = -y := by
  have h1 := lvar_range hx
  have h2 := lvar_range (h ▸ hx : lvar y ≠ 0)
  unfold lvar at h
  split at h <;> split at h <;> (try split at h) <;> (try split at h) <;> omega
theorem tr_put {n : Nat} {L St Of Vl lv rs : List Int} (h : TrS n L St Of Vl lv rs) {x : Int} (h1 : lvar x ≠ 0) (h2 : lvar x ≤ n) (h0 : tv L x = 0) (r : Int) : TrS n (L ++ [x]) St (of3 Of (lvar x).toNat St.length r L.length) ((Vl.set (vix x) 1).set (vix (-x)) (-1)) (lv ++ [(St.length : Int)]) (rs ++ [r]) := by
  have hb := lvar_bd x
  have hofl := h.ofl
  have hno := tv_zero h0
  have hxr := lvar_range h1
  have hnew : ∀ i, i < L.length → lvar (L.getD i 0) ≠ lvar x := fun i hi e => by
    rcases lvar_pm (h.rng i hi).1 e with e2 | e2
    · exact hno.1 (mem_getD.2 ⟨i, hi, e2⟩)
    · exact hno.2 (mem_getD.2 ⟨i, hi, e2⟩)
  have hofb : (lvar x).toNat * 3 + 3 ≤ Of.length := by omega
  refine ⟨h.n1, by simp [h.l1], by simp [h.l2], fun i hi => ?_, fun i j hi hj e => ?_, by simp [h.vl], fun y hy hyn => ?_, by rw [of3_len]; exact hofl, fun i hi => ?_, fun k hk => ?_, fun i hi => ?_⟩
  · rw [List.length_append, List.length_singleton] at hi
    rw [snoc_at]
    by_cases e : i < L.length
    · rw [if_pos e]; exact h.rng i e
    · rw [if_neg e, if_pos (by omega)]; exact ⟨h1, h2⟩
  · rw [List.length_append, List.length_singleton] at hi hj
    rw [snoc_at, snoc_at] at e
    by_cases a1 : i < L.length
    · rw [if_pos a1] at e
      by_cases a2 : j < L.length
      · rw [if_pos a2] at e; exact h.inj i j a1 a2 e
      · rw [if_neg a2, if_pos (by omega)] at e; exact absurd e (hnew i a1)
    · rw [if_neg a1, if_pos (by omega)] at e
      by_cases a2 : j < L.length
      · rw [if_pos a2] at e; exact absurd e.symm (hnew j a2)
      · omega
  · have hxl := (lix h1 h2).2
    have hnl := (lix (x := -x) (n := n) (by rw [lvar_neg]; exact h1) (by rw [lvar_neg]; exact h2)).2
    rw [getD_setI, getD_setI, List.length_set, h.vl]
    have hyr := lvar_range hy
    by_cases e1 : y = -x
    · rw [if_pos ⟨by rw [e1], by omega⟩]
      unfold tv
      rw [if_neg (by rw [e1]; simp; exact ⟨hno.2, by omega⟩), if_pos (by rw [e1]; simp)]
    · rw [if_neg (fun hh => e1 (vix_inj hy (by rw [lvar_neg]; exact h1) hh.1.symm))]
      by_cases e2 : y = x
      · rw [if_pos ⟨by rw [e2], by omega⟩]
        unfold tv
        rw [if_pos (by rw [e2]; simp)]
      · rw [if_neg (fun hh => e2 (vix_inj hy h1 hh.1.symm)), h.va y hy hyn]
        unfold tv
        have m1 : y ∈ L ++ [x] ↔ y ∈ L := by simp; intro hh; exact absurd hh e2
        have m2 : -y ∈ L ++ [x] ↔ -y ∈ L := by simp; intro hh; exact absurd (by omega) e1
        simp only [m1, m2]
  · rw [List.length_append, List.length_singleton] at hi
    rw [snoc_at, snoc_at, snoc_at, h.l1, h.l2]
    by_cases e : i < L.length
    · rw [if_pos e, if_pos e, if_pos e]
      have hr := h.rng i e
      have hn2 := hnew i e
      have hlb := lvar_bd (L.getD i 0)
      rw [of3_at _ _ _ _ _ _ hofb, of3_at _ _ _ _ _ _ hofb, of3_at _ _ _ _ _ _ hofb]
      simp only [show ¬ ((lvar (L.getD i 0)).toNat * 3 = (lvar x).toNat * 3 + 2) by omega, show ¬ ((lvar (L.getD i 0)).toNat * 3 = (lvar x).toNat * 3 + 1) by omega, show ¬ ((lvar (L.getD i 0)).toNat * 3 = (lvar x).toNat * 3) by omega, show ¬ ((lvar (L.getD i 0)).toNat * 3 + 1 = (lvar x).toNat * 3 + 2) by omega, show ¬ ((lvar (L.getD i 0)).toNat * 3 + 1 = (lvar x).toNat * 3 + 1) by omega, show ¬ ((lvar (L.getD i 0)).toNat * 3 + 1 = (lvar x).toNat * 3) by omega, show ¬ ((lvar (L.getD i 0)).toNat * 3 + 2 = (lvar x).toNat * 3 + 2) by omega, show ¬ ((lvar (L.getD i 0)).toNat * 3 + 2 = (lvar x).toNat * 3 + 1) by omega, show ¬ ((lvar (L.getD i 0)).toNat * 3 + 2 = (lvar x).toNat * 3) by omega, if_false]
      exact h.of i e
    · rw [if_neg e, if_pos (by omega), if_neg e, if_pos (by omega), if_neg e, if_pos (by omega)]
      rw [of3_at _ _ _ _ _ _ hofb, of3_at _ _ _ _ _ _ hofb, of3_at _ _ _ _ _ _ hofb]
      refine ⟨?_, ?_, ?_⟩
      · rw [if_neg (by omega), if_neg (by omega), if_pos rfl]
      · rw [if_neg (by omega), if_pos rfl]
      · rw [if_pos rfl]; omega
  · rw [List.length_append, List.length_singleton]
    have := h.stb k hk; omega
  · rw [List.length_append, List.length_singleton] at hi
    rw [snoc_at, h.l1]
    by_cases e : i < L.length
    · rw [if_pos e]; exact h.lvb i e
    · rw [if_neg e, if_pos (by omega)]
      refine ⟨by omega, by omega, fun k hk => ?_⟩
      have := h.stb k hk
      omega
theorem tr_start {n : Nat} {L St Of Vl lv rs : List Int} (h : TrS n L St Of Vl lv rs) : TrS n L (St ++ [(L.length : Int)]) Of Vl lv rs := by
  refine ⟨h.n1, h.l1, h.l2, h.rng, h.inj, h.vl, h.va, h.ofl, h.of, fun k hk => ?_, fun i hi => ?_⟩
  · rw [List.length_append, List.length_singleton] at hk
    rw [snoc_at]
    by_cases e : k < St.length
    · rw [if_pos e]; exact h.stb k e
    · rw [if_neg e, if_pos (by omega)]; omega
  · have hh := h.lvb i hi
    rw [List.length_append, List.length_singleton]
    refine ⟨hh.1, by omega, fun k hk => ?_⟩
    rw [snoc_at]
    by_cases e : k < St.length
    · rw [if_pos e]; exact hh.2.2 k e
    · rw [if_neg e, if_pos (by omega)]; omega
end Go.Proofs.Ytfpmfjmjnmjcdaa
namespace Go.Proofs.Ytfpmfjmjnmjcdaa
open Go.RowKit
set_option linter.unusedVariables false
set_option linter.unusedSimpArgs false
theorem Wd550a {A B : Prop} (h9 : B) (w : B → A := by (intro h9; (repeat intro K hK); refine ⟨?_⟩; (repeat (first | (first | (with_reducible first | refine AX_block ?_ | refine AX_skip ?_ | refine AX_exit ?_ | refine AX_ret ?_ | refine AX_ift ?_ | refine AX_iff ?_ | refine AX_seq_k (fun K hK => ?_) | refine ContX.use (by assumption) ?_) | simp only [thenX, inBlockX, if_true, if_false, reduceCtorEq]) | (first | ((first | (with_reducible refine XRes_op tyOK ?_ ?_) | ((with_reducible first | refine ADF_op tyOK ?_ ?_ ?_ | refine ADX_op tyOK ?_ ?_ ?_); (focus rfl)) | (with_reducible refine ADR_alloc1 tyOK ?_ ?_) | ((with_reducible refine ADR_free1 tyOK ?_ ?_ ?_); (focus rfl)) | ((with_reducible refine ADR_free0 tyOK ?_ ?_ ?_); (focus rfl)) | ((with_reducible refine ADR_read1 tyOK ?_ ?_ ?_); (focus rfl)) | (with_reducible refine ADR_chg1 tyOK ?_ ?_)); (focus (first | (with_reducible rfl) | ((simp (disch := omega) only [go_sem]); done))); simp (disch := omega) only [go_sem , iFlat, hs1, hs2, hs3, hs4, hs5, hs6, hs7, hs8, Int.toNat_zero, Int.toNat_one, List.length_nil]; (first | (with_reducible refine XRes_id ?_) | (with_reducible refine ADF_id ?_) | (with_reducible refine ADR_id1 ?_) | (with_reducible refine ADX_id ?_))) | ((first | (with_reducible refine XRes_skip ?_ ?_) | (with_reducible refine ADF_skip (b := true) ?_ ?_) | (with_reducible refine ADX_skip ?_ ?_) | ((with_reducible refine ADR_skip1 ?_ ?_ ?_); (focus rfl))); (focus (first | rfl | ((simp (disch := omega) only [go_sem]); done))); (simp only [putL, List.set_cons_succ, List.set_cons_zero]))) | ((first | (with_reducible refine XRes_nil ?_) | (with_reducible refine ADF_nil ?_) | (with_reducible refine ADR_nil ?_) | (with_reducible refine ADX_nil ?_)); (first | refine hK _ ?_ | refine hK _ _ ?_); clear hK K) | ((first | (with_reducible refine AX_reg0 fun K hK => ?_) | (refine AX_drawG1 tyOK (by kernel_rfl) (by rfl) (by kernel_rfl) fun K hK => ?_) | (refine AX_drawT tyOK (by kernel_rfl) (by decide +kernel) fun K hK => ?_) | (refine AX_drawM1 (by kernel_rfl) (by rfl) (by decide +kernel) fun K hK => ?_) | (refine AX_drawA tyOK (by kernel_rfl) (by decide +kernel) fun K hK => ?_)); (first | simp only [go_sem, preN, effOp, runF, alM, mapOp, alD2, kdOf2, Bool.not_false, Bool.not_true, reduceCtorEq] | simp only [go_sem, preN, effOp, runF, alM, mapOp, Bool.not_false, Bool.not_true, reduceCtorEq] | simp only [go_sem, preN, effOp, runF, alD2, kdOf2, Bool.not_false, Bool.not_true, reduceCtorEq] | simp only [go_sem, alD2, kdOf2, Bool.not_false, Bool.not_true, reduceCtorEq] | simp only [go_sem, preN, effOp, runF, Bool.not_false, Bool.not_true, reduceCtorEq] | simp only [go_sem])) | (first | (first | refine XTL (by rfl) hC ?_ | refine ATL tyOK (by rfl) hC ?_ | refine XTL (by rfl) hD ?_ | refine ATL tyOK (by rfl) hD ?_)))); refine Wk.o ?_; (repeat revert hK K); exact h9)) : A := w h9
set_option maxRecDepth 100000 in
set_option maxHeartbeats 1000000 in
theorem pf_split13 (x : Int) : PF Try.prog 10 [lt (.int .i64 x)] fun r H' => r = .tup [lt (.int .i64 (lvar x)), lt (.bool (decide (0 < x ∧ x ≤ 100000)))] ∧ H' = [] := by
  refine SF.forgetAll ?_
  have hs1 := trivial; have hs2 := trivial; have hs3 := trivial; have hs4 := trivial; have hs5 := trivial; have hs6 := trivial; have hs7 := trivial; have hs8 := trivial
  have hC := trivial; have hD := trivial
  by_cases h1 : 0 < x ∧ x ≤ 100000
  · rw [show lvar x = x by unfold lvar; rw [if_pos ⟨by omega, by omega⟩], decide_eq_true h1]
    obtain ⟨h2, h3⟩ := h1
    (refine SF_of_bodyX (aload tt) (aload_ok tyOK) Try.func10 rfl (by kernel_rfl) ?_; simp only [Try.ntmps10, List.length_cons, List.length_nil, Nat.reduceAdd, Nat.reduceSub, List.replicate_succ, List.replicate_zero, List.cons_append, List.nil_append])
    (refine Wk.o ?_; (repeat revert hK K); refine Wd550a ?_; (repeat intro K hK); refine ⟨?_⟩)
    (simp only [bodyX]; refine ⟨_, by simp only [aresults, aresult, XS.as, Try.results10, aload, go_sem, Option.bind_some]; rfl, ?_⟩)
    exact ⟨ids_idB rfl, rfl, trivial⟩
  · rw [decide_eq_false h1]
    by_cases h2 : x < 0 ∧ -100000 ≤ x
    · rw [show lvar x = -x by unfold lvar; rw [if_neg (by omega), if_pos ⟨by omega, by omega⟩]]
      obtain ⟨h3, h4⟩ := h2
      (refine SF_of_bodyX (aload tt) (aload_ok tyOK) Try.func10 rfl (by kernel_rfl) ?_; simp only [Try.ntmps10, List.length_cons, List.length_nil, Nat.reduceAdd, Nat.reduceSub, List.replicate_succ, List.replicate_zero, List.cons_append, List.nil_append])
      (refine Wk.o ?_; (repeat revert hK K); refine Wd550a ?_; (repeat intro K hK); refine ⟨?_⟩)
      (simp only [bodyX]; refine ⟨_, by simp only [aresults, aresult, XS.as, Try.results10, aload, go_sem, Option.bind_some]; rfl, ?_⟩)
      exact ⟨ids_idB rfl, rfl, trivial⟩
    · rw [show lvar x = 0 by unfold lvar; rw [if_neg (by omega), if_neg (by omega)]]
      by_cases h3 : x > 0
      · have h4 : ¬ x ≤ 100000 := fun h => h1 ⟨h3, h⟩
        by_cases h5 : x < 0
        · exact absurd h3 (by omega)
        · (refine SF_of_bodyX (aload tt) (aload_ok tyOK) Try.func10 rfl (by kernel_rfl) ?_; simp only [Try.ntmps10, List.length_cons, List.length_nil, Nat.reduceAdd, Nat.reduceSub, List.replicate_succ, List.replicate_zero, List.cons_append, List.nil_append])
          (refine Wk.o ?_; (repeat revert hK K); refine Wd550a ?_; (repeat intro K hK); refine ⟨?_⟩)
          (simp only [bodyX]; refine ⟨_, by simp only [aresults, aresult, XS.as, Try.results10, aload, go_sem, Option.bind_some]; rfl, ?_⟩)
          exact ⟨ids_idB rfl, rfl, trivial⟩
      · by_cases h5 : x < 0
        · have h4 : ¬ x ≥ -100000 := fun h => h2 ⟨h5, h⟩
          (refine SF_of_bodyX (aload tt) (aload_ok tyOK) Try.func10 rfl (by kernel_rfl) ?_; simp only [Try.ntmps10, List.length_cons, List.length_nil, Nat.reduceAdd, Nat.reduceSub, List.replicate_succ, List.replicate_zero, List.cons_append, List.nil_append])
          (refine Wk.o ?_; (repeat revert hK K); refine Wd550a ?_; (repeat intro K hK); refine ⟨?_⟩)
          (simp only [bodyX]; refine ⟨_, by simp only [aresults, aresult, XS.as, Try.results10, aload, go_sem, Option.bind_some]; rfl, ?_⟩)
          exact ⟨ids_idB rfl, rfl, trivial⟩
        · (refine SF_of_bodyX (aload tt) (aload_ok tyOK) Try.func10 rfl (by kernel_rfl) ?_; simp only [Try.ntmps10, List.length_cons, List.length_nil, Nat.reduceAdd, Nat.reduceSub, List.replicate_succ, List.replicate_zero, List.cons_append, List.nil_append])
          (refine Wk.o ?_; (repeat revert hK K); refine Wd550a ?_; (repeat intro K hK); refine ⟨?_⟩)
          (simp only [bodyX]; refine ⟨_, by simp only [aresults, aresult, XS.as, Try.results10, aload, go_sem, Option.bind_some]; rfl, ?_⟩)
          exact ⟨ids_idB rfl, rfl, trivial⟩
set_option maxRecDepth 100000 in
set_option maxHeartbeats 1000000 in
theorem pf_check13 (x n : Int) : PF Try.prog 31 [lt (.int .i64 x), lt (.int .i64 n)] fun r H' => r = lt (.int .i64 (lcheck x n)) ∧ H' = [] := by
  refine SF.forgetAll ?_
  have hs1 := trivial; have hs2 := trivial; have hs3 := trivial; have hs4 := trivial; have hs5 := trivial; have hs6 := trivial; have hs7 := trivial; have hs8 := trivial
  have hC := trivial; have hD := trivial
  have hC := pf_split13 x
  unfold lcheck
  by_cases h1 : n < 0
  · rw [if_pos (.inl h1)]
    (refine SF_of_bodyX (aload tt) (aload_ok tyOK) Try.func31 rfl (by kernel_rfl) ?_; simp only [Try.ntmps31, List.length_cons, List.length_nil, Nat.reduceAdd, Nat.reduceSub, List.replicate_succ, List.replicate_zero, List.cons_append, List.nil_append])
    (refine Wk.o ?_; (repeat revert hK K); refine Wd550a ?_; (repeat intro K hK); refine ⟨?_⟩)
    (simp only [bodyX]; refine ⟨_, by simp only [aresults, aresult, XS.as, Try.results31, aload, go_sem, Option.bind_some]; rfl, ?_⟩)
    exact ⟨.iv _, rfl, trivial⟩
  · by_cases h2 : 100000 < n
    · rw [if_pos (.inr h2)]
      (refine SF_of_bodyX (aload tt) (aload_ok tyOK) Try.func31 rfl (by kernel_rfl) ?_; simp only [Try.ntmps31, List.length_cons, List.length_nil, Nat.reduceAdd, Nat.reduceSub, List.replicate_succ, List.replicate_zero, List.cons_append, List.nil_append])
      (refine Wk.o ?_; (repeat revert hK K); refine Wd550a ?_; (repeat intro K hK); refine ⟨?_⟩)
      (simp only [bodyX]; refine ⟨_, by simp only [aresults, aresult, XS.as, Try.results31, aload, go_sem, Option.bind_some]; rfl, ?_⟩)
      exact ⟨.iv _, rfl, trivial⟩
    · rw [if_neg (by omega)]
      generalize lvar x = v at *
      by_cases h3 : v = 0
      · rw [if_pos (.inl h3)]
        (refine SF_of_bodyX (aload tt) (aload_ok tyOK) Try.func31 rfl (by kernel_rfl) ?_; simp only [Try.ntmps31, List.length_cons, List.length_nil, Nat.reduceAdd, Nat.reduceSub, List.replicate_succ, List.replicate_zero, List.cons_append, List.nil_append])
        (refine Wk.o ?_; (repeat revert hK K); refine Wd550a ?_; (repeat intro K hK); refine ⟨?_⟩)
        (simp only [bodyX]; refine ⟨_, by simp only [aresults, aresult, XS.as, Try.results31, aload, go_sem, Option.bind_some]; rfl, ?_⟩)
        exact ⟨.iv _, rfl, trivial⟩
      · by_cases h4 : n < v
        · rw [if_pos (.inr h4)]
          (refine SF_of_bodyX (aload tt) (aload_ok tyOK) Try.func31 rfl (by kernel_rfl) ?_; simp only [Try.ntmps31, List.length_cons, List.length_nil, Nat.reduceAdd, Nat.reduceSub, List.replicate_succ, List.replicate_zero, List.cons_append, List.nil_append])
          (refine Wk.o ?_; (repeat revert hK K); refine Wd550a ?_; (repeat intro K hK); refine ⟨?_⟩)
          (simp only [bodyX]; refine ⟨_, by simp only [aresults, aresult, XS.as, Try.results31, aload, go_sem, Option.bind_some]; rfl, ?_⟩)
          exact ⟨.iv _, rfl, trivial⟩
        · rw [if_neg (by omega)]
          (refine SF_of_bodyX (aload tt) (aload_ok tyOK) Try.func31 rfl (by kernel_rfl) ?_; simp only [Try.ntmps31, List.length_cons, List.length_nil, Nat.reduceAdd, Nat.reduceSub, List.replicate_succ, List.replicate_zero, List.cons_append, List.nil_append])
          (refine Wk.o ?_; (repeat revert hK K); refine Wd550a ?_; (repeat intro K hK); refine ⟨?_⟩)
          (simp only [bodyX]; refine ⟨_, by simp only [aresults, aresult, XS.as, Try.results31, aload, go_sem, Option.bind_some]; rfl, ?_⟩)
          exact ⟨.iv _, rfl, trivial⟩
def tplF (f : Nat → Int) (v : Int) : Nat → Nat → Int
  | _, 0 => -1
  | i, k + 1 => if f i = v then i else tplF f v (i + 1) k
theorem tplF_or (f : Nat → Int) (v : Int) : ∀ k i, (tplF f v i k = -1 ∧ ∀ j, i ≤ j → j < i + k → f j ≠ v) ∨ ∃ j, i ≤ j ∧ j < i + k ∧ f j = v ∧ tplF f v i k = j ∧ ∀ j2, i ≤ j2 → j2 < j → f j2 ≠ v
  | 0, i => .inl ⟨rfl, fun j h1 h2 => by omega⟩
  | k + 1, i => by
    by_cases h : f i = v
    · exact .inr ⟨i, Nat.le_refl _, by omega, h, by show (if f i = v then (i : Int) else _) = _; rw [if_pos h], fun j2 h1 h2 => by omega⟩
    · have e : tplF f v i (k + 1) = tplF f v (i + 1) k := by show (if f i = v then (i : Int) else _) = _; rw [if_neg h]
      rw [e]
      rcases tplF_or f v k (i + 1) with ⟨h1, h2⟩ | ⟨j, h1, h2, h3, h4, h5⟩
      · refine .inl ⟨h1, fun j a b => ?_⟩
        rcases Nat.lt_or_ge i j with hl | hl
        · exact h2 j (by omega) (by omega)
        · rw [show j = i by omega]; exact h
      · refine .inr ⟨j, by omega, by omega, h3, h4, fun j2 a b => ?_⟩
        rcases Nat.lt_or_ge i j2 with hl | hl
        · exact h5 j2 (by omega) b
        · rw [show j2 = i by omega]; exact h
def rT (n : Int) (E : List Int) (m : Nat) (d : Int) : AV := .agg [lt (.int .i64 n), .iv (iFlat E m 3), lt (.int .i64 d)]
def rPl (E : List Int) (m : Nat) (v : Int) : Int := tplF (fun i => lvar (E.getD (i * 3) 0)) v 0 m
set_option maxRecDepth 100000 in
set_option maxHeartbeats 2000000 in
theorem pf_r13Place (n : Int) (E : List Int) (m : Nat) (d v : Int) (hm : m ≤ 1000000) : PF Try.prog 29 [rT n E m d, lt (.int .i64 v)] fun r H' => r = lt (.int .i64 (rPl E m v)) ∧ H' = [] := by
  refine SF.forgetAll ?_
  have hs1 := trivial; have hs2 := trivial; have hs3 := trivial; have hs4 := trivial; have hs5 := trivial; have hs6 := trivial; have hs7 := trivial; have hs8 := trivial
  have hC := trivial; have hD := trivial
  (refine SF_of_bodyX (aload tt) (aload_ok tyOK) Try.func29 rfl (by kernel_rfl) ?_; simp only [Try.ntmps29, List.length_cons, List.length_nil, Nat.reduceAdd, Nat.reduceSub, List.replicate_succ, List.replicate_zero, List.cons_append, List.nil_append])
  unfold rT iFlat
  (refine Wk.o ?_; (repeat revert hK K); refine Wd550a ?_; (repeat intro K hK); refine ⟨?_⟩)
  (refine AWH (σ := Nat) [8, 9, 10, 11, 12, 16, 17, 18, 19, 20, 21, 22, 15, 23, 24, 6, 7, 25, 26, 27, 28, 4, 13, 14] (fun i => [(5, lint i)]) (fun i => [some ⟨30, [lt (.int .i64 n), .iv (iFlat E m 3), lt (.int .i64 d)]⟩]) (fun i => []) (fun i => i ≤ m ∧ rPl E m v = tplF (fun i => lvar (E.getD (i * 3) 0)) v i (m - i)) (fun i => m - i) 0 (by first | exact ⟨Nat.zero_le _, rfl⟩) ?_; rintro i d fr hfr ⟨hi, hI⟩; simp only [updS, deadS, List.set_cons_succ, List.set_cons_zero, lint] at hfr; subst hfr; (try dsimp only))
  unfold iFlat
  by_cases hlt : i < m
  · have hC := pf_split13 (E.getD (i * 3 + 0) 0)
    rw [show m - i = (m - (i + 1)) + 1 by omega] at hI
    unfold tplF at hI
    by_cases he : lvar (E.getD (i * 3) 0) = v
    · have hs1 := he
      rw [if_pos he] at hI
      (refine Wk.o ?_; (repeat revert hK K); refine Wd550a ?_; (repeat intro K hK); refine ⟨?_⟩)
      (simp only [bodyX]; refine ⟨_, by simp only [aresults, aresult, XS.as, Try.results29, aload, go_sem, Option.bind_some]; rfl, ?_⟩)
      exact ⟨.iv _, by rw [hI], trivial⟩
    · have hs1 := he
      rw [if_neg he] at hI
      (refine Wk.o ?_; (repeat revert hK K); refine Wd550a ?_; (repeat intro K hK); refine ⟨?_⟩)
      exact WEND (i + 1) ⟨by omega, hI⟩ (by (first | omega | (dsimp only; omega) | (simp only; omega)))
  · obtain rfl : i = m := by omega
    rw [Nat.sub_self] at hI
    (refine Wk.o ?_; (repeat revert hK K); refine Wd550a ?_; (repeat intro K hK); refine ⟨?_⟩)
    (simp only [bodyX]; refine ⟨_, by simp only [aresults, aresult, XS.as, Try.results29, aload, go_sem, Option.bind_some]; rfl, ?_⟩)
    exact ⟨.iv _, by rw [hI]; rfl, trivial⟩
end Go.Proofs.Ytfpmfjmjnmjcdaa
