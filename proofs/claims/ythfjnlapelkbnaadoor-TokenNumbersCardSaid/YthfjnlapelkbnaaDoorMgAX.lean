import Derived.Test.YthfjnlapelkbnaaDoorMgAW
import Derived.Lib.ItoaLen
namespace Go.Proofs.YthfjnlapelkbnaaDoor
open Go.RowKit Go.Lib
set_option linter.unusedVariables false
set_option linter.unusedSimpArgs false
theorem numR_itoa (n lo hi : Int) (h0 : -9223372036854775808 ≤ n) (h1 : n ≤ 9223372036854775807) : numR (itoa n) lo hi = if lo ≤ n ∧ n ≤ hi then (n, 0) else (0, 7) := by
  obtain ⟨e1, e2⟩ := itoa_num n
  unfold numR
  rw [if_neg (by simp [e1]), e2]
  by_cases h : lo ≤ n ∧ n ≤ hi
  · rw [if_pos ⟨h0, h1, h⟩, if_pos h]
  · rw [if_neg (fun k => h k.2.2), if_neg h]
theorem W788ba {A B : Prop} (h9 : B) (w : B → A := by (intro h9; (repeat intro K hK); refine ⟨?_⟩; (repeat (first | (first | (with_reducible first | refine AX_block ?_ | refine AX_skip ?_ | refine AX_exit ?_ | refine AX_ret ?_ | refine AX_ift ?_ | refine AX_iff ?_ | refine AX_seq_k (fun K hK => ?_) | refine ContX.use (by assumption) ?_) | simp only [thenX, inBlockX, if_true, if_false, reduceCtorEq]) | (first | ((with_reducible first | refine XOP tyOK ?_ | refine AOP tyOK ?_); simp (disch := omega) only [go_sem , beq_self_eq_true, Int.toNat_zero, Int.toNat_one, hs1, hs2, hs3, hs4, hs5, hs6, hs7, hs8, ba_toList, ba_size]; (with_reducible first | refine XRes_id ?_ | refine ADF_id ?_)) | (with_reducible first | refine XSK ?_ | refine ASK ?_)) | ((first | (with_reducible refine XRes_nil ?_) | (with_reducible refine ADF_nil ?_)); (first | refine hK _ ?_ | refine hK _ _ ?_); clear hK K) | ((first | (with_reducible refine AX_reg0 fun K hK => ?_) | (refine AX_drawG1 tyOK (by kernel_rfl) (by rfl) (by kernel_rfl) fun K hK => ?_)); simp only [go_sem]) | (first | (first | refine XTL (by rfl) hA ?_ | refine ATL tyOK (by rfl) hA ?_ | refine XTL (by rfl) hD1 ?_ | refine ATL tyOK (by rfl) hD1 ?_ | refine XTL (by rfl) hD2 ?_ | refine ATL tyOK (by rfl) hD2 ?_ | refine XTL (by rfl) hN1 ?_ | refine ATL tyOK (by rfl) hN1 ?_ | refine XTL (by rfl) hN2 ?_ | refine ATL tyOK (by rfl) hN2 ?_)))); refine Wk.o ?_; (repeat revert hK K); exact h9)) : A := w h9
set_option maxRecDepth 100000 in
set_option maxHeartbeats 4000000 in
theorem pf_TokenNumbers (n lo hi : Int) (s : ByteArray) (h0 : -9223372036854775808 ≤ n) (h1 : n ≤ 9223372036854775807) : PF Tryd.prog 6 [lt (.int .i64 n), .agg [lt (.int .i64 lo), lt (.int .i64 hi)], lt (.string s)] fun r H' => r = lt (.bool true) ∧ H' = [] := by
  refine SF.forgetAll ?_
  have hs1 := trivial; have hs2 := trivial; have hs3 := trivial; have hs4 := trivial; have hs5 := trivial; have hs6 := trivial; have hs7 := trivial; have hs8 := trivial; have hD2 := trivial; have hA := pf_awake05
  obtain ⟨l, rfl⟩ : ∃ l, s = ba l := ⟨s.data.toList, (ba_of s).symm⟩
  have hD1 := pf_Digits n h0 h1
  have hlen := itoa_length_le n h0 h1
  have hN1 := pf_Number (itoa n) lo hi (by omega)
  rw [numR_itoa n lo hi h0 h1] at hN1
  by_cases hl : 1000 < l.length
  · have hN2 := trivial
    have hs1 : decide ((1000 : Int) < (l.length : Int)) = true := decide_eq_true (by omega)
    (refine SF_of_bodyX (aload tt) (aload_ok tyOK) Tryd.func6 rfl (by kernel_rfl) ?_; simp only [Tryd.ntmps6, List.length_cons, List.length_nil, Nat.reduceAdd, Nat.reduceSub, List.replicate_succ, List.replicate_zero, List.cons_append, List.nil_append])
    (refine Wk.o ?_; (repeat revert hK K); refine W788ba ?_; (repeat intro K hK); refine ⟨?_⟩)
    (simp only [bodyX]; refine ⟨_, by simp only [aresults, aresult, XS.as, Tryd.results6, aload, go_sem, Option.bind_some]; rfl, ?_⟩)
    exact ⟨ids_idB rfl, rfl, trivial⟩
  · have hs1 : decide ((1000 : Int) < (l.length : Int)) = false := decide_eq_false (by omega)
    have hN2 := pf_Number l lo hi (by omega)
    have hR : numR l lo hi = (0, 5) ∨ numR l lo hi = (0, 7) ∨ (numR l lo hi = (numV l, 0) ∧ itoa (numV l) = l ∧ lo ≤ numV l ∧ numV l ≤ hi ∧ -9223372036854775808 ≤ numV l ∧ numV l ≤ 9223372036854775807) := by
      unfold numR
      by_cases k1 : numOk l = false
      · exact .inl (by rw [if_pos k1])
      · rw [if_neg k1]
        by_cases k2 : -9223372036854775808 ≤ numV l ∧ numV l ≤ 9223372036854775807 ∧ lo ≤ numV l ∧ numV l ≤ hi
        · exact .inr (.inr ⟨by rw [if_pos k2], num_itoa (by simpa using k1), k2.2.2.1, k2.2.2.2, k2.1, k2.2.1⟩)
        · exact .inr (.inl (by rw [if_neg k2]))
    rcases hR with hR | hR | ⟨hR, g1, g2, g3, g4, g5⟩
    · rw [hR] at hN2
      by_cases k1 : lo ≤ n
      · have hs2 : decide (lo ≤ n) = true := decide_eq_true k1
        by_cases k2 : n ≤ hi
        · have hs3 : decide (n ≤ hi) = true := decide_eq_true k2
          rw [if_pos ⟨k1, k2⟩] at hN1
          (refine SF_of_bodyX (aload tt) (aload_ok tyOK) Tryd.func6 rfl (by kernel_rfl) ?_; simp only [Tryd.ntmps6, List.length_cons, List.length_nil, Nat.reduceAdd, Nat.reduceSub, List.replicate_succ, List.replicate_zero, List.cons_append, List.nil_append])
          (refine Wk.o ?_; (repeat revert hK K); refine W788ba ?_; (repeat intro K hK); refine ⟨?_⟩)
          (simp only [bodyX]; refine ⟨_, by simp only [aresults, aresult, XS.as, Tryd.results6, aload, go_sem, Option.bind_some]; rfl, ?_⟩)
          exact ⟨ids_idB rfl, rfl, trivial⟩
        · have hs3 : decide (n ≤ hi) = false := decide_eq_false k2
          rw [if_neg (fun h => k2 h.2)] at hN1
          (refine SF_of_bodyX (aload tt) (aload_ok tyOK) Tryd.func6 rfl (by kernel_rfl) ?_; simp only [Tryd.ntmps6, List.length_cons, List.length_nil, Nat.reduceAdd, Nat.reduceSub, List.replicate_succ, List.replicate_zero, List.cons_append, List.nil_append])
          (refine Wk.o ?_; (repeat revert hK K); refine W788ba ?_; (repeat intro K hK); refine ⟨?_⟩)
          (simp only [bodyX]; refine ⟨_, by simp only [aresults, aresult, XS.as, Tryd.results6, aload, go_sem, Option.bind_some]; rfl, ?_⟩)
          exact ⟨ids_idB rfl, rfl, trivial⟩
      · have hs2 : decide (lo ≤ n) = false := decide_eq_false k1
        rw [if_neg (fun h => k1 h.1)] at hN1
        (refine SF_of_bodyX (aload tt) (aload_ok tyOK) Tryd.func6 rfl (by kernel_rfl) ?_; simp only [Tryd.ntmps6, List.length_cons, List.length_nil, Nat.reduceAdd, Nat.reduceSub, List.replicate_succ, List.replicate_zero, List.cons_append, List.nil_append])
        (refine Wk.o ?_; (repeat revert hK K); refine W788ba ?_; (repeat intro K hK); refine ⟨?_⟩)
        (simp only [bodyX]; refine ⟨_, by simp only [aresults, aresult, XS.as, Tryd.results6, aload, go_sem, Option.bind_some]; rfl, ?_⟩)
        exact ⟨ids_idB rfl, rfl, trivial⟩
    · rw [hR] at hN2
      by_cases k1 : lo ≤ n
      · have hs2 : decide (lo ≤ n) = true := decide_eq_true k1
        by_cases k2 : n ≤ hi
        · have hs3 : decide (n ≤ hi) = true := decide_eq_true k2
          rw [if_pos ⟨k1, k2⟩] at hN1
          (refine SF_of_bodyX (aload tt) (aload_ok tyOK) Tryd.func6 rfl (by kernel_rfl) ?_; simp only [Tryd.ntmps6, List.length_cons, List.length_nil, Nat.reduceAdd, Nat.reduceSub, List.replicate_succ, List.replicate_zero, List.cons_append, List.nil_append])
          (refine Wk.o ?_; (repeat revert hK K); refine W788ba ?_; (repeat intro K hK); refine ⟨?_⟩)
          (simp only [bodyX]; refine ⟨_, by simp only [aresults, aresult, XS.as, Tryd.results6, aload, go_sem, Option.bind_some]; rfl, ?_⟩)
          exact ⟨ids_idB rfl, rfl, trivial⟩
        · have hs3 : decide (n ≤ hi) = false := decide_eq_false k2
          rw [if_neg (fun h => k2 h.2)] at hN1
          (refine SF_of_bodyX (aload tt) (aload_ok tyOK) Tryd.func6 rfl (by kernel_rfl) ?_; simp only [Tryd.ntmps6, List.length_cons, List.length_nil, Nat.reduceAdd, Nat.reduceSub, List.replicate_succ, List.replicate_zero, List.cons_append, List.nil_append])
          (refine Wk.o ?_; (repeat revert hK K); refine W788ba ?_; (repeat intro K hK); refine ⟨?_⟩)
          (simp only [bodyX]; refine ⟨_, by simp only [aresults, aresult, XS.as, Tryd.results6, aload, go_sem, Option.bind_some]; rfl, ?_⟩)
          exact ⟨ids_idB rfl, rfl, trivial⟩
      · have hs2 : decide (lo ≤ n) = false := decide_eq_false k1
        rw [if_neg (fun h => k1 h.1)] at hN1
        (refine SF_of_bodyX (aload tt) (aload_ok tyOK) Tryd.func6 rfl (by kernel_rfl) ?_; simp only [Tryd.ntmps6, List.length_cons, List.length_nil, Nat.reduceAdd, Nat.reduceSub, List.replicate_succ, List.replicate_zero, List.cons_append, List.nil_append])
        (refine Wk.o ?_; (repeat revert hK K); refine W788ba ?_; (repeat intro K hK); refine ⟨?_⟩)
        (simp only [bodyX]; refine ⟨_, by simp only [aresults, aresult, XS.as, Tryd.results6, aload, go_sem, Option.bind_some]; rfl, ?_⟩)
        exact ⟨ids_idB rfl, rfl, trivial⟩
    · rw [hR] at hN2
      have hD2 := pf_Digits (numV l) g4 g5
      rw [g1] at hD2
      have hs5 : decide (lo ≤ numV l) = true := decide_eq_true g2
      have hs6 : decide (numV l ≤ hi) = true := decide_eq_true g3
      generalize numV l = v at *
      by_cases k1 : lo ≤ n
      · have hs2 : decide (lo ≤ n) = true := decide_eq_true k1
        by_cases k2 : n ≤ hi
        · have hs3 : decide (n ≤ hi) = true := decide_eq_true k2
          rw [if_pos ⟨k1, k2⟩] at hN1
          (refine SF_of_bodyX (aload tt) (aload_ok tyOK) Tryd.func6 rfl (by kernel_rfl) ?_; simp only [Tryd.ntmps6, List.length_cons, List.length_nil, Nat.reduceAdd, Nat.reduceSub, List.replicate_succ, List.replicate_zero, List.cons_append, List.nil_append])
          (refine Wk.o ?_; (repeat revert hK K); refine W788ba ?_; (repeat intro K hK); refine ⟨?_⟩)
          (simp only [bodyX]; refine ⟨_, by simp only [aresults, aresult, XS.as, Tryd.results6, aload, go_sem, Option.bind_some]; rfl, ?_⟩)
          exact ⟨ids_idB rfl, rfl, trivial⟩
        · have hs3 : decide (n ≤ hi) = false := decide_eq_false k2
          rw [if_neg (fun h => k2 h.2)] at hN1
          (refine SF_of_bodyX (aload tt) (aload_ok tyOK) Tryd.func6 rfl (by kernel_rfl) ?_; simp only [Tryd.ntmps6, List.length_cons, List.length_nil, Nat.reduceAdd, Nat.reduceSub, List.replicate_succ, List.replicate_zero, List.cons_append, List.nil_append])
          (refine Wk.o ?_; (repeat revert hK K); refine W788ba ?_; (repeat intro K hK); refine ⟨?_⟩)
          (simp only [bodyX]; refine ⟨_, by simp only [aresults, aresult, XS.as, Tryd.results6, aload, go_sem, Option.bind_some]; rfl, ?_⟩)
          exact ⟨ids_idB rfl, rfl, trivial⟩
      · have hs2 : decide (lo ≤ n) = false := decide_eq_false k1
        rw [if_neg (fun h => k1 h.1)] at hN1
        (refine SF_of_bodyX (aload tt) (aload_ok tyOK) Tryd.func6 rfl (by kernel_rfl) ?_; simp only [Tryd.ntmps6, List.length_cons, List.length_nil, Nat.reduceAdd, Nat.reduceSub, List.replicate_succ, List.replicate_zero, List.cons_append, List.nil_append])
        (refine Wk.o ?_; (repeat revert hK K); refine W788ba ?_; (repeat intro K hK); refine ⟨?_⟩)
        (simp only [bodyX]; refine ⟨_, by simp only [aresults, aresult, XS.as, Tryd.results6, aload, go_sem, Option.bind_some]; rfl, ?_⟩)
        exact ⟨ids_idB rfl, rfl, trivial⟩
end Go.Proofs.YthfjnlapelkbnaaDoor
namespace Go.Proofs.YthfjnlapelkbnaaDoor
open Go.RowKit
set_option linter.unusedVariables false
theorem wf_i05 {a : Int} (h : (Lit.int .i64 a).wf = true) : -9223372036854775808 ≤ a ∧ a ≤ 9223372036854775807 := by
  have e1 : IntKind.i64.min = -9223372036854775808 := by decide
  have e2 : IntKind.i64.max = 9223372036854775807 := by decide
  simpa [Lit.wf, e1, e2] using h
theorem ra_two {G : Gh} (x y : Int) : RA 0 G (.agg [lt (.int .i64 x), lt (.int .i64 y)]) (.agg #[.int .i64 x, .int .i64 y]) := .agg [lt (.int .i64 x), lt (.int .i64 y)] [.int .i64 x, .int .i64 y] rfl (RL.cons (.iv _ _ (.lit _)) (RL.cons (.iv _ _ (.lit _)) (RL.nil _ _))).2 rfl
theorem tokenNumbers_walk (w : World) (hB : BaseAt fun b => w.heap[b]?) (n : Int) (wn : (Lit.int .i64 n).wf = true) (u v : Int) (wu : (Lit.int .i64 u).wf = true) (wv : (Lit.int .i64 v).wf = true) (s : ByteArray) (hs : s.size ≤ maxLen) :
    Calls Tryd.prog 6 #[.int .i64 n, .agg #[.int .i64 u, .int .i64 v], .string s] w fun e w' => e = .returned (.bool true) ∧ Below w.heap.size w w' :=
  haveI := hB
  law_of (SF.mono (pf_TokenNumbers n u v s (wf_i05 wn).1 (wf_i05 wn).2) fun r H' h => h.1) w _ (RL.cons (.iv _ _ (.lit _)) (RL.cons (ra_two u v) (RL.cons (.iv _ _ (.lit _)) (RL.nil _ _))))
end Go.Proofs.YthfjnlapelkbnaaDoor
