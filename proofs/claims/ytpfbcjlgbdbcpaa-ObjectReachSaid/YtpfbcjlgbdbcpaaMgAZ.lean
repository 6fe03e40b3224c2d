import Derived.Test.YtpfbcjlgbdbcpaaMgAY
import Derived.Test.YtpfbcjlgbdbcpaaMgAP
import Derived.Test.YtpfbcjlgbdbcpaaMgAS
namespace Go.Proofs.Ytpfbcjlgbdbcpaa
open Go.RowKit
set_option linter.unusedVariables false
set_option linter.unusedSimpArgs false
theorem We334a {A B : Prop} (h9 : B) (w : B → A := by (intro h9; (repeat intro K hK); refine ⟨?_⟩; (repeat (first | (first | (with_reducible first | refine AX_block ?_ | refine AX_skip ?_ | refine AX_exit ?_ | refine AX_ret ?_ | refine AX_ift ?_ | refine AX_iff ?_ | refine AX_seq_k (fun K hK => ?_) | refine ContX.use (by assumption) ?_) | simp only [thenX, inBlockX, if_true, if_false, reduceCtorEq]) | (first | ((first | (with_reducible refine XRes_op tyOK ?_ ?_) | ((with_reducible first | refine ADF_op tyOK ?_ ?_ ?_ | refine ADX_op tyOK ?_ ?_ ?_); (focus rfl)) | (with_reducible refine ADR_alloc1 tyOK ?_ ?_) | ((with_reducible refine ADR_free1 tyOK ?_ ?_ ?_); (focus rfl)) | ((with_reducible refine ADR_free0 tyOK ?_ ?_ ?_); (focus rfl)) | ((with_reducible refine ADR_read1 tyOK ?_ ?_ ?_); (focus rfl)) | (with_reducible refine ADR_chg1 tyOK ?_ ?_)); (focus (first | (with_reducible rfl) | ((simp (disch := omega) only [go_sem]); done))); simp (disch := omega) only [go_sem , flatR_s, flatR_k, flatR_n, flatR_r, hs1, hs2, hs3, hs4, Int.toNat_zero, Int.toNat_one]; (first | (with_reducible refine XRes_id ?_) | (with_reducible refine ADF_id ?_) | (with_reducible refine ADR_id1 ?_) | (with_reducible refine ADX_id ?_))) | ((first | (with_reducible refine XRes_skip ?_ ?_) | (with_reducible refine ADF_skip (b := true) ?_ ?_) | (with_reducible refine ADX_skip ?_ ?_) | ((with_reducible refine ADR_skip1 ?_ ?_ ?_); (focus rfl))); (focus (first | rfl | ((simp (disch := omega) only [go_sem]); done))); (simp only [putL, List.set_cons_succ, List.set_cons_zero]))) | ((first | (with_reducible refine XRes_nil ?_) | (with_reducible refine ADF_nil ?_) | (with_reducible refine ADR_nil ?_) | (with_reducible refine ADX_nil ?_)); (first | refine hK _ ?_ | refine hK _ _ ?_); clear hK K) | ((first | (with_reducible refine AX_reg0 fun K hK => ?_) | (refine AX_drawG1 tyOK (by kernel_rfl) (by rfl) (by kernel_rfl) fun K hK => ?_) | (refine AX_drawT tyOK (by kernel_rfl) (by decide +kernel) fun K hK => ?_) | (refine AX_drawM1 (by kernel_rfl) (by rfl) (by decide +kernel) fun K hK => ?_) | (refine AX_drawA tyOK (by kernel_rfl) (by decide +kernel) fun K hK => ?_)); (first | simp only [go_sem, preN, effOp, runF, alM, mapOp, alD2, kdOf2, Bool.not_false, Bool.not_true, reduceCtorEq] | simp only [go_sem, preN, effOp, runF, alM, mapOp, Bool.not_false, Bool.not_true, reduceCtorEq] | simp only [go_sem, preN, effOp, runF, alD2, kdOf2, Bool.not_false, Bool.not_true, reduceCtorEq] | simp only [go_sem, alD2, kdOf2, Bool.not_false, Bool.not_true, reduceCtorEq] | simp only [go_sem, preN, effOp, runF, Bool.not_false, Bool.not_true, reduceCtorEq] | simp only [go_sem])) | (first | (first | refine XTL (by rfl) hF ?_ | refine ATL tyOK (by rfl) hF ?_ | refine XTL (by rfl) hAw ?_ | refine ATL tyOK (by rfl) hAw ?_ | refine XTL (by rfl) hR ?_ | refine ATL tyOK (by rfl) hR ?_ | refine XTL (by rfl) hD ?_ | refine ATL tyOK (by rfl) hD ?_ | refine XTL (by rfl) hC ?_ | refine ATL tyOK (by rfl) hC ?_ | refine XTL (by rfl) h1 ?_ | refine ATL tyOK (by rfl) h1 ?_ | refine XTL (by rfl) h2 ?_ | refine ATL tyOK (by rfl) h2 ?_ | refine XTL (by rfl) h3 ?_ | refine ATL tyOK (by rfl) h3 ?_)))); refine Wk.o ?_; (repeat revert hK K); exact h9)) : A := w h9
set_option maxRecDepth 100000 in
set_option maxHeartbeats 1000000 in
theorem pf_few23 (o : Ob) (hr : o.R.length ≤ 9223372036854775807) : PF Try.prog 6 [obA o] fun r H' => r = lt (.bool (decide (o.R.length ≤ 300))) ∧ H' = [] := by
  refine SF.forgetAll ?_
  have hs1 := trivial; have hs2 := trivial; have hs3 := trivial; have hs4 := trivial
  have hF := trivial; have hAw := trivial; have h1 := trivial; have h2 := trivial; have h3 := trivial; have hR := trivial; have hD := trivial; have hC := trivial
  by_cases h : o.R.length ≤ 300
  · rw [decide_eq_true h]
    (refine SF_of_bodyX (aload tt) (aload_ok tyOK) Try.func6 rfl (by kernel_rfl) ?_; simp only [Try.ntmps6, List.length_cons, List.length_nil, Nat.reduceAdd, Nat.reduceSub, List.replicate_succ, List.replicate_zero, List.cons_append, List.nil_append])
    (refine Wk.o ?_; (repeat revert hK K); refine We334a ?_; (repeat intro K hK); refine ⟨?_⟩)
    (simp only [bodyX]; refine ⟨_, by simp only [aresults, aresult, XS.as, Try.results6, aload, go_sem, Option.bind_some]; rfl, ?_⟩)
    exact ⟨.iv _, rfl, trivial⟩
  · rw [decide_eq_false h]
    (refine SF_of_bodyX (aload tt) (aload_ok tyOK) Try.func6 rfl (by kernel_rfl) ?_; simp only [Try.ntmps6, List.length_cons, List.length_nil, Nat.reduceAdd, Nat.reduceSub, List.replicate_succ, List.replicate_zero, List.cons_append, List.nil_append])
    (refine Wk.o ?_; (repeat revert hK K); refine We334a ?_; (repeat intro K hK); refine ⟨?_⟩)
    (simp only [bodyX]; refine ⟨_, by simp only [aresults, aresult, XS.as, Try.results6, aload, go_sem, Option.bind_some]; rfl, ?_⟩)
    exact ⟨.iv _, rfl, trivial⟩
set_option maxRecDepth 100000 in
set_option maxHeartbeats 4000000 in
theorem pf_ObjectReach (o : Ob) (ho : o.Ok) (hrl : o.R.length ≤ 9223372036854775807) : PF Try.prog 5 [obA o] fun r H' => r = lt (.bool true) ∧ H' = [] := by
  refine SF.forgetAll ?_
  have hs1 := trivial; have hs2 := trivial; have hs3 := trivial; have hs4 := trivial; have h1 := trivial; have h2 := trivial; have h3 := trivial; have hR := trivial; have hD := trivial; have hC := trivial
  have hAw := pf_awake23
  have hF := pf_few23 o hrl
  by_cases b1 : o.R.length ≤ 300
  · rw [decide_eq_true b1] at hF
    have hR := pf_Reach o (by omega) ho
    have hD := pf_Dead o (by omega) ho
    have hC := pf_obCheck o (by omega) ho
    by_cases e1 : obE o = 0
    · rw [e1] at hC
      have f1 : o.I ∈ reL o := (reL_mem e1).2 .init
      have f2 := fun i (hi : i < o.R.length) => reL_step e1 hi
      have f3 := fun i (hi : i < (reL o).length) => led_all e1 hi
      have f4 := reL_up e1
      have f5 := reL_len e1
      have f6 := deL_len e1
      generalize reL o = L at *
      generalize deL o = D at *
      have h1 := pf_has L o.I (by omega)
      rw [decide_eq_true f1] at h1
      have hH := fun v => pf_has L v (by omega)
      have hG := fun v => pf_has D v (by omega)
      unfold iInts at hR hD h1 hH hG
      (refine SF_of_bodyX (aload tt) (aload_ok tyOK) Try.func5 rfl (by kernel_rfl) ?_; simp only [Try.ntmps5, List.length_cons, List.length_nil, Nat.reduceAdd, Nat.reduceSub, List.replicate_succ, List.replicate_zero, List.cons_append, List.nil_append])
      (refine Wk.o ?_; (repeat revert hK K); refine We334a ?_; (repeat intro K hK); refine ⟨?_⟩)
      refine AX_wh (σ := Nat) [43, 44, 45, 46, 47, 50, 51, 52, 53, 54, 8, 55, 56, 57, 58, 59, 60, 61, 62, 63, 64, 65, 66, 67, 68, 69, 70, 71, 2, 48, 49] (fun k => [(7, lint k)]) (fun _ => [some ⟨24, [lt (.int .i64 o.S), lt (.int .i64 o.K), lt (.int .i64 o.I), .iv (iRws o.R)]⟩]) (fun _ => []) (fun k => k ≤ o.R.length) (fun k => o.R.length - k) 0 (fun d => by first | ((simp only [deadS, updS, List.set_cons_succ, List.set_cons_zero, lint, List.length_nil, List.length_cons]); done) | ((simp only [deadS, updS, List.set_cons_succ, List.set_cons_zero, lint, List.length_nil, List.length_cons]); rfl) | rfl) rfl rfl (Nat.zero_le _) ?_
      rintro k d fr hfr hk
      simp only [updS, deadS, List.set_cons_succ, List.set_cons_zero, lint] at hfr
      subst hfr
      (try dsimp only)
      by_cases hlt : k < o.R.length
      · have h1 := hH (rwAt o.R k).s
        by_cases c1 : (rwAt o.R k).s ∈ L
        · obtain ⟨c2, c3⟩ := f2 k hlt c1
          have h2 := hH (rwAt o.R k).n
          have h3 := hG (rwAt o.R k).k
          rw [decide_eq_true c1] at h1
          rw [decide_eq_true c2] at h2
          rw [decide_eq_false c3] at h3
          (refine Wk.o ?_; (repeat revert hK K); refine We334a ?_; (repeat intro K hK); refine ⟨?_⟩)
          exact WRN [0] (k + 1) (show k + 1 ≤ o.R.length by omega) (by (first | omega | (dsimp only; omega) | (simp only; omega)))
        · rw [decide_eq_false c1] at h1
          (refine Wk.o ?_; (repeat revert hK K); refine We334a ?_; (repeat intro K hK); refine ⟨?_⟩)
          exact WRN [0] (k + 1) (show k + 1 ≤ o.R.length by omega) (by (first | omega | (dsimp only; omega) | (simp only; omega)))
      · obtain rfl : k = o.R.length := by omega
        (refine Wk.o ?_; (repeat revert hK K); refine We334a ?_; (repeat intro K hK); refine ⟨?_⟩)
        refine AX_wh (σ := Nat) [72, 73, 74, 75, 78, 79, 80, 81, 82, 83, 84, 10, 11, 85, 86, 87, 88, 89, 92, 93, 94, 95, 96, 97, 98, 99, 100, 101, 102, 103, 104, 105, 106, 107, 108, 109, 110, 111, 112, 113, 114, 115, 116, 117, 118, 119, 120, 121, 122, 123, 124, 125, 126, 127, 128, 90, 91, 129, 130, 131, 132, 133, 134, 135, 136, 137, 138, 139, 140, 141, 142, 143, 144, 145, 146, 2, 76, 77] (fun i => [(9, lint i)]) (fun _ => [some ⟨24, [lt (.int .i64 o.S), lt (.int .i64 o.K), lt (.int .i64 o.I), .iv (iRws o.R)]⟩]) (fun _ => []) (fun i => i ≤ L.length) (fun i => L.length - i) 0 (fun d => by first | ((simp only [deadS, updS, List.set_cons_succ, List.set_cons_zero, lint, List.length_nil, List.length_cons]); done) | ((simp only [deadS, updS, List.set_cons_succ, List.set_cons_zero, lint, List.length_nil, List.length_cons]); rfl) | rfl) rfl rfl (Nat.zero_le _) ?_
        rintro i d2 fr hfr hi
        simp only [updS, deadS, List.set_cons_succ, List.set_cons_zero, lint] at hfr
        subst hfr
        (try dsimp only)
        by_cases hlt2 : i < L.length
        · have g3 := f3 i hlt2
          have g4 := f4 i
          generalize hx : L.getD i 0 = x at *
          obtain ⟨b, hb⟩ : ∃ b, b = decide (x = o.I) := ⟨_, rfl⟩
          have hs1 := hx
          (refine Wk.o ?_; (repeat revert hK K); refine We334a ?_; (repeat intro K hK); refine ⟨?_⟩)
          refine AX_wh (σ := Nat × Bool) [85, 86, 87, 88, 89, 92, 93, 94, 95, 96, 97, 98, 99, 100, 101, 102, 103, 104, 105, 106, 107, 108, 109, 110, 111, 112, 113, 114, 115, 116, 117, 118, 119, 120, 121, 122, 123, 124, 125, 126, 127, 128, 90, 91] (fun (j, c) => [(11, lint j), (10, lt (.bool c))]) (fun _ => [some ⟨24, [lt (.int .i64 o.S), lt (.int .i64 o.K), lt (.int .i64 o.I), .iv (iRws o.R)]⟩]) (fun _ => []) (fun (j, c) => j ≤ o.R.length ∧ c = (decide (x = o.I) || ledR o.R L x j)) (fun (j, _) => o.R.length - j) (0, decide (x = o.I)) (fun d => by first | ((simp only [deadS, updS, List.set_cons_succ, List.set_cons_zero, lint, List.length_nil, List.length_cons]); done) | ((simp only [deadS, updS, List.set_cons_succ, List.set_cons_zero, lint, List.length_nil, List.length_cons]); rfl) | rfl) rfl rfl ⟨Nat.zero_le _, by unfold ledR; rw [Bool.or_false]⟩ ?_
          rintro ⟨j, c⟩ d3 fr hfr ⟨hj, hc⟩
          simp only [updS, deadS, List.set_cons_succ, List.set_cons_zero, lint] at hfr
          subst hfr
          (try dsimp only)
          by_cases hlt3 : j < o.R.length
          · have hn : (decide (x = o.I) || ledR o.R L x (j + 1)) = (c || decide ((rwAt o.R j).n = x ∧ (rwAt o.R j).s ≠ x ∧ (rwAt o.R j).s ∈ L)) := by
              rw [hc]; show (_ || (_ || _)) = _; rw [Bool.or_assoc]
            have h1 := hH (rwAt o.R j).s
            cases c with
            | true =>
              (refine Wk.o ?_; (repeat revert hK K); refine We334a ?_; (repeat intro K hK); refine ⟨?_⟩)
              exact WEND (j + 1, true) ⟨by omega, by rw [hn]; rfl⟩ (by (first | omega | (dsimp only; omega) | (simp only; omega)))
            | false =>
              by_cases k1 : (rwAt o.R j).n = x
              · by_cases k2 : (rwAt o.R j).s = x
                · have hv : (decide (x = o.I) || ledR o.R L x (j + 1)) = false := by rw [hn, decide_eq_false (fun h => h.2.1 k2)]; rfl
                  (refine Wk.o ?_; (repeat revert hK K); refine We334a ?_; (repeat intro K hK); refine ⟨?_⟩)
                  exact WEND (j + 1, false) ⟨by omega, hv.symm⟩ (by (first | omega | (dsimp only; omega) | (simp only; omega)))
                · by_cases k3 : (rwAt o.R j).s ∈ L
                  · have hv : (decide (x = o.I) || ledR o.R L x (j + 1)) = true := by rw [hn, decide_eq_true ⟨k1, k2, k3⟩]; rfl
                    rw [decide_eq_true k3] at h1
                    (refine Wk.o ?_; (repeat revert hK K); refine We334a ?_; (repeat intro K hK); refine ⟨?_⟩)
                    exact WEND (j + 1, true) ⟨by omega, hv.symm⟩ (by (first | omega | (dsimp only; omega) | (simp only; omega)))
                  · have hv : (decide (x = o.I) || ledR o.R L x (j + 1)) = false := by rw [hn, decide_eq_false (fun h => k3 h.2.2)]; rfl
                    rw [decide_eq_false k3] at h1
                    (refine Wk.o ?_; (repeat revert hK K); refine We334a ?_; (repeat intro K hK); refine ⟨?_⟩)
                    exact WEND (j + 1, false) ⟨by omega, hv.symm⟩ (by (first | omega | (dsimp only; omega) | (simp only; omega)))
              · have hv : (decide (x = o.I) || ledR o.R L x (j + 1)) = false := by rw [hn, decide_eq_false (fun h => k1 h.1)]; rfl
                (refine Wk.o ?_; (repeat revert hK K); refine We334a ?_; (repeat intro K hK); refine ⟨?_⟩)
                exact WEND (j + 1, false) ⟨by omega, hv.symm⟩ (by (first | omega | (dsimp only; omega) | (simp only; omega)))
          · obtain rfl : j = o.R.length := by omega
            rw [g3] at hc
            subst hc
            by_cases h0 : 0 < i
            · have g5 := g4 h0 hlt2
              have hs2 : ((i : Int) - 1).toNat = i - 1 := by omega
              (refine Wk.o ?_; (repeat revert hK K); refine We334a ?_; (repeat intro K hK); refine ⟨?_⟩)
              exact WEND (i + 1) (show i + 1 ≤ L.length by omega) (by (first | omega | (dsimp only; omega) | (simp only; omega)))
            · obtain rfl : i = 0 := by omega
              (refine Wk.o ?_; (repeat revert hK K); refine We334a ?_; (repeat intro K hK); refine ⟨?_⟩)
              exact WEND 1 (show 1 ≤ L.length by omega) (by (first | omega | (dsimp only; omega) | (simp only; omega)))
        · obtain rfl : i = L.length := by omega
          (refine Wk.o ?_; (repeat revert hK K); refine We334a ?_; (repeat intro K hK); refine ⟨?_⟩)
          (simp only [bodyX]; refine ⟨_, by simp only [aresults, aresult, XS.as, Try.results5, aload, go_sem, Option.bind_some]; rfl, ?_⟩)
          exact ⟨.iv _, rfl, trivial⟩
    · have hre : reL o = [] := by unfold reL; rw [if_neg e1]
      have hde : deL o = [] := by unfold deL; rw [if_neg e1]
      rw [hre] at hR
      rw [hde] at hD
      unfold iInts at hR hD
      generalize obE o = e at *
      (refine SF_of_bodyX (aload tt) (aload_ok tyOK) Try.func5 rfl (by kernel_rfl) ?_; simp only [Try.ntmps5, List.length_cons, List.length_nil, Nat.reduceAdd, Nat.reduceSub, List.replicate_succ, List.replicate_zero, List.cons_append, List.nil_append])
      (refine Wk.o ?_; (repeat revert hK K); refine We334a ?_; (repeat intro K hK); refine ⟨?_⟩)
      (simp only [bodyX]; refine ⟨_, by simp only [aresults, aresult, XS.as, Try.results5, aload, go_sem, Option.bind_some]; rfl, ?_⟩)
      exact ⟨.iv _, rfl, trivial⟩
  · rw [decide_eq_false b1] at hF
    (refine SF_of_bodyX (aload tt) (aload_ok tyOK) Try.func5 rfl (by kernel_rfl) ?_; simp only [Try.ntmps5, List.length_cons, List.length_nil, Nat.reduceAdd, Nat.reduceSub, List.replicate_succ, List.replicate_zero, List.cons_append, List.nil_append])
    (refine Wk.o ?_; (repeat revert hK K); refine We334a ?_; (repeat intro K hK); refine ⟨?_⟩)
    (simp only [bodyX]; refine ⟨_, by simp only [aresults, aresult, XS.as, Try.results5, aload, go_sem, Option.bind_some]; rfl, ?_⟩)
    exact ⟨.iv _, rfl, trivial⟩
end Go.Proofs.Ytpfbcjlgbdbcpaa
namespace Go.Proofs.Ytpfbcjlgbdbcpaa
open Go.RowKit
theorem wf_i23 {x : Int} (h : (Lit.int .i64 x).wf = true) : -9223372036854775808 ≤ x ∧ x ≤ 9223372036854775807 := bounds_i64 h
theorem objectReach_walk (w : World) (x y z : Int) (wx : (Lit.int .i64 x).wf = true) (wy : (Lit.int .i64 y).wf = true) (wz : (Lit.int .i64 z).wf = true) (a : Option Addr) (len cap : Nat) (hs : StructRow w 4 a len cap) :
    Calls Try.prog 5 #[.agg #[.int .i64 x, .int .i64 y, .int .i64 z, .slice a len cap]] w fun e w' => e = .returned (.bool true) ∧ Below w.heap.size w w' := by
  obtain ⟨xs, e1, _, r1⟩ := hs.rwsA
  have b1 := hs.2.1
  have c1 := hs.1
  unfold maxLen at b1
  exact law_of (SF.mono (pf_ObjectReach ⟨x, y, z, xs⟩ ⟨wf_i23 wx, wf_i23 wy, wf_i23 wz⟩ (by show xs.length ≤ _; omega)) fun r H' h => h.1) w _ (RL.one (RL.obj r1))
end Go.Proofs.Ytpfbcjlgbdbcpaa
