import Derived.Test.YtpamcgpdmphfhaaDoorMgBO
import Derived.Test.YtpamcgpdmphfhaaDoorMgBD
import Derived.Test.YtpamcgpdmphfhaaDoorMgBN
import Derived.Test.YtpamcgpdmphfhaaDoorMgAV
import Derived.Test.YtpamcgpdmphfhaaDoorMgBM
import Derived.Test.YtpamcgpdmphfhaaDoorMgBK
namespace Go.Proofs.YtpamcgpdmphfhaaDoor
open Go.ChangeShapes Go.WideShapes Go.ChangeAt Go.RowKit
set_option linter.unusedVariables false
theorem rws_of_flat {ys : List Int} {len : Nat} (hl : ys.length = len * 4) : ∃ xs : List Rw, xs.length = len ∧ flatR xs = ys := by
  refine ⟨(List.range len).map fun i => ⟨ys.getD (i * 4) 0, ys.getD (i * 4 + 1) 0, ys.getD (i * 4 + 2) 0, ys.getD (i * 4 + 3) 0⟩, by simp, list_of_getD (by rw [flatR_len]; simp [hl]) fun j hj => ?_⟩
  rw [flatR_len] at hj
  simp only [List.length_map, List.length_range] at hj
  have h1 : j / 4 < len := by omega
  have h2 : j % 4 < 4 := by omega
  have h3 := flatR_at h2 ((List.range len).map fun i => (⟨ys.getD (i * 4) 0, ys.getD (i * 4 + 1) 0, ys.getD (i * 4 + 2) 0, ys.getD (i * 4 + 3) 0⟩ : Rw)) (j / 4)
  rw [show j / 4 * 4 + j % 4 = j by omega] at h3
  rw [h3]
  have h4 : rwAt ((List.range len).map fun i => (⟨ys.getD (i * 4) 0, ys.getD (i * 4 + 1) 0, ys.getD (i * 4 + 2) 0, ys.getD (i * 4 + 3) 0⟩ : Rw)) (j / 4) = ⟨ys.getD (j / 4 * 4) 0, ys.getD (j / 4 * 4 + 1) 0, ys.getD (j / 4 * 4 + 2) 0, ys.getD (j / 4 * 4 + 3) 0⟩ := by
    unfold rwAt; rw [List.getD_eq_getElem?_getD]; simp only [List.getElem?_map, List.getElem?_range h1, Option.map_some, Option.getD_some]
  rw [h4]
  have h5 : j % 4 = 0 ∨ j % 4 = 1 ∨ j % 4 = 2 ∨ j % 4 = 3 := by omega
  rcases h5 with h | h | h | h <;> rw [h] <;> simp only [rwFl, List.getD_cons_zero, List.getD_cons_succ] <;> exact congrArg (fun z => ys.getD z 0) (by omega)
theorem StructRow.rwsA {w : World} {a : Option Addr} {len cap : Nat} (h : StructRow w 4 a len cap) : ∃ xs : List Rw, xs.length = len ∧ okI (flatR xs) ∧ RI (fun b => w.heap[b]?) (.sl (fun j => .lit (.int .i64 ((flatR xs).getD j 0))) xs.length 4) (.slice a len cap) := by
  obtain ⟨ys, h1, h2, h3⟩ := h.flat (by decide)
  obtain ⟨xs, rfl, rfl⟩ := rws_of_flat h1
  exact ⟨xs, rfl, h2, h3⟩
theorem RL.obj {G : Gh} {n : Nat} {x y z : Int} {a : Option Addr} {len cap : Nat} {xs : List Rw} (h : RI G.fz (.sl (fun j => .lit (.int .i64 ((flatR xs).getD j 0))) xs.length 4) (.slice a len cap)) : RA n G (obA ⟨x, y, z, xs⟩) (.agg #[.int .i64 x, .int .i64 y, .int .i64 z, .slice a len cap]) :=
  .agg [_, _, _, _] [_, _, _, _] rfl (RL.cons (.iv _ _ (.lit _)) (RL.cons (.iv _ _ (.lit _)) (RL.cons (.iv _ _ (.lit _)) (RL.cons (.iv _ _ h) (RL.nil _ _))))).2 rfl
end Go.Proofs.YtpamcgpdmphfhaaDoor
namespace Go.Proofs.YtpamcgpdmphfhaaDoor
open Go.RowKit
set_option linter.unusedVariables false
theorem wf_i24 {x : Int} (h : (Lit.int .i64 x).wf = true) : -9223372036854775808 ≤ x ∧ x ≤ 9223372036854775807 := bounds_i64 h
theorem objtextBack_walk (w : World) (hB : BaseAt fun b => w.heap[b]?) (x y z : Int) (wx : (Lit.int .i64 x).wf = true) (wy : (Lit.int .i64 y).wf = true) (wz : (Lit.int .i64 z).wf = true) (a : Option Addr) (len cap : Nat) (hs : StructRow w 4 a len cap) (s : ByteArray) (hl : s.size ≤ maxLen) :
    Calls Tryd.prog 5 #[.agg #[.int .i64 x, .int .i64 y, .int .i64 z, .slice a len cap], .string s] w fun e w' => e = .returned (.bool true) ∧ Below w.heap.size w w' := by
  haveI := hB
  obtain ⟨xs, e1, _, r1⟩ := hs.rwsA
  have b1 := hs.2.1
  have c1 := hs.1
  unfold maxLen at b1
  exact law_of (SF.mono (pf_ObjtextBack ⟨x, y, z, xs⟩ s ⟨wf_i24 wx, wf_i24 wy, wf_i24 wz⟩ (by show xs.length ≤ _; omega) pf_awake24) fun r H' h => h.1) w _ (RL.two (RL.obj r1) (.iv _ _ (.lit _)))
end Go.Proofs.YtpamcgpdmphfhaaDoor
namespace Go.Proofs.YtpamcgpdmphfhaaDoor
open Go.RowKit Go.Lib
set_option linter.unusedVariables false
set_option linter.unusedSimpArgs false
theorem nums_len (T : List Tok3) (w : List UInt8) (lo hi : List Int) (z : Int) : (nums T w lo hi z).1.length ≤ lo.length := by
  unfold nums
  split
  · exact Nat.zero_le _
  · split
    · exact Nat.zero_le _
    · by_cases h : (nGo (lastEnd T) z (T.drop 1) (lo.zip hi) []).2.2 = 0
      · rw [(nGo_len h).1, List.length_zip, List.length_nil]; omega
      · rw [nGo_bad h]; exact Nat.zero_le _
theorem Wd42ea {A B : Prop} (h9 : B) (w : B → A := by (intro h9; (repeat intro K hK); refine ⟨?_⟩; (repeat (first | (first | (with_reducible first | refine AX_block ?_ | refine AX_skip ?_ | refine AX_exit ?_ | refine AX_ret ?_ | refine AX_ift ?_ | refine AX_iff ?_ | refine AX_seq_k (fun K hK => ?_) | refine ContX.use (by assumption) ?_) | simp only [thenX, inBlockX, if_true, if_false, reduceCtorEq]) | (first | ((first | (with_reducible refine XRes_op tyOK ?_ ?_) | ((with_reducible first | refine ADF_op tyOK ?_ ?_ ?_ | refine ADX_op tyOK ?_ ?_ ?_); (focus rfl)) | (with_reducible refine ADR_alloc1 tyOK ?_ ?_) | ((with_reducible refine ADR_free1 tyOK ?_ ?_ ?_); (focus rfl)) | ((with_reducible refine ADR_free0 tyOK ?_ ?_ ?_); (focus rfl)) | ((with_reducible refine ADR_read1 tyOK ?_ ?_ ?_); (focus rfl)) | (with_reducible refine ADR_chg1 tyOK ?_ ?_)); (focus (first | (with_reducible rfl) | ((simp (disch := omega) only [go_sem]); done))); simp (disch := omega) only [go_sem , hs1, hs2, hs3, hs4, hs5, hs6, hs7, Int.toNat_zero, Int.toNat_one, Int.reduceToNat, Int.toNat_natCast, List.length_nil, beq_self_eq_true, ba_size, bne_self_eq_false]; (first | (with_reducible refine XRes_id ?_) | (with_reducible refine ADF_id ?_) | (with_reducible refine ADR_id1 ?_) | (with_reducible refine ADX_id ?_))) | ((first | (with_reducible refine XRes_skip ?_ ?_) | (with_reducible refine ADF_skip (b := true) ?_ ?_) | (with_reducible refine ADX_skip ?_ ?_) | ((with_reducible refine ADR_skip1 ?_ ?_ ?_); (focus rfl))); (focus (first | rfl | ((simp (disch := omega) only [go_sem]); done))); (simp only [putL, List.set_cons_succ, List.set_cons_zero]))) | ((first | (with_reducible refine XRes_nil ?_) | (with_reducible refine ADF_nil ?_) | (with_reducible refine ADR_nil ?_) | (with_reducible refine ADX_nil ?_)); (first | refine hK _ ?_ | refine hK _ _ ?_); clear hK K) | ((first | (with_reducible refine AX_reg0 fun K hK => ?_) | (refine AX_drawG1 tyOK (by kernel_rfl) (by rfl) (by kernel_rfl) fun K hK => ?_) | (refine AX_drawT tyOK (by kernel_rfl) (by decide +kernel) fun K hK => ?_) | (refine AX_drawM1 (by kernel_rfl) (by rfl) (by decide +kernel) fun K hK => ?_) | (refine AX_drawA tyOK (by kernel_rfl) (by decide +kernel) fun K hK => ?_)); (first | simp only [go_sem, preN, effOp, runF, alM, mapOp, alD2, kdOf2, Bool.not_false, Bool.not_true, reduceCtorEq] | simp only [go_sem, preN, effOp, runF, alM, mapOp, Bool.not_false, Bool.not_true, reduceCtorEq] | simp only [go_sem, preN, effOp, runF, alD2, kdOf2, Bool.not_false, Bool.not_true, reduceCtorEq] | simp only [go_sem, alD2, kdOf2, Bool.not_false, Bool.not_true, reduceCtorEq] | simp only [go_sem, preN, effOp, runF, Bool.not_false, Bool.not_true, reduceCtorEq] | simp only [go_sem])) | (first | (first | refine XTL (by rfl) hAw ?_ | refine ATL tyOK (by rfl) hAw ?_ | refine XTL (by rfl) hF ?_ | refine ATL tyOK (by rfl) hF ?_ | refine XTL (by rfl) hP1 ?_ | refine ATL tyOK (by rfl) hP1 ?_ | refine XTL (by rfl) hQ1 ?_ | refine ATL tyOK (by rfl) hQ1 ?_ | refine XTL (by rfl) hL1 ?_ | refine ATL tyOK (by rfl) hL1 ?_ | refine XTL (by rfl) hL2 ?_ | refine ATL tyOK (by rfl) hL2 ?_ | refine XTL (by rfl) hN1 ?_ | refine ATL tyOK (by rfl) hN1 ?_ | refine XTL (by rfl) hN2 ?_ | refine ATL tyOK (by rfl) hN2 ?_ | refine XTL (by rfl) hSm ?_ | refine ATL tyOK (by rfl) hSm ?_)))); refine Wk.o ?_; (repeat revert hK K); exact h9)) : A := w h9
set_option maxRecDepth 100000 in
set_option maxHeartbeats 4000000 in
theorem pf_ObjtextLines (s : ByteArray) (lo hi : List Int) (o : Ob) (ho : o.Ok) (hrl : o.R.length ≤ 9223372036854775807) (hll : lo.length ≤ 9223372036854775807) (hhl : hi.length ≤ 9223372036854775807) (hAw : PF Tryd.prog 7 [] fun r H' => r = lt (.bool true) ∧ H' = []) : PF Tryd.prog 4 [lt (.string s), .agg [.iv (iInts lo), .iv (iInts hi)], obA o] fun r H' => r = lt (.bool true) ∧ H' = [] := by
  refine SF.forgetAll ?_
  have hs1 := trivial; have hs2 := trivial; have hs3 := trivial; have hs4 := trivial; have hs5 := trivial; have hs6 := trivial; have hs7 := trivial; have hF := trivial; have hP1 := trivial; have hQ1 := trivial; have hL1 := trivial; have hL2 := trivial; have hN1 := trivial; have hN2 := trivial; have hSm := trivial
  obtain ⟨l, rfl⟩ : ∃ l, s = ba l := ⟨s.data.toList, (ba_of s).symm⟩
  by_cases hl : 1000 < l.length
  · have hs1 : decide ((1000 : Int) < (l.length : Int)) = true := decide_eq_true (by omega)
    obtain ⟨S, Kn, I, R⟩ := o
    unfold obA at *
    (try dsimp only at *)
    (refine SF_of_bodyX (aload tt) (aload_ok tyOK) Tryd.func4 rfl (by kernel_rfl) ?_; simp only [Tryd.ntmps4, List.length_cons, List.length_nil, Nat.reduceAdd, Nat.reduceSub, List.replicate_succ, List.replicate_zero, List.cons_append, List.nil_append])
    unfold iInts
    (refine Wk.o ?_; (repeat revert hK K); refine Wd42ea ?_; (repeat intro K hK); refine ⟨?_⟩)
    (simp only [bodyX]; refine ⟨_, by simp only [aresults, aresult, XS.as, Tryd.results4, aload, go_sem, Option.bind_some]; rfl, ?_⟩)
    exact ⟨ids_idB rfl, rfl, trivial⟩
  · have hs1 : decide ((1000 : Int) < (l.length : Int)) = false := decide_eq_false (by omega)
    by_cases h2 : 20 < lo.length
    · have hs2 : decide ((20 : Int) < (lo.length : Int)) = true := decide_eq_true (by omega)
      obtain ⟨S, Kn, I, R⟩ := o
      unfold obA at *
      (try dsimp only at *)
      (refine SF_of_bodyX (aload tt) (aload_ok tyOK) Tryd.func4 rfl (by kernel_rfl) ?_; simp only [Tryd.ntmps4, List.length_cons, List.length_nil, Nat.reduceAdd, Nat.reduceSub, List.replicate_succ, List.replicate_zero, List.cons_append, List.nil_append])
      unfold iInts
      (refine Wk.o ?_; (repeat revert hK K); refine Wd42ea ?_; (repeat intro K hK); refine ⟨?_⟩)
      (simp only [bodyX]; refine ⟨_, by simp only [aresults, aresult, XS.as, Tryd.results4, aload, go_sem, Option.bind_some]; rfl, ?_⟩)
      exact ⟨ids_idB rfl, rfl, trivial⟩
    · have hs2 : decide ((20 : Int) < (lo.length : Int)) = false := decide_eq_false (by omega)
      by_cases h3 : 20 < hi.length
      · have hs3 : decide ((20 : Int) < (hi.length : Int)) = true := decide_eq_true (by omega)
        obtain ⟨S, Kn, I, R⟩ := o
        unfold obA at *
        (try dsimp only at *)
        (refine SF_of_bodyX (aload tt) (aload_ok tyOK) Tryd.func4 rfl (by kernel_rfl) ?_; simp only [Tryd.ntmps4, List.length_cons, List.length_nil, Nat.reduceAdd, Nat.reduceSub, List.replicate_succ, List.replicate_zero, List.cons_append, List.nil_append])
        unfold iInts
        (refine Wk.o ?_; (repeat revert hK K); refine Wd42ea ?_; (repeat intro K hK); refine ⟨?_⟩)
        (simp only [bodyX]; refine ⟨_, by simp only [aresults, aresult, XS.as, Tryd.results4, aload, go_sem, Option.bind_some]; rfl, ?_⟩)
        exact ⟨ids_idB rfl, rfl, trivial⟩
      · have hs3 : decide ((20 : Int) < (hi.length : Int)) = false := decide_eq_false (by omega)
        have hF := pf_few23 o hrl
        by_cases hw : o.R.length ≤ 300
        · rw [decide_eq_true hw] at hF
          have hPQ : ∃ (t : List UInt8) (e : Int), (PF Tryd.prog 19 [obA o] fun r H' => r = .tup [lt (.string (ba t)), lt (.int .i64 e)] ∧ H' = []) ∧ (PF Tryd.prog 20 [obA o] fun r H' => r = .tup [lt (.string (ba t)), lt (.int .i64 e)] ∧ H' = []) := by
            have hk1 := pf_obCheck o (by omega) ho
            have hk2 := pf_rObCheck o (by omega) ho
            by_cases he : obE o = 0
            · have hsm := ob_sm he (by omega)
              rw [he] at hk1 hk2
              exact ⟨_, _, pf_oPrint o.S o.K o.I o.R _ hsm hk1, pf_roPrint o.S o.K o.I o.R _ hsm hk2⟩
            · exact ⟨_, _, pf_oPrintNo o _ _ he hk1, pf_roPrintNo o _ _ he hk2⟩
          obtain ⟨t, e, hP1, hQ1⟩ := hPQ
          have hL1 := pf_LinesT l (by omega)
          have hL2 := pf_rLinesT l (by omega)
          have hok := lnsT_ok (l := l) (by omega)
          have hNN : ∀ T, TokOK T → _ ∧ _ ∧ _ := fun T hT => And.intro (pf_nums T [120] lo hi l.length hT (by omega) (by omega)) (And.intro (pf_rnums T [120] lo hi l.length hT (by omega) (by omega)) (pf_sameI24 (nums T [120] lo hi l.length).1 (nums T [120] lo hi l.length).1 (by have := nums_len T [120] lo hi l.length; omega) (by have := nums_len T [120] lo hi l.length; omega)))
          have hlen := hok.len
          generalize lnsT l = L at *
          obtain ⟨S, Kn, I, R⟩ := o
          unfold obA at *
          (try dsimp only at *)
          have hs4 : iLs L = .sl (fun j => iTokL (L.getD j [])) L.length 1 := rfl
          (refine SF_of_bodyX (aload tt) (aload_ok tyOK) Tryd.func4 rfl (by kernel_rfl) ?_; simp only [Tryd.ntmps4, List.length_cons, List.length_nil, Nat.reduceAdd, Nat.reduceSub, List.replicate_succ, List.replicate_zero, List.cons_append, List.nil_append])
          unfold iInts
          (refine Wk.o ?_; (repeat revert hK K); refine Wd42ea ?_; (repeat intro K hK); refine ⟨?_⟩)
          (refine AWH (σ := Nat) [68, 69, 70, 71, 75, 76, 77, 78, 79, 80, 81, 82, 83, 84, 85, 74, 86, 87, 88, 14, 15, 16, 90, 91, 92, 93, 94, 95, 96, 97, 98, 99, 100, 89, 101, 102, 103, 17, 18, 19, 104, 105, 106, 107, 108, 109, 110, 111, 112, 113, 114, 115, 116, 117, 6, 72, 73] (fun i => [(13, lint i)]) (fun i => [some ⟨45, [.iv (.sl (fun j => .lit (.int .i64 (lo.getD j 0))) lo.length 1), .iv (.sl (fun j => .lit (.int .i64 (hi.getD j 0))) hi.length 1)]⟩, some ⟨25, [lt (.int .i64 S), lt (.int .i64 Kn), lt (.int .i64 I), .iv (iRws R)]⟩]) (fun i => []) (fun i => i ≤ L.length) (fun i => L.length - i) 0 (by first | exact Nat.zero_le _) ?_; rintro i d fr hfr hi2; simp only [updS, deadS, List.set_cons_succ, List.set_cons_zero, lint] at hfr; subst hfr; (try dsimp only))
          by_cases hlt : i < L.length
          · have hs5 : decide ((i : Int) < (L.length : Int)) = true := decide_eq_true (by omega)
            obtain ⟨hN1, hN2, hSm⟩ := hNN _ (hok.get i)
            rw [decide_eq_true rfl] at hSm
            rw [show ba [120] = ⟨#[120]⟩ from rfl] at hN1 hN2
            generalize nums (L.getD i []) [120] lo hi l.length = Q at *
            obtain ⟨n, at1, e1⟩ := Q
            unfold iInts at hN1 hN2 hSm
            dsimp only at hN1 hN2 hSm
            (refine Wk.o ?_; (repeat revert hK K); refine Wd42ea ?_; (repeat intro K hK); refine ⟨?_⟩)
            exact whx_end (i + 1) (by omega) (by omega) rfl rfl (fun d => by first | ((simp (disch := omega) only [go_sem, lint , hs1, hs2, hs3, hs4, hs5, hs6, hs7, Int.toNat_zero, Int.toNat_one, Int.reduceToNat, Int.toNat_natCast, List.length_nil, beq_self_eq_true, ba_size, bne_self_eq_false]); done) | ((simp (disch := omega) only [go_sem, lint , hs1, hs2, hs3, hs4, hs5, hs6, hs7, Int.toNat_zero, Int.toNat_one, Int.reduceToNat, Int.toNat_natCast, List.length_nil, beq_self_eq_true, ba_size, bne_self_eq_false]); rfl))
          · obtain rfl : i = L.length := by omega
            (refine Wk.o ?_; (repeat revert hK K); refine Wd42ea ?_; (repeat intro K hK); refine ⟨?_⟩)
            (simp only [bodyX]; refine ⟨_, by simp only [aresults, aresult, XS.as, Tryd.results4, aload, go_sem, Option.bind_some]; rfl, ?_⟩)
            exact ⟨ids_idB rfl, rfl, trivial⟩
        · rw [decide_eq_false hw] at hF
          clear hw
          obtain ⟨S, Kn, I, R⟩ := o
          unfold obA at *
          (try dsimp only at *)
          (refine SF_of_bodyX (aload tt) (aload_ok tyOK) Tryd.func4 rfl (by kernel_rfl) ?_; simp only [Tryd.ntmps4, List.length_cons, List.length_nil, Nat.reduceAdd, Nat.reduceSub, List.replicate_succ, List.replicate_zero, List.cons_append, List.nil_append])
          unfold iInts
          (refine Wk.o ?_; (repeat revert hK K); refine Wd42ea ?_; (repeat intro K hK); refine ⟨?_⟩)
          (simp only [bodyX]; refine ⟨_, by simp only [aresults, aresult, XS.as, Tryd.results4, aload, go_sem, Option.bind_some]; rfl, ?_⟩)
          exact ⟨ids_idB rfl, rfl, trivial⟩
end Go.Proofs.YtpamcgpdmphfhaaDoor
