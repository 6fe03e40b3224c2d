import Derived.Test.YthgmjboldboclaaDoorMgBN
import Derived.Test.YthgmjboldboclaaDoorMgBF
import Derived.Test.YthgmjboldboclaaDoorMgBI
import Derived.Test.YthgmjboldboclaaDoorMgAS
import Derived.Test.YthgmjboldboclaaDoorMgAR
import Derived.Test.YthgmjboldboclaaDoorMgBL
namespace Go.Proofs.YthgmjboldboclaaDoor
open Go.RowKit Go.Lib
set_option linter.unusedVariables false
set_option linter.unusedSimpArgs false
set_option maxRecDepth 100000 in
set_option maxHeartbeats 4000000 in
theorem sx_has (v : Int) (b n : Nat) (f : Int → Bool) (A0 A1 A2 A3 A4 A5 A7 A8 A9 : Option AObj) (h0 : -9223372036854775808 ≤ v) (h1 : v ≤ 9223372036854775807) : SX Tryd.prog 45 [lt (.int .i64 v), .optr 6 0] [A0, A1, A2, A3, A4, A5, some ⟨88, [lt (.map (some b))]⟩, A7, A8, A9] [(b, n, mSet f)] fun r H' M' => r = lt (.bool (f v)) ∧ H' = [A0, A1, A2, A3, A4, A5, some ⟨88, [lt (.map (some b))]⟩, A7, A8, A9, some ⟨89, []⟩] ∧ M' = [(b, n, mSet f)] := by
  have hs1 := trivial; have hs2 := trivial
  (refine SX_of_bodyL (aload tt) (aload_ok tyOK) Tryd.func45 rfl (by kernel_rfl) ?_; simp only [Tryd.ntmps45, List.length_cons, List.length_nil, Nat.reduceAdd, Nat.reduceSub, List.replicate_succ, List.replicate_zero, List.cons_append, List.nil_append])
  (repeat (first | (first | (with_reducible first | refine AX_block ?_ | refine AX_skip ?_ | refine AX_exit ?_ | refine AX_ret ?_ | refine AX_ift ?_ | refine AX_iff ?_ | refine AX_seq_k (fun K hK => ?_) | refine ContX.use (by assumption) ?_) | simp only [thenX, inBlockX, if_true, if_false, reduceCtorEq]) | (first | ((first | (with_reducible refine XRes_op tyOK ?_ ?_) | ((with_reducible first | refine ADF_op tyOK ?_ ?_ ?_ | refine ADX_op tyOK ?_ ?_ ?_); (focus rfl)) | (with_reducible refine ADR_alloc1 tyOK ?_ ?_) | ((with_reducible refine ADR_free1 tyOK ?_ ?_ ?_); (focus rfl)) | ((with_reducible refine ADR_free0 tyOK ?_ ?_ ?_); (focus rfl)) | ((with_reducible refine ADR_read1 tyOK ?_ ?_ ?_); (focus rfl)) | (with_reducible refine ADR_chg1 tyOK ?_ ?_)); (focus (first | (with_reducible rfl) | ((simp (disch := omega) only [go_sem]); done))); simp (disch := omega) only [go_sem , hs1, hs2, Int.toNat_natCast]; (first | (with_reducible refine XRes_id ?_) | (with_reducible refine ADF_id ?_) | (with_reducible refine ADR_id1 ?_) | (with_reducible refine ADX_id ?_))) | ((first | (with_reducible refine XRes_skip ?_ ?_) | (with_reducible refine ADF_skip (b := true) ?_ ?_) | (with_reducible refine ADX_skip ?_ ?_) | ((with_reducible refine ADR_skip1 ?_ ?_ ?_); (focus rfl))); (focus (first | rfl | ((simp (disch := omega) only [go_sem]); done))); (simp only [putL, List.set_cons_succ, List.set_cons_zero]))) | ((first | (with_reducible refine XRes_nil ?_) | (with_reducible refine ADF_nil ?_) | (with_reducible refine ADR_nil ?_) | (with_reducible refine ADX_nil ?_)); (first | refine hK _ ?_ | refine hK _ _ ?_); clear hK K) | ((first | (with_reducible refine AX_reg0 fun K hK => ?_) | (refine AX_drawG1 tyOK (by kernel_rfl) (by rfl) (by kernel_rfl) fun K hK => ?_) | (refine AX_drawT tyOK (by kernel_rfl) (by decide +kernel) fun K hK => ?_) | (refine AX_drawM1 (by kernel_rfl) (by rfl) (by decide +kernel) fun K hK => ?_) | (refine AX_drawA tyOK (by kernel_rfl) (by decide +kernel) fun K hK => ?_)); (first | simp only [go_sem, preN, effOp, runF, alM, mapOp, alD2, kdOf2, Bool.not_false, Bool.not_true, reduceCtorEq] | simp only [go_sem, preN, effOp, runF, alM, mapOp, Bool.not_false, Bool.not_true, reduceCtorEq] | simp only [go_sem, preN, effOp, runF, alD2, kdOf2, Bool.not_false, Bool.not_true, reduceCtorEq] | simp only [go_sem, alD2, kdOf2, Bool.not_false, Bool.not_true, reduceCtorEq] | simp only [go_sem, preN, effOp, runF, Bool.not_false, Bool.not_true, reduceCtorEq] | simp only [go_sem])) | (first | ((refine XRes_mlook (i := 0) rfl Tryd.underlying88 unit_zero unit_plain rfl rfl rfl (by omega) ?_); simp only [putL, List.set_cons_succ, List.set_cons_zero, mSet_upd, mSet_get, mSet_is, List.nil_append, List.cons_append]))))
  refine LeadX.now ?_
  (simp only [bodyXM]; refine ⟨_, by simp only [aresults, aresult, XS.as, Tryd.results45, aload, go_sem, Option.bind_some]; rfl, ?_⟩)
  exact ⟨by first | trivial | rfl, by first | trivial | rfl, by first | trivial | rfl⟩
set_option maxRecDepth 100000 in
set_option maxHeartbeats 4000000 in
theorem sx_has1 (v : Int) (b n : Nat) (f : Int → Bool) (A0 A1 A2 A3 A4 A5 A7 A8 A9 A10 : Option AObj) (h0 : -9223372036854775808 ≤ v) (h1 : v ≤ 9223372036854775807) : SX Tryd.prog 45 [lt (.int .i64 v), .optr 6 0] [A0, A1, A2, A3, A4, A5, some ⟨88, [lt (.map (some b))]⟩, A7, A8, A9, A10] [(b, n, mSet f)] fun r H' M' => r = lt (.bool (f v)) ∧ H' = [A0, A1, A2, A3, A4, A5, some ⟨88, [lt (.map (some b))]⟩, A7, A8, A9, A10, some ⟨89, []⟩] ∧ M' = [(b, n, mSet f)] := by
  have hs1 := trivial; have hs2 := trivial
  (refine SX_of_bodyL (aload tt) (aload_ok tyOK) Tryd.func45 rfl (by kernel_rfl) ?_; simp only [Tryd.ntmps45, List.length_cons, List.length_nil, Nat.reduceAdd, Nat.reduceSub, List.replicate_succ, List.replicate_zero, List.cons_append, List.nil_append])
  (repeat (first | (first | (with_reducible first | refine AX_block ?_ | refine AX_skip ?_ | refine AX_exit ?_ | refine AX_ret ?_ | refine AX_ift ?_ | refine AX_iff ?_ | refine AX_seq_k (fun K hK => ?_) | refine ContX.use (by assumption) ?_) | simp only [thenX, inBlockX, if_true, if_false, reduceCtorEq]) | (first | ((first | (with_reducible refine XRes_op tyOK ?_ ?_) | ((with_reducible first | refine ADF_op tyOK ?_ ?_ ?_ | refine ADX_op tyOK ?_ ?_ ?_); (focus rfl)) | (with_reducible refine ADR_alloc1 tyOK ?_ ?_) | ((with_reducible refine ADR_free1 tyOK ?_ ?_ ?_); (focus rfl)) | ((with_reducible refine ADR_free0 tyOK ?_ ?_ ?_); (focus rfl)) | ((with_reducible refine ADR_read1 tyOK ?_ ?_ ?_); (focus rfl)) | (with_reducible refine ADR_chg1 tyOK ?_ ?_)); (focus (first | (with_reducible rfl) | ((simp (disch := omega) only [go_sem]); done))); simp (disch := omega) only [go_sem , hs1, hs2, Int.toNat_natCast]; (first | (with_reducible refine XRes_id ?_) | (with_reducible refine ADF_id ?_) | (with_reducible refine ADR_id1 ?_) | (with_reducible refine ADX_id ?_))) | ((first | (with_reducible refine XRes_skip ?_ ?_) | (with_reducible refine ADF_skip (b := true) ?_ ?_) | (with_reducible refine ADX_skip ?_ ?_) | ((with_reducible refine ADR_skip1 ?_ ?_ ?_); (focus rfl))); (focus (first | rfl | ((simp (disch := omega) only [go_sem]); done))); (simp only [putL, List.set_cons_succ, List.set_cons_zero]))) | ((first | (with_reducible refine XRes_nil ?_) | (with_reducible refine ADF_nil ?_) | (with_reducible refine ADR_nil ?_) | (with_reducible refine ADX_nil ?_)); (first | refine hK _ ?_ | refine hK _ _ ?_); clear hK K) | ((first | (with_reducible refine AX_reg0 fun K hK => ?_) | (refine AX_drawG1 tyOK (by kernel_rfl) (by rfl) (by kernel_rfl) fun K hK => ?_) | (refine AX_drawT tyOK (by kernel_rfl) (by decide +kernel) fun K hK => ?_) | (refine AX_drawM1 (by kernel_rfl) (by rfl) (by decide +kernel) fun K hK => ?_) | (refine AX_drawA tyOK (by kernel_rfl) (by decide +kernel) fun K hK => ?_)); (first | simp only [go_sem, preN, effOp, runF, alM, mapOp, alD2, kdOf2, Bool.not_false, Bool.not_true, reduceCtorEq] | simp only [go_sem, preN, effOp, runF, alM, mapOp, Bool.not_false, Bool.not_true, reduceCtorEq] | simp only [go_sem, preN, effOp, runF, alD2, kdOf2, Bool.not_false, Bool.not_true, reduceCtorEq] | simp only [go_sem, alD2, kdOf2, Bool.not_false, Bool.not_true, reduceCtorEq] | simp only [go_sem, preN, effOp, runF, Bool.not_false, Bool.not_true, reduceCtorEq] | simp only [go_sem])) | (first | ((refine XRes_mlook (i := 0) rfl Tryd.underlying88 unit_zero unit_plain rfl rfl rfl (by omega) ?_); simp only [putL, List.set_cons_succ, List.set_cons_zero, mSet_upd, mSet_get, mSet_is, List.nil_append, List.cons_append]))))
  refine LeadX.now ?_
  (simp only [bodyXM]; refine ⟨_, by simp only [aresults, aresult, XS.as, Tryd.results45, aload, go_sem, Option.bind_some]; rfl, ?_⟩)
  exact ⟨by first | trivial | rfl, by first | trivial | rfl, by first | trivial | rfl⟩
end Go.Proofs.YthgmjboldboclaaDoor
namespace Go.Proofs.YthgmjboldboclaaDoor
open Go.RowKit Go.Lib
set_option linter.unusedVariables false
set_option linter.unusedSimpArgs false
theorem Wb0d4a {A B : Prop} (h9 : B) (w : B → A := by (intro h9; (repeat intro K hK); refine ⟨?_⟩; (repeat (first | (first | (with_reducible first | refine AX_block ?_ | refine AX_skip ?_ | refine AX_exit ?_ | refine AX_ret ?_ | refine AX_ift ?_ | refine AX_iff ?_ | refine AX_seq_k (fun K hK => ?_) | refine ContX.use (by assumption) ?_) | simp only [thenX, inBlockX, if_true, if_false, reduceCtorEq]) | (first | ((first | (with_reducible refine XRes_op tyOK ?_ ?_) | ((with_reducible first | refine ADF_op tyOK ?_ ?_ ?_ | refine ADX_op tyOK ?_ ?_ ?_); (focus rfl)) | (with_reducible refine ADR_alloc1 tyOK ?_ ?_) | ((with_reducible refine ADR_free1 tyOK ?_ ?_ ?_); (focus rfl)) | ((with_reducible refine ADR_free0 tyOK ?_ ?_ ?_); (focus rfl)) | ((with_reducible refine ADR_read1 tyOK ?_ ?_ ?_); (focus rfl)) | (with_reducible refine ADR_chg1 tyOK ?_ ?_)); (focus (first | (with_reducible rfl) | ((simp (disch := omega) only [go_sem]); done))); simp (disch := omega) only [go_sem , hs1, hs2, hs3, Int.toNat_natCast]; (first | (with_reducible refine XRes_id ?_) | (with_reducible refine ADF_id ?_) | (with_reducible refine ADR_id1 ?_) | (with_reducible refine ADX_id ?_))) | ((first | (with_reducible refine XRes_skip ?_ ?_) | (with_reducible refine ADF_skip (b := true) ?_ ?_) | (with_reducible refine ADX_skip ?_ ?_) | ((with_reducible refine ADR_skip1 ?_ ?_ ?_); (focus rfl))); (focus (first | rfl | ((simp (disch := omega) only [go_sem]); done))); (simp only [putL, List.set_cons_succ, List.set_cons_zero]))) | ((first | (with_reducible refine XRes_nil ?_) | (with_reducible refine ADF_nil ?_) | (with_reducible refine ADR_nil ?_) | (with_reducible refine ADX_nil ?_)); (first | refine hK _ ?_ | refine hK _ _ ?_); clear hK K) | ((first | (with_reducible refine AX_reg0 fun K hK => ?_) | (refine AX_drawG1 tyOK (by kernel_rfl) (by rfl) (by kernel_rfl) fun K hK => ?_) | (refine AX_drawT tyOK (by kernel_rfl) (by decide +kernel) fun K hK => ?_) | (refine AX_drawM1 (by kernel_rfl) (by rfl) (by decide +kernel) fun K hK => ?_) | (refine AX_drawA tyOK (by kernel_rfl) (by decide +kernel) fun K hK => ?_)); (first | simp only [go_sem, preN, effOp, runF, alM, mapOp, alD2, kdOf2, Bool.not_false, Bool.not_true, reduceCtorEq] | simp only [go_sem, preN, effOp, runF, alM, mapOp, Bool.not_false, Bool.not_true, reduceCtorEq] | simp only [go_sem, preN, effOp, runF, alD2, kdOf2, Bool.not_false, Bool.not_true, reduceCtorEq] | simp only [go_sem, alD2, kdOf2, Bool.not_false, Bool.not_true, reduceCtorEq] | simp only [go_sem, preN, effOp, runF, Bool.not_false, Bool.not_true, reduceCtorEq] | simp only [go_sem])) | (first | (first | refine XTL (by rfl) hN ?_ | refine ATL tyOK (by rfl) hN ?_ | refine XTL (by rfl) hG ?_ | refine ATL tyOK (by rfl) hG ?_) | ((refine XRes_slotX (by rfl) rfl hH1 ?_); (rintro r H' M' ⟨rfl, rfl, rfl⟩); (simp only [putL, List.set_cons_succ, List.set_cons_zero])) | ((refine XRes_mputA (us := []) (i := 0) rfl Tryd.underlying88 rfl rfl rfl (by omega) rfl unit_plain (by unfold maxLen; omega) ?_); simp only [putL, List.set_cons_succ, List.set_cons_zero, mSet_upd, mSet_get, mSet_is, List.nil_append, List.cons_append])))); refine Wk.o ?_; (repeat revert hK K); exact h9)) : A := w h9
set_option maxRecDepth 100000 in
set_option maxHeartbeats 4000000 in
theorem sx_cl2a (V v : Int) (l : List UInt8) (c : List Int) (b n : Nat) (f : Int → Bool) (A0 A1 A2 A3 : Option AObj) (hV : 0 ≤ V ∧ V ≤ 1000000) (hl : l.length ≤ 1000000) (hc : c.length ≤ 1000) (h : (numR l (-V) V).2 ≠ 0 ∨ (numR l (-V) V).1 = 0) :
    SX Tryd.prog 46 [lt (.string (ba l)), .optr 4 0, .optr 8 0, .optr 5 0, .optr 7 0, .optr 6 0] [A0, A1, A2, A3, some ⟨3, [lt (.int .i64 V)]⟩, some ⟨49, [.osl 9 0 c.length 1]⟩, some ⟨88, [lt (.map (some b))]⟩, some ⟨91, [.fn 45 [] [.optr 6 0]]⟩, some ⟨3, [lt (.int .i64 v)]⟩, some ⟨3, c.map lint⟩] [(b, n, mSet f)] fun r H' M' => r = lt (.int .i64 (litE V c l)) ∧ H' = [A0, A1, A2, A3, some ⟨3, [lt (.int .i64 V)]⟩, some ⟨49, [.osl 9 0 c.length 1]⟩, some ⟨88, [lt (.map (some b))]⟩, some ⟨91, [.fn 45 [] [.optr 6 0]]⟩, some ⟨3, [lt (.int .i64 (numR l (-V) V).1)]⟩, some ⟨3, c.map lint⟩] ∧ M' = [(b, n, mSet f)] := by
  have hs1 := trivial; have hs2 := trivial; have hs3 := trivial; have hG := trivial; have hH1 := trivial
  have hN := pf_Number l (-V) V hl
  have hE : litE V c l = (numR l (-V) V).2 := by
    unfold litE
    rcases h with h | h
    · rw [if_pos h]
    · by_cases h2 : (numR l (-V) V).2 ≠ 0
      · rw [if_pos h2]
      · rw [if_neg h2, if_pos h]; simpa using (Classical.not_not.1 h2).symm
  rw [hE]
  generalize numR l (-V) V = q at *
  obtain ⟨x, e⟩ := q
  dsimp only at *
  by_cases he : e = 0
  · subst he
    obtain rfl : x = 0 := by simpa using h
    (refine SX_of_bodyL (aload tt) (aload_ok tyOK) Tryd.func46 rfl (by kernel_rfl) ?_; simp only [Tryd.ntmps46, List.length_cons, List.length_nil, Nat.reduceAdd, Nat.reduceSub, List.replicate_succ, List.replicate_zero, List.cons_append, List.nil_append])
    (refine Wk.o ?_; (repeat revert hK K); refine Wb0d4a ?_; (repeat intro K hK); refine ⟨?_⟩)
    refine LeadX.now ?_
    (simp only [bodyXM]; refine ⟨_, by simp only [aresults, aresult, XS.as, Tryd.results46, aload, go_sem, Option.bind_some]; rfl, ?_⟩)
    exact ⟨by first | trivial | rfl, by first | trivial | rfl, by first | trivial | rfl⟩
  · have hs1 : (e == 0) = false := by simpa using he
    (refine SX_of_bodyL (aload tt) (aload_ok tyOK) Tryd.func46 rfl (by kernel_rfl) ?_; simp only [Tryd.ntmps46, List.length_cons, List.length_nil, Nat.reduceAdd, Nat.reduceSub, List.replicate_succ, List.replicate_zero, List.cons_append, List.nil_append])
    (refine Wk.o ?_; (repeat revert hK K); refine Wb0d4a ?_; (repeat intro K hK); refine ⟨?_⟩)
    refine LeadX.now ?_
    (simp only [bodyXM]; refine ⟨_, by simp only [aresults, aresult, XS.as, Tryd.results46, aload, go_sem, Option.bind_some]; rfl, ?_⟩)
    exact ⟨by first | trivial | rfl, by first | trivial | rfl, by first | trivial | rfl⟩
theorem litE_go {V : Int} {c : List Int} {l : List UInt8} (h1 : (numR l (-V) V).2 = 0) (h2 : (numR l (-V) V).1 ≠ 0) : litE V c l = if c.length = 1000 then 3 else if (numR l (-V) V).1 ∈ c then 21 else if -(numR l (-V) V).1 ∈ c then 11 else 0 := by
  unfold litE; rw [if_neg (by rw [h1]; simp), if_neg h2]
set_option maxRecDepth 100000 in
set_option maxHeartbeats 4000000 in
theorem sx_cl2b (V v : Int) (l : List UInt8) (c : List Int) (b n : Nat) (f : Int → Bool) (A0 A1 A2 A3 : Option AObj) (hl : l.length ≤ 1000000) (h1 : (numR l (-V) V).2 = 0) (h2 : (numR l (-V) V).1 ≠ 0) (hV : 0 ≤ V ∧ V ≤ 1000000) (h3 : c.length = 1000) :
    SX Tryd.prog 46 [lt (.string (ba l)), .optr 4 0, .optr 8 0, .optr 5 0, .optr 7 0, .optr 6 0] [A0, A1, A2, A3, some ⟨3, [lt (.int .i64 V)]⟩, some ⟨49, [.osl 9 0 c.length 1]⟩, some ⟨88, [lt (.map (some b))]⟩, some ⟨91, [.fn 45 [] [.optr 6 0]]⟩, some ⟨3, [lt (.int .i64 v)]⟩, some ⟨3, c.map lint⟩] [(b, n, mSet f)] fun r H' M' => r = lt (.int .i64 (litE V c l)) ∧ H' = [A0, A1, A2, A3, some ⟨3, [lt (.int .i64 V)]⟩, some ⟨49, [.osl 9 0 c.length 1]⟩, some ⟨88, [lt (.map (some b))]⟩, some ⟨91, [.fn 45 [] [.optr 6 0]]⟩, some ⟨3, [lt (.int .i64 (numR l (-V) V).1)]⟩, some ⟨3, c.map lint⟩] ∧ M' = [(b, n, mSet f)] := by
  have hs1 := trivial; have hs2 := trivial; have hs3 := trivial; have hG := trivial; have hH1 := trivial
  have hN := pf_Number l (-V) V hl
  rw [litE_go h1 h2, if_pos h3]
  generalize numR l (-V) V = q at *
  obtain ⟨x, e⟩ := q
  dsimp only at *
  subst h1
  have hs1 : (x == 0) = false := by simpa using h2
  (refine SX_of_bodyL (aload tt) (aload_ok tyOK) Tryd.func46 rfl (by kernel_rfl) ?_; simp only [Tryd.ntmps46, List.length_cons, List.length_nil, Nat.reduceAdd, Nat.reduceSub, List.replicate_succ, List.replicate_zero, List.cons_append, List.nil_append])
  (refine Wk.o ?_; (repeat revert hK K); refine Wb0d4a ?_; (repeat intro K hK); refine ⟨?_⟩)
  refine LeadX.now ?_
  (simp only [bodyXM]; refine ⟨_, by simp only [aresults, aresult, XS.as, Tryd.results46, aload, go_sem, Option.bind_some]; rfl, ?_⟩)
  exact ⟨by first | trivial | rfl, by first | trivial | rfl, by first | trivial | rfl⟩
set_option maxRecDepth 100000 in
set_option maxHeartbeats 4000000 in
theorem sx_cl2c (V v : Int) (l : List UInt8) (c : List Int) (b n : Nat) (f : Int → Bool) (A0 A1 A2 A3 : Option AObj) (hl : l.length ≤ 1000000) (h1 : (numR l (-V) V).2 = 0) (h2 : (numR l (-V) V).1 ≠ 0) (hb : -1000000 ≤ (numR l (-V) V).1 ∧ (numR l (-V) V).1 ≤ 1000000) (hV : 0 ≤ V ∧ V ≤ 1000000) (h3 : c.length < 1000) (hf : f (numR l (-V) V).1 = true) (hfc : (numR l (-V) V).1 ∈ c) :
    SX Tryd.prog 46 [lt (.string (ba l)), .optr 4 0, .optr 8 0, .optr 5 0, .optr 7 0, .optr 6 0] [A0, A1, A2, A3, some ⟨3, [lt (.int .i64 V)]⟩, some ⟨49, [.osl 9 0 c.length 1]⟩, some ⟨88, [lt (.map (some b))]⟩, some ⟨91, [.fn 45 [] [.optr 6 0]]⟩, some ⟨3, [lt (.int .i64 v)]⟩, some ⟨3, c.map lint⟩] [(b, n, mSet f)] fun r H' M' => r = lt (.int .i64 (litE V c l)) ∧ H' = [A0, A1, A2, A3, some ⟨3, [lt (.int .i64 V)]⟩, some ⟨49, [.osl 9 0 c.length 1]⟩, some ⟨88, [lt (.map (some b))]⟩, some ⟨91, [.fn 45 [] [.optr 6 0]]⟩, some ⟨3, [lt (.int .i64 (numR l (-V) V).1)]⟩, some ⟨3, c.map lint⟩, some ⟨89, []⟩] ∧ M' = [(b, n, mSet f)] := by
  have hs1 := trivial; have hs2 := trivial; have hs3 := trivial; have hG := trivial; have hH1 := trivial
  have hN := pf_Number l (-V) V hl
  rw [litE_go h1 h2, if_neg (by omega), if_pos hfc]
  generalize numR l (-V) V = q at *
  obtain ⟨x, e⟩ := q
  dsimp only at *
  subst h1
  have hs1 : (x == 0) = false := by simpa using h2
  have hs2 : ((c.length : Int) == 1000) = false := by simp; omega
  have hH1 := sx_has x b n f A0 A1 A2 A3 (some ⟨3, [lt (.int .i64 V)]⟩) (some ⟨49, [.osl 9 0 c.length 1]⟩) (some ⟨91, [.fn 45 [] [.optr 6 0]]⟩) (some ⟨3, [lt (.int .i64 x)]⟩) (some ⟨3, c.map lint⟩) (by omega) (by omega)
  rw [hf] at hH1
  (refine SX_of_bodyL (aload tt) (aload_ok tyOK) Tryd.func46 rfl (by kernel_rfl) ?_; simp only [Tryd.ntmps46, List.length_cons, List.length_nil, Nat.reduceAdd, Nat.reduceSub, List.replicate_succ, List.replicate_zero, List.cons_append, List.nil_append])
  (refine Wk.o ?_; (repeat revert hK K); refine Wb0d4a ?_; (repeat intro K hK); refine ⟨?_⟩)
  refine LeadX.now ?_
  (simp only [bodyXM]; refine ⟨_, by simp only [aresults, aresult, XS.as, Tryd.results46, aload, go_sem, Option.bind_some]; rfl, ?_⟩)
  exact ⟨by first | trivial | rfl, by first | trivial | rfl, by first | trivial | rfl⟩
theorem pf_Neg6 (x : Int) : PF Tryd.prog 47 [lt (.int .i64 x)] fun r H' => r = lt (.int .i64 (lneg x)) ∧ H' = [] :=
  PF_of_walk ⟨_, Tryd.func47, by kernel_rfl, rfl⟩ fun G w vs hi hr => by
    obtain ⟨v1, us, rfl, r1, hr⟩ := hr.uncons
    rw [hr.unnil, r1.lit_inv]
    refine (lit_Neg x w).mono ?_
    rintro e w' ⟨rfl, rfl⟩
    exact ⟨rfl, Below.refl _ _⟩
end Go.Proofs.YthgmjboldboclaaDoor
namespace Go.Proofs.YthgmjboldboclaaDoor
open Go.RowKit
set_option linter.unusedVariables false
section
variable {P : Program} {m : Nat} {G0 : Gh} {H0 : AHeap} {fr : List AV} {l : List Oper} {al : List Kd} {K : List AV → AHeap → MS → Prop} {H : AHeap} {M : MS} {args : Array Operand} {tys : Array TypeId} {d : Option Tmp} {ty : TypeId} {pos : String} {after : Array Edge} {g : Option (Nat × Bool)}
theorem ADH_tellF {f : FuncId} (hw : wantedS fr ⟨d, .call { callee := .value (.func f), args := args, argTypes := tys }, ty, pos, after, g⟩ = some true) {x : AV} (hc : PF P f (args.toList.map (AS.ev ⟨fr, H⟩)) fun r H' => r = x ∧ H' = []) (hargs : ∀ a ∈ args.toList.map (AS.ev ⟨fr, H⟩), Ids 0 a) (hx : ∀ k, x.ren k = x)
    (h : ADH P m H0 K (l, al, putL fr d x, H, M)) : ADH P m H0 K (⟨d, .call { callee := .value (.func f), args := args, argTypes := tys }, ty, pos, after, g⟩ :: l, .free :: al, fr, H, M) :=
  fun n hn G0 => ⟨x, H, M, .free x rfl rfl (wanted_iff hn hw) fun H1 => does_call (.func f) args tys rfl f [] [] rfl (by
    have e : args.toList.map (AS.ev ⟨fr, H1⟩) = args.toList.map (AS.ev ⟨fr, H⟩) := List.map_congr_left fun y _ => by cases y <;> rfl
    simpa [e] using PF.tells (H := H1) hargs hx hc), h n (by show (putL _ _ _).length ≤ n; rw [putL_len]; exact hn) G0⟩
theorem AX_drawHk {Q : Exit → XS → Prop} (al : List Kd) (hmx : P.follows .mixedOrders = true) {id : Nat} {ops : List Oper} (hord : ordOK ops.toArray ops.length al = true)
    (h : ∀ (K : List AV → AHeap → MS → Prop), (∀ F H' M', m ≤ H'.length → Q .normal ⟨F, H', M'⟩ → K F H' M') → ADH P m H K (ops.map (strip (dsts ops)), al, fr, H, M)) : AX P m (.region id ops.toArray true) Q ⟨fr, H, M⟩ := fun G0 G a w hm hl0 hM hr => by
  have hsz : ops.toArray.size = ops.length := by simp
  have ord : Ord ops.toArray ops.toArray.size al := by rw [hsz]; exact ord_of hord
  obtain ⟨X, F, Hk, Mk, e1, e0, e2, e3, e4⟩ := (ADH0_strip (n := max fr.length (topD (dsts ops))) (Nat.le_max_right _ _) (h (fun F H' M' => Q .normal ⟨F, H', M'⟩) (fun _ _ _ _ h => h) (max fr.length (topD (dsts ops))) (Nat.le_max_left _ _) G0)).fns
  have st : Steps4 P m G0 ops.toArray Hk al X F Mk := ⟨fun k o ho => by rw [e0]; exact e4 k o (by simpa using ho)⟩
  have hm0 : m ≤ (Hk 0).length := by rw [e0]; exact hm
  refine wp_region_any hmx ?_
  refine any4 (m := m) (G0 := G0) (Hk := Hk) (X := X) (F := F) (Mk := Mk) ord st hm0 (R := PostX m G0 Q) (fun G' a' w' k1 k2 k3 => ⟨G', ⟨F ops.toArray.size, Hk ops.toArray.size, Mk ops.toArray.size⟩, k1, k2, Nat.le_trans hm0 (st.grow _ (Nat.le_refl _)), k3, by rw [hsz]; exact e3⟩) ops.toArray.size (Array.replicate ops.toArray.size false) a { w with drawn := w.drawn + 1 } G 0 ?_ ?_ hr.defers ?_ (Nat.zero_le _) ?_ (by rw [e0]; exact hr.inv.drew) hl0 (by rw [e2]; exact hM)
  · simp [left]
  · refine ⟨by simp, fun j hj => ?_⟩
    simp [Array.getD] at hj
  · rw [e0]
    refine ⟨by rw [e1]; have := hr.fr.1; simp at this; exact this.symm, fun t j ht hj hl => ?_, fun t ht _ => ?_⟩
    · simp [Array.getD] at hl
    · rw [e1, arr_getD]; exact hr.fr.getD t
  · intro j hj ha
    simp [Array.getD]
end
end Go.Proofs.YthgmjboldboclaaDoor
